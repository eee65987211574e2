/- A code that came in, opened. -/
import Derived.Test.YtidplckoolmaiaaDoorLaid
import Derived.Test.YtidplckoolmaiaaDoorCdn
import Derived.OpenShut
import Derived.ChangeOld
import Derived.Deep.Slices
namespace Go.Proofs.YtidplckoolmaiaaDoor
open Go.ChangeShapes Go.WideShapes Go.ChangeAt Go.RowKit
set_option linter.unusedVariables false
set_option linter.unusedSimpArgs false
set_option maxRecDepth 100000

theorem blk_one {H : Type} (d : DataW H) : 1 ≤ Rows.uptoBulk d := by
  cases d with
  | lit l => cases l <;> simp [Rows.uptoBulk]
  | nil => simp [Rows.uptoBulk]
  | ptr d => simp [Rows.uptoBulk]
  | slice a b => simp [Rows.uptoBulk]
  | agg p => simp [Rows.uptoBulk]
  | iface t d => simp [Rows.uptoBulk]
  | map e => simp [Rows.uptoBulk]
  | held h => simp [Rows.uptoBulk]
theorem blk_mem {H : Type} {d : DataW H} : ∀ {l : List (DataW H)}, d ∈ l → Rows.uptoBulk d ≤ Rows.uptoBulkAll l
  | [], h => by cases h
  | x :: r, h => by
    simp only [Rows.uptoBulkAll]
    rcases List.mem_cons.1 h with e | e
    · rw [e]; omega
    · have := blk_mem e; omega
theorem blk_len {H : Type} (l : List (DataW H)) : l.length ≤ Rows.uptoBulkAll l := by
  induction l with
  | nil => simp
  | cons x r ih => have := blk_one x; simp only [Rows.uptoBulkAll, List.length_cons]; omega
theorem bounds64 {a : Int} (h : (Lit.int .i64 a).wf = true) : In64 a := by simpa [In64, Lit.wf, IntKind.min, IntKind.max, IntKind.signed, IntKind.bits] using h
theorem add_spot (B O k : Nat) : (⟨B, O, none⟩ : Addr).add k = ⟨B, O + k, none⟩ := by unfold Addr.add; split <;> simp_all
section
variable {H : Type} {enc : TypeId × Value → H} {w : World} {spare : Nat → Bool} {held : Bool}
theorem open_lst {α : Type} (d0 : α) {tS e : TypeId} {sz : Nat} (hS : Tryd.prog.underlying tS = some (.slice e)) (hc : Tryd.prog.cellsOf e = sz) (hz : 0 < sz) (R : α → List Value → Prop) (Fn : α → Prop)
    (elem : ∀ fuel cs x, DataW.trod enc Tryd.prog w 0 spare held fuel e cs = some x → ∃ y, R y cs ∧ (Rows.uptoBulk x.1 ≤ 1048576 → Fn y)) {fuel : Nat} {cs : List Value} {x : DataW H × List MemPlace}
    (h : DataW.trod enc Tryd.prog w 0 spare held fuel tS cs = some x) :
    ∃ (l : List α) (v : Value), cs = [v] ∧ Lst w sz R l v ∧ (Rows.uptoBulk x.1 ≤ 1048576 → l.length ≤ 1048576 ∧ ∀ y ∈ l, Fn y) := by
  rcases Deep.open_slice hS h with ⟨rfl, rfl⟩ | ⟨a, len, cap, m, n, D, Pl, rfl, _, hl, hm, hmm, rfl, hx⟩
  · exact ⟨[], _, rfl, ⟨none, 0, rfl, ⟨Nat.le_refl _, Nat.zero_le _⟩, fun q => absurd q (by simp)⟩, fun _ => ⟨by simp, fun y hy => (by cases hy)⟩⟩
  · rw [hc] at hx
    have hlm : len ≤ m := by rw [hmm]; split <;> omega
    have inh : Inhabited (α × List Value) := ⟨⟨d0, []⟩⟩
    obtain ⟨T, hT⟩ := Deep.choose_lt (α := α × List Value) (n := len) (p := fun i t => w.cells? 0 (a.add (i * sz)) sz = some t.2 ∧ R t.1 t.2 ∧ (Rows.uptoBulk (D i) ≤ 1048576 → Fn t.1)) (fun i hi => by
      obtain ⟨cs', h1, h2⟩ := hx i (by omega)
      obtain ⟨y, q1, q2⟩ := elem n cs' _ h2
      exact ⟨(y, cs'), h1, q1, q2⟩)
    have hlen : ∀ i, i < len → (T i).2.length = sz := fun i hi => (World.cells?_some (hT i hi).1).2.1
    have e : ((List.range len).map fun i => (T i).1).length = len := by simp
    refine ⟨(List.range len).map fun i => (T i).1, _, rfl, ⟨some a, cap, by rw [e], ⟨by rw [e]; exact hl, by rw [e]; omega⟩, fun hq => ?_⟩, fun hb => ⟨?_, fun y hy => ?_⟩⟩
    · rw [e] at hq
      obtain ⟨B, O, spot⟩ := a
      have hs : spot = none := by
        obtain ⟨_, _, hcell⟩ := World.cells?_some (hT 0 hq).1
        have q := hcell 0 hz
        have q2 : (T 0).2[0]? = some ((T 0).2[0]'(by rw [hlen 0 hq]; exact hz)) := List.getElem?_eq_getElem _
        rw [q2] at q
        simp [Addr.add] at q
        simpa using World.cell?_spot q
      subst hs
      refine ⟨B, O, rfl, fun i y hi => ?_⟩
      have hil : i < len := by have := (List.getElem?_eq_some_iff.1 hi).1; rwa [e] at this
      have ey : y = (T i).1 := by simp [hil] at hi; exact hi.symm
      subst ey
      refine ⟨(T i).2, (hT i hil).2.1, fun r u hu => ?_⟩
      obtain ⟨_, _, hcell⟩ := World.cells?_some (hT i hil).1
      have hr : r < sz := by rw [← hlen i hil]; exact (List.getElem?_eq_some_iff.1 hu).1
      have q := hcell r hr
      rw [add_spot, add_spot, hu] at q
      exact q
    · rw [e]
      simp only [Rows.uptoBulk] at hb
      have := blk_len ((List.range len).map D)
      simp at this
      omega
    · obtain ⟨i, hi, rfl⟩ := List.mem_map.1 hy
      have hi := List.mem_range.1 hi
      refine (hT i hi).2.2 ?_
      simp only [Rows.uptoBulk] at hb
      have := blk_mem (d := D i) (l := (List.range len).map D) (List.mem_map.2 ⟨i, List.mem_range.2 hi, rfl⟩)
      omega
theorem c46 : Tryd.prog.cellsOf 46 = 2 := by kernel_rfl
theorem c56 : Tryd.prog.cellsOf 56 = 2 := by kernel_rfl
theorem c48 : Tryd.prog.cellsOf 48 = 4 := by kernel_rfl
theorem c73 : Tryd.prog.cellsOf 73 = 4 := by kernel_rfl
theorem c30 : Tryd.prog.cellsOf 30 = 4 := by kernel_rfl
theorem c42 : Tryd.prog.cellsOf 42 = 7 := by kernel_rfl
theorem c27 : Tryd.prog.cellsOf 27 = 4 := by kernel_rfl
theorem q2 : Tryd.prog.cellsOf 2 = 1 := by kernel_rfl
theorem q3 : Tryd.prog.cellsOf 3 = 1 := by kernel_rfl
theorem q9 : Tryd.prog.cellsOf 9 = 1 := by kernel_rfl
theorem q22 : Tryd.prog.cellsOf 22 = 1 := by kernel_rfl
theorem q23 : Tryd.prog.cellsOf 23 = 1 := by kernel_rfl
theorem q24 : Tryd.prog.cellsOf 24 = 1 := by kernel_rfl
theorem q25 : Tryd.prog.cellsOf 25 = 1 := by kernel_rfl
theorem q28 : Tryd.prog.cellsOf 28 = 1 := by kernel_rfl
theorem q39 : Tryd.prog.cellsOf 39 = 1 := by kernel_rfl
theorem q40 : Tryd.prog.cellsOf 40 = 1 := by kernel_rfl
theorem op_int {fuel : Nat} {cs : List Value} {x : DataW H × List MemPlace} (h : DataW.trod enc Tryd.prog w 0 spare held fuel 3 cs = some x) : ∃ y, isInt y cs ∧ (Rows.uptoBulk x.1 ≤ 1048576 → True) := by
  obtain ⟨n, rfl, _, hw⟩ := DataW.trod_int Tryd.underlying3 h
  exact ⟨n, ⟨rfl, bounds64 hw⟩, fun _ => trivial⟩
theorem op_ints {fuel : Nat} {cs : List Value} {x : DataW H × List MemPlace} (h : DataW.trod enc Tryd.prog w 0 spare held fuel 28 cs = some x) : ∃ (l : List Int) (v : Value), cs = [v] ∧ Lst w 1 isInt l v ∧ (Rows.uptoBulk x.1 ≤ 1048576 → l.length ≤ 1048576 ∧ ∀ y ∈ l, True) := by
  exact open_lst 0 Tryd.underlying28 q3 (by decide) isInt (fun _ => True) (fun _ _ _ h => op_int h) h
theorem op_con {fuel : Nat} {cs : List Value} {x : DataW H × List MemPlace} (h : DataW.trod enc Tryd.prog w 0 spare held fuel 46 cs = some x) : ∃ y, isCon y cs ∧ (Rows.uptoBulk x.1 ≤ 1048576 → True) := by
  obtain ⟨xs, n, _, rfl, hl, hlen, hf⟩ := DataW.trod_struct Tryd.underlying46 h
  rw [c46] at hl
  match cs, hl, xs, hlen with
  | [v0, v1], _, [x0, x1], _ =>
    have f0 := hf 0 _ rfl
    have f1 := hf 1 _ rfl
    simp [q3, q9] at f0 f1
    obtain ⟨k0, e0, y0, w0⟩ := DataW.trod_string Tryd.underlying9 f0
    obtain ⟨k1, e1, y1, w1⟩ := DataW.trod_int Tryd.underlying3 f1
    simp only [List.cons.injEq, and_true] at e0 e1
    subst e0 e1
    exact ⟨k1, ⟨_, rfl⟩, fun _ => trivial⟩
theorem op_glo {fuel : Nat} {cs : List Value} {x : DataW H × List MemPlace} (h : DataW.trod enc Tryd.prog w 0 spare held fuel 56 cs = some x) : ∃ y, isCon y cs ∧ (Rows.uptoBulk x.1 ≤ 1048576 → True) := by
  obtain ⟨xs, n, _, rfl, hl, hlen, hf⟩ := DataW.trod_struct Tryd.underlying56 h
  rw [c56] at hl
  match cs, hl, xs, hlen with
  | [v0, v1], _, [x0, x1], _ =>
    have f0 := hf 0 _ rfl
    have f1 := hf 1 _ rfl
    simp [q3, q9] at f0 f1
    obtain ⟨k0, e0, y0, w0⟩ := DataW.trod_string Tryd.underlying9 f0
    obtain ⟨k1, e1, y1, w1⟩ := DataW.trod_int Tryd.underlying3 f1
    simp only [List.cons.injEq, and_true] at e0 e1
    subst e0 e1
    exact ⟨k1, ⟨_, rfl⟩, fun _ => trivial⟩
theorem op_inf {fuel : Nat} {cs : List Value} {x : DataW H × List MemPlace} (h : DataW.trod enc Tryd.prog w 0 spare held fuel 48 cs = some x) : ∃ y, isInf y cs ∧ (Rows.uptoBulk x.1 ≤ 1048576 → True) := by
  obtain ⟨xs, n, _, rfl, hl, hlen, hf⟩ := DataW.trod_struct Tryd.underlying48 h
  rw [c48] at hl
  match cs, hl, xs, hlen with
  | [v0, v1, v2, v3], _, [x0, x1, x2, x3], _ =>
    have f0 := hf 0 _ rfl
    have f1 := hf 1 _ rfl
    have f2 := hf 2 _ rfl
    have f3 := hf 3 _ rfl
    simp [q3] at f0 f1 f2 f3
    obtain ⟨k0, e0, y0, w0⟩ := DataW.trod_int Tryd.underlying3 f0
    obtain ⟨k1, e1, y1, w1⟩ := DataW.trod_int Tryd.underlying3 f1
    obtain ⟨k2, e2, y2, w2⟩ := DataW.trod_int Tryd.underlying3 f2
    obtain ⟨k3, e3, y3, w3⟩ := DataW.trod_int Tryd.underlying3 f3
    simp only [List.cons.injEq, and_true] at e0 e1 e2 e3
    subst e0 e1 e2 e3
    exact ⟨⟨k0, k1, k2, k3⟩, rfl, fun _ => trivial⟩
theorem op_arm {fuel : Nat} {cs : List Value} {x : DataW H × List MemPlace} (h : DataW.trod enc Tryd.prog w 0 spare held fuel 73 cs = some x) : ∃ y, isArm y cs ∧ (Rows.uptoBulk x.1 ≤ 1048576 → True) := by
  obtain ⟨xs, n, _, rfl, hl, hlen, hf⟩ := DataW.trod_struct Tryd.underlying73 h
  rw [c73] at hl
  match cs, hl, xs, hlen with
  | [v0, v1, v2, v3], _, [x0, x1, x2, x3], _ =>
    have f0 := hf 0 _ rfl
    have f1 := hf 1 _ rfl
    have f2 := hf 2 _ rfl
    have f3 := hf 3 _ rfl
    simp [q2, q3] at f0 f1 f2 f3
    obtain ⟨k0, e0, y0, w0⟩ := DataW.trod_int Tryd.underlying3 f0
    obtain ⟨k1, e1, y1, w1⟩ := DataW.trod_int Tryd.underlying3 f1
    obtain ⟨k2, e2, y2, w2⟩ := DataW.trod_int Tryd.underlying2 f2
    obtain ⟨k3, e3, y3, w3⟩ := DataW.trod_int Tryd.underlying3 f3
    simp only [List.cons.injEq, and_true] at e0 e1 e2 e3
    subst e0 e1 e2 e3
    exact ⟨⟨k0, k1, k2, k3⟩, rfl, fun _ => trivial⟩
theorem op_mk {fuel : Nat} {cs : List Value} {x : DataW H × List MemPlace} (h : DataW.trod enc Tryd.prog w 0 spare held fuel 30 cs = some x) : ∃ y, isMk w y cs ∧ (Rows.uptoBulk x.1 ≤ 1048576 → True) := by
  obtain ⟨xs, n, _, rfl, hl, hlen, hf⟩ := DataW.trod_struct Tryd.underlying30 h
  rw [c30] at hl
  match cs, hl, xs, hlen with
  | [v0, v1, v2, v3], _, [x0, x1, x2, x3], _ =>
    have f0 := hf 0 _ rfl
    have f1 := hf 1 _ rfl
    have f2 := hf 2 _ rfl
    have f3 := hf 3 _ rfl
    simp [q2, q28, q3] at f0 f1 f2 f3
    obtain ⟨k0, e0, y0, w0⟩ := DataW.trod_int Tryd.underlying3 f0
    obtain ⟨k1, e1, y1, w1⟩ := DataW.trod_int Tryd.underlying3 f1
    obtain ⟨k2, e2, y2, w2⟩ := DataW.trod_int Tryd.underlying2 f2
    obtain ⟨l3, u3, e3, L3, S3⟩ := op_ints f3
    simp only [List.cons.injEq, and_true] at e0 e1 e2 e3
    subst e0 e1 e2 e3
    exact ⟨⟨k0, k1, k2, l3⟩, ⟨_, rfl, L3⟩, fun _ => trivial⟩
theorem op_mks {fuel : Nat} {cs : List Value} {x : DataW H × List MemPlace} (h : DataW.trod enc Tryd.prog w 0 spare held fuel 39 cs = some x) : ∃ (l : List Mk) (v : Value), cs = [v] ∧ Lst w 4 (isMk w) l v ∧ (Rows.uptoBulk x.1 ≤ 1048576 → l.length ≤ 1048576 ∧ ∀ y ∈ l, True) := by
  exact open_lst ⟨0, 0, 0, []⟩ Tryd.underlying39 c30 (by decide) (isMk w) (fun _ => True) (fun _ _ _ h => op_mk h) h
theorem op_arms {fuel : Nat} {cs : List Value} {x : DataW H × List MemPlace} (h : DataW.trod enc Tryd.prog w 0 spare held fuel 40 cs = some x) : ∃ (l : List Arm) (v : Value), cs = [v] ∧ Lst w 4 isArm l v ∧ (Rows.uptoBulk x.1 ≤ 1048576 → l.length ≤ 1048576 ∧ ∀ y ∈ l, True) := by
  exact open_lst ⟨0, 0, 0, 0⟩ Tryd.underlying40 c73 (by decide) isArm (fun _ => True) (fun _ _ _ h => op_arm h) h
theorem op_ins {fuel : Nat} {cs : List Value} {x : DataW H × List MemPlace} (h : DataW.trod enc Tryd.prog w 0 spare held fuel 42 cs = some x) : ∃ y, isIns w y cs ∧ (Rows.uptoBulk x.1 ≤ 1048576 → Sm y ∧ In64 y.a) := by
  obtain ⟨xs, n, _, rfl, hl, hlen, hf⟩ := DataW.trod_struct Tryd.underlying42 h
  rw [c42] at hl
  match cs, hl, xs, hlen with
  | [v0, v1, v2, v3, v4, v5, v6], _, [x0, x1, x2, x3, x4, x5, x6], _ =>
    have f0 := hf 0 _ rfl
    have f1 := hf 1 _ rfl
    have f2 := hf 2 _ rfl
    have f3 := hf 3 _ rfl
    have f4 := hf 4 _ rfl
    have f5 := hf 5 _ rfl
    have f6 := hf 6 _ rfl
    simp [q28, q3, q39, q40] at f0 f1 f2 f3 f4 f5 f6
    obtain ⟨k0, e0, y0, w0⟩ := DataW.trod_int Tryd.underlying3 f0
    obtain ⟨k1, e1, y1, w1⟩ := DataW.trod_int Tryd.underlying3 f1
    obtain ⟨k2, e2, y2, w2⟩ := DataW.trod_int Tryd.underlying3 f2
    obtain ⟨l3, u3, e3, L3, S3⟩ := op_ints f3
    obtain ⟨l4, u4, e4, L4, S4⟩ := op_ints f4
    obtain ⟨l5, u5, e5, L5, S5⟩ := op_mks f5
    obtain ⟨l6, u6, e6, L6, S6⟩ := op_arms f6
    simp only [List.cons.injEq, and_true] at e0 e1 e2 e3 e4 e5 e6
    subst e0 e1 e2 e3 e4 e5 e6
    refine ⟨⟨k0, k1, k2, l3, l4, l5, l6⟩, ⟨_, _, _, _, rfl, L3, L4, L5, L6⟩, fun hb => ?_⟩
    simp only [List.map_cons, List.map_nil, Rows.uptoBulk, Rows.uptoBulkAll] at hb
    have a3 := (S3 (by omega)).1
    have a4 := (S4 (by omega)).1
    have a5 := (S5 (by omega)).1
    have a6 := (S6 (by omega)).1
    exact ⟨⟨by show l3.length ≤ _; omega, by show l4.length ≤ _; omega, by show l5.length ≤ _; omega, by show l6.length ≤ _; omega⟩, bounds64 w1⟩
theorem op_cons {fuel : Nat} {cs : List Value} {x : DataW H × List MemPlace} (h : DataW.trod enc Tryd.prog w 0 spare held fuel 22 cs = some x) : ∃ (l : List Int) (v : Value), cs = [v] ∧ Lst w 2 isCon l v ∧ (Rows.uptoBulk x.1 ≤ 1048576 → l.length ≤ 1048576 ∧ ∀ y ∈ l, True) := by
  exact open_lst 0 Tryd.underlying22 c46 (by decide) isCon (fun _ => True) (fun _ _ _ h => op_con h) h
theorem op_glos {fuel : Nat} {cs : List Value} {x : DataW H × List MemPlace} (h : DataW.trod enc Tryd.prog w 0 spare held fuel 23 cs = some x) : ∃ (l : List Int) (v : Value), cs = [v] ∧ Lst w 2 isCon l v ∧ (Rows.uptoBulk x.1 ≤ 1048576 → l.length ≤ 1048576 ∧ ∀ y ∈ l, True) := by
  exact open_lst 0 Tryd.underlying23 c56 (by decide) isCon (fun _ => True) (fun _ _ _ h => op_glo h) h
theorem op_infs {fuel : Nat} {cs : List Value} {x : DataW H × List MemPlace} (h : DataW.trod enc Tryd.prog w 0 spare held fuel 24 cs = some x) : ∃ (l : List Inf) (v : Value), cs = [v] ∧ Lst w 4 isInf l v ∧ (Rows.uptoBulk x.1 ≤ 1048576 → l.length ≤ 1048576 ∧ ∀ y ∈ l, True) := by
  exact open_lst ⟨0, 0, 0, 0⟩ Tryd.underlying24 c48 (by decide) isInf (fun _ => True) (fun _ _ _ h => op_inf h) h
theorem op_inss {fuel : Nat} {cs : List Value} {x : DataW H × List MemPlace} (h : DataW.trod enc Tryd.prog w 0 spare held fuel 25 cs = some x) : ∃ (l : List Ins) (v : Value), cs = [v] ∧ Lst w 7 (isIns w) l v ∧ (Rows.uptoBulk x.1 ≤ 1048576 → l.length ≤ 1048576 ∧ ∀ y ∈ l, Sm y ∧ In64 y.a) := by
  exact open_lst ⟨0, 0, 0, [], [], [], []⟩ Tryd.underlying25 c42 (by decide) (isIns w) (fun y => Sm y ∧ In64 y.a) (fun _ _ _ h => op_ins h) h
theorem op_code {fuel : Nat} {cs : List Value} {x : DataW H × List MemPlace} (h : DataW.trod enc Tryd.prog w 0 spare held fuel 27 cs = some x) : ∃ (c : Cd) (vc vg vi vn : Value), cs = [vc, vg, vi, vn] ∧ Cv w c vc vg vi vn ∧ (Rows.uptoBulk x.1 ≤ 1048576 → Sc c ∧ c.co.length ≤ 1048576 ∧ c.inf.length ≤ 1048576 ∧ c.ins.length ≤ 1048576) := by
  obtain ⟨xs, n, _, rfl, hl, hlen, hf⟩ := DataW.trod_struct Tryd.underlying27 h
  rw [c27] at hl
  match cs, hl, xs, hlen with
  | [v0, v1, v2, v3], _, [x0, x1, x2, x3], _ =>
    have f0 := hf 0 _ rfl
    have f1 := hf 1 _ rfl
    have f2 := hf 2 _ rfl
    have f3 := hf 3 _ rfl
    simp [q22, q23, q24, q25] at f0 f1 f2 f3
    obtain ⟨l0, u0, e0, L0, S0⟩ := op_cons f0
    obtain ⟨l1, u1, e1, L1, S1⟩ := op_glos f1
    obtain ⟨l2, u2, e2, L2, S2⟩ := op_infs f2
    obtain ⟨l3, u3, e3, L3, S3⟩ := op_inss f3
    simp only [List.cons.injEq, and_true] at e0 e1 e2 e3
    subst e0 e1 e2 e3
    refine ⟨⟨l0, l1, l2, l3⟩, _, _, _, _, rfl, ⟨L0, L1, L2, L3⟩, fun hb => ?_⟩
    simp only [List.map_cons, List.map_nil, Rows.uptoBulk, Rows.uptoBulkAll] at hb
    have a0 := (S0 (by omega)).1
    have a2 := (S2 (by omega)).1
    obtain ⟨a3, a4⟩ := S3 (by omega)
    exact ⟨⟨by show l3.length ≤ _; omega, a4⟩, a0, a2, a3⟩
theorem open_code {v : Value} {d : DataW H} {p : List MemPlace} (h : DataW.Trod enc Tryd.prog w 0 spare held 27 v d p) : ∃ (c : Cd) (vc vg vi vn : Value), v = .agg #[vc, vg, vi, vn] ∧ Cv w c vc vg vi vn ∧ (Rows.uptoBulk d ≤ 1048576 → Sc c ∧ c.co.length ≤ 1048576 ∧ c.inf.length ≤ 1048576 ∧ c.ins.length ≤ 1048576) := by
  obtain ⟨fuel, hf⟩ := h
  obtain ⟨c, vc, vg, vi, vn, e, V, S⟩ := op_code hf
  refine ⟨c, vc, vg, vi, vn, ?_, V, S⟩
  cases v with
  | agg cs =>
    obtain ⟨l⟩ := cs
    simp only [Value.cells] at e
    rw [e]
  | _ => simp [Value.cells] at e
theorem open_make {v : Value} {d : DataW H} {p : List MemPlace} (h : DataW.Trod enc Tryd.prog w 0 spare held 30 v d p) : ∃ (m : Mk) (vf : Value), v = .agg #[.int .i64 m.k, .int .i64 m.i, .int .i64 m.n, vf] ∧ Lst w 1 isInt m.fr vf := by
  obtain ⟨fuel, hf⟩ := h
  obtain ⟨m, ⟨vf, e, L⟩, _⟩ := op_mk hf
  refine ⟨m, vf, ?_, L⟩
  cases v with
  | agg cs =>
    obtain ⟨l⟩ := cs
    simp only [Value.cells] at e
    rw [e]
  | _ => simp [Value.cells] at e
end
end Go.Proofs.YtidplckoolmaiaaDoor
