/- Graphs that came in, opened, when they hold few values. -/
import Derived.Test.YtncimddgkgclpaaOpn
namespace Go.Proofs.Ytncimddgkgclpaa
open Go.ChangeShapes Go.WideShapes Go.ChangeAt Go.RowKit
set_option linter.unusedVariables false
set_option linter.unusedSimpArgs false
set_option maxRecDepth 100000

theorem blk_one {H : Type} (d : DataW H) : 1 ≤ Rows.uptoBulk d := by
  cases d with
  | lit l => cases l <;> simp [Rows.uptoBulk]
  | nil => simp [Rows.uptoBulk]
  | ptr d => simp [Rows.uptoBulk]
  | slice a b => simp [Rows.uptoBulk]
  | agg p => simp [Rows.uptoBulk]
  | iface t d => simp [Rows.uptoBulk]
  | map e => simp [Rows.uptoBulk]
  | held h => simp [Rows.uptoBulk]
theorem blk_mem {H : Type} {d : DataW H} : ∀ {l : List (DataW H)}, d ∈ l → Rows.uptoBulk d ≤ Rows.uptoBulkAll l
  | [], h => by cases h
  | x :: r, h => by
    simp only [Rows.uptoBulkAll]
    rcases List.mem_cons.1 h with e | e
    · rw [e]; omega
    · have := blk_mem e; omega
section
variable {H : Type} {enc : TypeId × Value → H} {w : World} {spare : Nat → Bool} {held : Bool}
theorem open_lstB {α : Type} (d0 : α) {tS e : TypeId} {sz : Nat} (hS : Try.prog.underlying tS = some (.slice e)) (hc : Try.prog.cellsOf e = sz) (hz : 0 < sz) (R : α → List Value → Prop)
    (elem : ∀ fuel cs x, DataW.trod enc Try.prog w 0 spare held fuel e cs = some x → Rows.uptoBulk x.1 ≤ 1048576 → ∃ y, R y cs) {fuel : Nat} {cs : List Value} {x : DataW H × List MemPlace}
    (h : DataW.trod enc Try.prog w 0 spare held fuel tS cs = some x) (hb : Rows.uptoBulk x.1 ≤ 1048576) :
    ∃ (l : List α) (v : Value), cs = [v] ∧ Lst w sz R l v ∧ l.length ≤ 1048576 := by
  rcases Deep.open_slice hS h with ⟨rfl, rfl⟩ | ⟨a, len, cap, m, n, D, Pl, rfl, _, hl, hm, hmm, rfl, hx⟩
  · exact ⟨[], _, rfl, ⟨none, 0, rfl, ⟨Nat.le_refl _, Nat.zero_le _⟩, fun q => absurd q (by simp)⟩, by simp⟩
  · rw [hc] at hx
    simp only [Rows.uptoBulk] at hb
    have hD : ∀ i, i < len → Rows.uptoBulk (D i) ≤ Rows.uptoBulkAll ((List.range len).map D) := fun i hi => blk_mem (List.mem_map.2 ⟨i, List.mem_range.2 hi, rfl⟩)
    have hlb : len ≤ Rows.uptoBulkAll ((List.range len).map D) := by
      have : ∀ l : List (DataW H), l.length ≤ Rows.uptoBulkAll l := fun l => by
        induction l with
        | nil => simp
        | cons x r ih => have := blk_one x; simp only [Rows.uptoBulkAll, List.length_cons]; omega
      simpa using this ((List.range len).map D)
    have hlm : len ≤ m := by rw [hmm]; split <;> omega
    have hm' : cap ≤ 9223372036854775807 := hm
    have hm2 : cap ≤ maxLen := hm
    have inh : Inhabited (α × List Value) := ⟨⟨d0, []⟩⟩
    obtain ⟨T, hT⟩ := Deep.choose_lt (α := α × List Value) (n := len) (p := fun i t => w.cells? 0 (a.add (i * sz)) sz = some t.2 ∧ R t.1 t.2) (fun i hi => by
      obtain ⟨cs', h1, h2⟩ := hx i (by omega)
      obtain ⟨y, q1⟩ := elem n cs' _ h2 (by show Rows.uptoBulk (D i) ≤ 1048576; have := hD i hi; omega)
      exact ⟨(y, cs'), h1, q1⟩)
    have hlen : ∀ i, i < len → (T i).2.length = sz := fun i hi => (World.cells?_some (hT i hi).1).2.1
    have e : ((List.range len).map fun i => (T i).1).length = len := by simp
    refine ⟨(List.range len).map fun i => (T i).1, _, rfl, ⟨some a, cap, by rw [e], ⟨by rw [e]; exact hl, by rw [e]; exact Nat.le_trans hl hm2⟩, fun hq => ?_⟩, by rw [e]; omega⟩
    rw [e] at hq
    obtain ⟨B, O, spot⟩ := a
    have hs : spot = none := by
      obtain ⟨_, _, hcell⟩ := World.cells?_some (hT 0 hq).1
      have q := hcell 0 hz
      have q2 : (T 0).2[0]? = some ((T 0).2[0]'(by rw [hlen 0 hq]; exact hz)) := List.getElem?_eq_getElem _
      rw [q2] at q
      simp [Addr.add] at q
      simpa using World.cell?_spot q
    subst hs
    refine ⟨B, O, rfl, fun i y hi => ?_⟩
    have hil : i < len := by have := (List.getElem?_eq_some_iff.1 hi).1; rwa [e] at this
    have ey : y = (T i).1 := by simp [hil] at hi; exact hi.symm
    subst ey
    refine ⟨(T i).2, (hT i hil).2, fun r u hu => ?_⟩
    obtain ⟨_, _, hcell⟩ := World.cells?_some (hT i hil).1
    have hr : r < sz := by rw [← hlen i hil]; exact (List.getElem?_eq_some_iff.1 hu).1
    have q := hcell r hr
    rw [add_spot, add_spot, hu] at q
    exact q
theorem op_intsB {fuel : Nat} {cs : List Value} {x : DataW H × List MemPlace} (h : DataW.trod enc Try.prog w 0 spare held fuel 22 cs = some x) (hb : Rows.uptoBulk x.1 ≤ 1048576) : ∃ (l : List Int) (o : Option Addr) (cap : Nat), cs = [.slice o l.length cap] ∧ PS .i64 w o cap l ∧ (∀ n, n ∈ l → In64 n) ∧ l.length ≤ 1048576 := by
  obtain ⟨l, v, rfl, L, hL⟩ := open_lstB 0 Try.underlying22 cl3 (by decide) (isInt .i64 In64) (fun _ _ _ h _ => by obtain ⟨n, rfl, _, q⟩ := DataW.trod_int Try.underlying3 h; exact ⟨n, rfl, bounds_i64 q⟩) h hb
  obtain ⟨o, cap, rfl, P, q⟩ := ps_of_lst L
  exact ⟨l, o, cap, rfl, P, q, hL⟩
theorem op_numsB {fuel : Nat} {cs : List Value} {x : DataW H × List MemPlace} (h : DataW.trod enc Try.prog w 0 spare held fuel 32 cs = some x) (hb : Rows.uptoBulk x.1 ≤ 1048576) : ∃ (l : List Int) (o : Option Addr) (cap : Nat), cs = [.slice o l.length cap] ∧ PS .u64 w o cap l ∧ (∀ n, n ∈ l → InU64 n) ∧ l.length ≤ 1048576 := by
  obtain ⟨l, v, rfl, L, hL⟩ := open_lstB 0 Try.underlying32 cl40 (by decide) (isInt .u64 InU64) (fun _ _ _ h _ => by obtain ⟨n, rfl, _, q⟩ := DataW.trod_int Try.underlying40 h; exact ⟨n, rfl, bounds_u64 q⟩) h hb
  obtain ⟨o, cap, rfl, P, q⟩ := ps_of_lst L
  exact ⟨l, o, cap, rfl, P, q, hL⟩
def isNdB (w : World) (x : Nd) (c : List Value) : Prop := isNdOk w x c ∧ x.ns.length ≤ 1048576
theorem op_ndB {fuel : Nat} {cs : List Value} {x : DataW H × List MemPlace} (h : DataW.trod enc Try.prog w 0 spare held fuel 34 cs = some x) (hb : Rows.uptoBulk x.1 ≤ 1048576) : ∃ y, isNdB w y cs := by
  obtain ⟨xs, n, _, rfl, hl, hlen, hf⟩ := DataW.trod_struct Try.underlying34 h
  rw [cl34] at hl
  match cs, hl, xs, hlen with
  | [v0, v1, v2, v3], _, [x0, x1, x2, x3], _ =>
    have f0 := hf 0 _ rfl
    have f1 := hf 1 _ rfl
    have f2 := hf 2 _ rfl
    have f3 := hf 3 _ rfl
    simp [cl3, cl32, cl22] at f0 f1 f2 f3
    have g2 : Rows.uptoBulk x2.1 ≤ 1048576 := by simp only [List.map_cons, List.map_nil, Rows.uptoBulk, Rows.uptoBulkAll] at hb; omega
    have g3 : Rows.uptoBulk x3.1 ≤ 1048576 := by simp only [List.map_cons, List.map_nil, Rows.uptoBulk, Rows.uptoBulkAll] at hb; omega
    obtain ⟨k0, e0, y0, w0⟩ := DataW.trod_int Try.underlying3 f0
    obtain ⟨k1, e1, y1, w1⟩ := DataW.trod_int Try.underlying3 f1
    obtain ⟨l2, o2, c2, e2, P2, b2, n2⟩ := op_numsB f2 g2
    obtain ⟨l3, o3, c3, e3, P3, b3, _⟩ := op_intsB f3 g3
    simp only [List.cons.injEq, and_true] at e0 e1 e2 e3
    subst e0 e1 e2 e3
    exact ⟨⟨k0, k1, l2, l3⟩, ⟨⟨o2, c2, o3, c3, rfl, P2, P3⟩, ⟨bounds_i64 w0, bounds_i64 w1, b2, b3⟩⟩, n2⟩
theorem op_ndsB {fuel : Nat} {cs : List Value} {x : DataW H × List MemPlace} (h : DataW.trod enc Try.prog w 0 spare held fuel 23 cs = some x) (hb : Rows.uptoBulk x.1 ≤ 1048576) : ∃ (l : List Nd) (a : Option Addr) (ca : Nat), cs = [.slice a l.length ca] ∧ Nds w l (.slice a l.length ca) ∧ ∀ x, x ∈ l → OkD x ∧ x.ns.length ≤ 1048576 := by
  obtain ⟨l, v, rfl, L, hL⟩ := open_lstB ⟨0, 0, [], []⟩ Try.underlying23 cl34 (by decide) (isNdB w) (fun _ _ _ h hb => op_ndB h hb) h hb
  have L0 := L
  obtain ⟨ga, cap, rfl, hc, hx⟩ := L0
  refine ⟨l, ga, cap, rfl, ⟨ga, cap, rfl, hc, fun hn => ?_⟩, fun n hn => ?_⟩
  · obtain ⟨g, off, rfl, hy⟩ := hx hn
    refine ⟨g, off, rfl, fun i x hi => ?_⟩
    obtain ⟨c, q, hz⟩ := hy i x hi
    exact ⟨c, q.1.1, hz⟩
  · obtain ⟨i, hi, rfl⟩ := List.getElem_of_mem hn
    obtain ⟨g, off, rfl, hy⟩ := hx (by omega)
    obtain ⟨c, q, hz⟩ := hy i _ (List.getElem?_eq_getElem hi)
    exact ⟨q.1.2, q.2⟩
theorem open_grB {v : Value} {d : DataW H} {p : List MemPlace} (h : DataW.Trod enc Try.prog w 0 spare held 25 v d p) (hb : Rows.uptoBulk d ≤ 1048576) : ∃ (g : Gr) (o : Option Addr) (cr : Nat) (a : Option Addr) (ca : Nat), v = gv g o cr a ca ∧ Gv w g o cr a ca ∧ OkG g ∧ ∀ x, x ∈ g.nd → x.ns.length ≤ 1048576 := by
  obtain ⟨fuel, hf⟩ := h
  obtain ⟨xs, n, _, e, hl, hlen, hf⟩ := DataW.trod_struct Try.underlying25 hf
  rw [cl25] at hl
  cases v with
  | agg cs =>
    obtain ⟨cs⟩ := cs
    simp only [Value.cells] at hl hf
    match cs, hl, xs, hlen with
    | [v0, v1], _, [x0, x1], _ =>
      have f0 := hf 0 _ rfl
      have f1 := hf 1 _ rfl
      simp [cl22, cl23] at f0 f1
      have hb' : Rows.uptoBulk (x0.1) ≤ 1048576 ∧ Rows.uptoBulk (x1.1) ≤ 1048576 := by
        cases e
        simp only [List.map_cons, List.map_nil, Rows.uptoBulk, Rows.uptoBulkAll] at hb
        omega
      obtain ⟨l0, o0, c0, e0, P0, b0, _⟩ := op_intsB f0 hb'.1
      obtain ⟨l1, o1, c1, e1, P1, b1⟩ := op_ndsB f1 hb'.2
      simp only [List.cons.injEq, and_true] at e0 e1
      subst e0 e1
      exact ⟨⟨l0, l1⟩, o0, c0, o1, c1, rfl, ⟨P0, P1⟩, ⟨b0, fun x hx => (b1 x hx).1⟩, fun x hx => (b1 x hx).2⟩
  | _ => simp [Value.cells] at hl
end
end Go.Proofs.Ytncimddgkgclpaa
