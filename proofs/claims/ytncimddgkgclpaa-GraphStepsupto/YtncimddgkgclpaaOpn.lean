/- Graphs that came in, opened. -/
import Derived.Test.YtncimddgkgclpaaGra
import Derived.Test.YtncimddgkgclpaaRows
import Derived.ProofKit
import Derived.OpenShut
import Derived.ChangeOld
import Derived.Deep.Slices
namespace Go.Proofs.Ytncimddgkgclpaa
open Go.ChangeShapes Go.WideShapes Go.ChangeAt Go.RowKit
set_option linter.unusedVariables false
set_option linter.unusedSimpArgs false
set_option maxRecDepth 100000

theorem own : ownKnob Try.prog.godebug = none := by kernel_rfl
theorem laidOut : laidOutB Try.prog = true := by kernel_rfl
theorem cl3 : Try.prog.cellsOf 3 = 1 := by kernel_rfl
theorem cl40 : Try.prog.cellsOf 40 = 1 := by kernel_rfl
theorem cl34 : Try.prog.cellsOf 34 = 4 := by kernel_rfl
theorem cl22 : Try.prog.cellsOf 22 = 1 := by kernel_rfl
theorem cl23 : Try.prog.cellsOf 23 = 1 := by kernel_rfl
theorem cl32 : Try.prog.cellsOf 32 = 1 := by kernel_rfl
theorem cl25 : Try.prog.cellsOf 25 = 2 := by kernel_rfl
def In64 (a : Int) : Prop := -9223372036854775808 ≤ a ∧ a ≤ 9223372036854775807
def InU64 (a : Int) : Prop := 0 ≤ a ∧ a ≤ 18446744073709551615
theorem bounds_i64 {a : Int} (h : (Lit.int .i64 a).wf = true) : In64 a := by simpa [In64, Lit.wf, IntKind.min, IntKind.max, IntKind.signed, IntKind.bits] using h
theorem bounds_u64 {a : Int} (h : (Lit.int .u64 a).wf = true) : InU64 a := by simpa [InU64, Lit.wf, IntKind.min, IntKind.max, IntKind.signed, IntKind.bits] using h
theorem add_spot (B O k : Nat) : (⟨B, O, none⟩ : Addr).add k = ⟨B, O + k, none⟩ := by unfold Addr.add; split <;> simp_all
def isInt (kd : IntKind) (I : Int → Prop) (x : Int) (c : List Value) : Prop := c = [.int kd x] ∧ I x
/-- a node whose numbers are Go's -/
structure OkD (x : Nd) : Prop where
  k : In64 x.k
  i : In64 x.i
  ns : ∀ n, n ∈ x.ns → InU64 n
  ks : ∀ n, n ∈ x.ks → In64 n
structure OkG (g : Gr) : Prop where
  rs : ∀ n, n ∈ g.rs → In64 n
  nd : ∀ x, x ∈ g.nd → OkD x
section
variable {H : Type} {enc : TypeId × Value → H} {w : World} {spare : Nat → Bool} {held : Bool}
theorem open_lst {α : Type} (d0 : α) {tS e : TypeId} {sz : Nat} (hS : Try.prog.underlying tS = some (.slice e)) (hc : Try.prog.cellsOf e = sz) (hz : 0 < sz) (R : α → List Value → Prop)
    (elem : ∀ fuel cs x, DataW.trod enc Try.prog w 0 spare held fuel e cs = some x → ∃ y, R y cs) {fuel : Nat} {cs : List Value} {x : DataW H × List MemPlace}
    (h : DataW.trod enc Try.prog w 0 spare held fuel tS cs = some x) :
    ∃ (l : List α) (v : Value), cs = [v] ∧ Lst w sz R l v := by
  rcases Deep.open_slice hS h with ⟨rfl, rfl⟩ | ⟨a, len, cap, m, n, D, Pl, rfl, _, hl, hm, hmm, rfl, hx⟩
  · exact ⟨[], _, rfl, ⟨none, 0, rfl, ⟨Nat.le_refl _, Nat.zero_le _⟩, fun q => absurd q (by simp)⟩⟩
  · rw [hc] at hx
    have hlm : len ≤ m := by rw [hmm]; split <;> omega
    have hm' : cap ≤ 9223372036854775807 := hm
    have hm2 : cap ≤ maxLen := hm
    have inh : Inhabited (α × List Value) := ⟨⟨d0, []⟩⟩
    obtain ⟨T, hT⟩ := Deep.choose_lt (α := α × List Value) (n := len) (p := fun i t => w.cells? 0 (a.add (i * sz)) sz = some t.2 ∧ R t.1 t.2) (fun i hi => by
      obtain ⟨cs', h1, h2⟩ := hx i (by omega)
      obtain ⟨y, q1⟩ := elem n cs' _ h2
      exact ⟨(y, cs'), h1, q1⟩)
    have hlen : ∀ i, i < len → (T i).2.length = sz := fun i hi => (World.cells?_some (hT i hi).1).2.1
    have e : ((List.range len).map fun i => (T i).1).length = len := by simp
    refine ⟨(List.range len).map fun i => (T i).1, _, rfl, ⟨some a, cap, by rw [e], ⟨by rw [e]; exact hl, by rw [e]; exact Nat.le_trans hl hm2⟩, fun hq => ?_⟩⟩
    rw [e] at hq
    obtain ⟨B, O, spot⟩ := a
    have hs : spot = none := by
      obtain ⟨_, _, hcell⟩ := World.cells?_some (hT 0 hq).1
      have q := hcell 0 hz
      have q2 : (T 0).2[0]? = some ((T 0).2[0]'(by rw [hlen 0 hq]; exact hz)) := List.getElem?_eq_getElem _
      rw [q2] at q
      simp [Addr.add] at q
      simpa using World.cell?_spot q
    subst hs
    refine ⟨B, O, rfl, fun i y hi => ?_⟩
    have hil : i < len := by have := (List.getElem?_eq_some_iff.1 hi).1; rwa [e] at this
    have ey : y = (T i).1 := by simp [hil] at hi; exact hi.symm
    subst ey
    refine ⟨(T i).2, (hT i hil).2, fun r u hu => ?_⟩
    obtain ⟨_, _, hcell⟩ := World.cells?_some (hT i hil).1
    have hr : r < sz := by rw [← hlen i hil]; exact (List.getElem?_eq_some_iff.1 hu).1
    have q := hcell r hr
    rw [add_spot, add_spot, hu] at q
    exact q
theorem ps_of_lst {kd : IntKind} {I : Int → Prop} {l : List Int} {v : Value} (h : Lst w 1 (isInt kd I) l v) : ∃ o cap, v = .slice o l.length cap ∧ PS kd w o cap l ∧ ∀ n, n ∈ l → I n := by
  obtain ⟨ga, cap, rfl, hc, hx⟩ := h
  refine ⟨ga, cap, rfl, ⟨hc.1, hc.2, fun hn => ?_⟩, fun n hn => ?_⟩
  · obtain ⟨g, off, rfl, hy⟩ := hx hn
    refine ⟨g, off, rfl, fun i hi => ?_⟩
    obtain ⟨c, ⟨rfl, _⟩, hz⟩ := hy i _ (List.getElem?_eq_getElem hi)
    have := hz 0 _ rfl
    simpa using this
  · obtain ⟨i, hi, rfl⟩ := List.getElem_of_mem hn
    obtain ⟨g, off, rfl, hy⟩ := hx (by omega)
    obtain ⟨c, ⟨rfl, q⟩, hz⟩ := hy i _ (List.getElem?_eq_getElem hi)
    exact q
theorem op_ints {fuel : Nat} {cs : List Value} {x : DataW H × List MemPlace} (h : DataW.trod enc Try.prog w 0 spare held fuel 22 cs = some x) : ∃ (l : List Int) (o : Option Addr) (cap : Nat), cs = [.slice o l.length cap] ∧ PS .i64 w o cap l ∧ ∀ n, n ∈ l → In64 n := by
  obtain ⟨l, v, rfl, L⟩ := open_lst 0 Try.underlying22 cl3 (by decide) (isInt .i64 In64) (fun _ _ _ h => by obtain ⟨n, rfl, _, q⟩ := DataW.trod_int Try.underlying3 h; exact ⟨n, rfl, bounds_i64 q⟩) h
  obtain ⟨o, cap, rfl, P, q⟩ := ps_of_lst L
  exact ⟨l, o, cap, rfl, P, q⟩
theorem op_nums {fuel : Nat} {cs : List Value} {x : DataW H × List MemPlace} (h : DataW.trod enc Try.prog w 0 spare held fuel 32 cs = some x) : ∃ (l : List Int) (o : Option Addr) (cap : Nat), cs = [.slice o l.length cap] ∧ PS .u64 w o cap l ∧ ∀ n, n ∈ l → InU64 n := by
  obtain ⟨l, v, rfl, L⟩ := open_lst 0 Try.underlying32 cl40 (by decide) (isInt .u64 InU64) (fun _ _ _ h => by obtain ⟨n, rfl, _, q⟩ := DataW.trod_int Try.underlying40 h; exact ⟨n, rfl, bounds_u64 q⟩) h
  obtain ⟨o, cap, rfl, P, q⟩ := ps_of_lst L
  exact ⟨l, o, cap, rfl, P, q⟩
def isNdOk (w : World) (x : Nd) (c : List Value) : Prop := isNd w x c ∧ OkD x
theorem op_nd {fuel : Nat} {cs : List Value} {x : DataW H × List MemPlace} (h : DataW.trod enc Try.prog w 0 spare held fuel 34 cs = some x) : ∃ y, isNdOk w y cs := by
  obtain ⟨xs, n, _, rfl, hl, hlen, hf⟩ := DataW.trod_struct Try.underlying34 h
  rw [cl34] at hl
  match cs, hl, xs, hlen with
  | [v0, v1, v2, v3], _, [x0, x1, x2, x3], _ =>
    have f0 := hf 0 _ rfl
    have f1 := hf 1 _ rfl
    have f2 := hf 2 _ rfl
    have f3 := hf 3 _ rfl
    simp [cl3, cl32, cl22] at f0 f1 f2 f3
    obtain ⟨k0, e0, y0, w0⟩ := DataW.trod_int Try.underlying3 f0
    obtain ⟨k1, e1, y1, w1⟩ := DataW.trod_int Try.underlying3 f1
    obtain ⟨l2, o2, c2, e2, P2, b2⟩ := op_nums f2
    obtain ⟨l3, o3, c3, e3, P3, b3⟩ := op_ints f3
    simp only [List.cons.injEq, and_true] at e0 e1 e2 e3
    subst e0 e1 e2 e3
    exact ⟨⟨k0, k1, l2, l3⟩, ⟨o2, c2, o3, c3, rfl, P2, P3⟩, ⟨bounds_i64 w0, bounds_i64 w1, b2, b3⟩⟩
theorem op_nds {fuel : Nat} {cs : List Value} {x : DataW H × List MemPlace} (h : DataW.trod enc Try.prog w 0 spare held fuel 23 cs = some x) : ∃ (l : List Nd) (a : Option Addr) (ca : Nat), cs = [.slice a l.length ca] ∧ Nds w l (.slice a l.length ca) ∧ ∀ x, x ∈ l → OkD x := by
  obtain ⟨l, v, rfl, L⟩ := open_lst ⟨0, 0, [], []⟩ Try.underlying23 cl34 (by decide) (isNdOk w) (fun _ _ _ h => op_nd h) h
  have L0 := L
  obtain ⟨ga, cap, rfl, hc, hx⟩ := L0
  refine ⟨l, ga, cap, rfl, ⟨ga, cap, rfl, hc, fun hn => ?_⟩, fun n hn => ?_⟩
  · obtain ⟨g, off, rfl, hy⟩ := hx hn
    refine ⟨g, off, rfl, fun i x hi => ?_⟩
    obtain ⟨c, q, hz⟩ := hy i x hi
    exact ⟨c, q.1, hz⟩
  · obtain ⟨i, hi, rfl⟩ := List.getElem_of_mem hn
    obtain ⟨g, off, rfl, hy⟩ := hx (by omega)
    obtain ⟨c, q, hz⟩ := hy i _ (List.getElem?_eq_getElem hi)
    exact q.2
theorem open_gr {v : Value} {d : DataW H} {p : List MemPlace} (h : DataW.Trod enc Try.prog w 0 spare held 25 v d p) : ∃ (g : Gr) (o : Option Addr) (cr : Nat) (a : Option Addr) (ca : Nat), v = gv g o cr a ca ∧ Gv w g o cr a ca ∧ OkG g := by
  obtain ⟨fuel, hf⟩ := h
  obtain ⟨xs, n, _, e, hl, hlen, hf⟩ := DataW.trod_struct Try.underlying25 hf
  rw [cl25] at hl
  cases v with
  | agg cs =>
    obtain ⟨cs⟩ := cs
    simp only [Value.cells] at hl hf
    match cs, hl, xs, hlen with
    | [v0, v1], _, [x0, x1], _ =>
      have f0 := hf 0 _ rfl
      have f1 := hf 1 _ rfl
      simp [cl22, cl23] at f0 f1
      obtain ⟨l0, o0, c0, e0, P0, b0⟩ := op_ints f0
      obtain ⟨l1, o1, c1, e1, P1, b1⟩ := op_nds f1
      simp only [List.cons.injEq, and_true] at e0 e1
      subst e0 e1
      exact ⟨⟨l0, l1⟩, o0, c0, o1, c1, rfl, ⟨P0, P1⟩, ⟨b0, b1⟩⟩
  | _ => simp [Value.cells] at hl
end
end Go.Proofs.Ytncimddgkgclpaa
