/- Frames and lists of frames that came in, opened. -/
import Derived.Test.YtglimbpnekephaaDoorLaid
import Derived.OpenShut
import Derived.ChangeOld
import Derived.Deep.Slices
namespace Go.Proofs.YtglimbpnekephaaDoor
open Go.ChangeShapes Go.WideShapes Go.ChangeAt Go.RowKit
set_option linter.unusedVariables false
set_option linter.unusedSimpArgs false
set_option maxRecDepth 100000

def In64 (a : Int) : Prop := -9223372036854775808 ≤ a ∧ a ≤ 9223372036854775807
theorem bounds64 {a : Int} (h : (Lit.int .i64 a).wf = true) : In64 a := by simpa [In64, Lit.wf, IntKind.min, IntKind.max, IntKind.signed, IntKind.bits] using h
theorem add_spot (B O k : Nat) : (⟨B, O, none⟩ : Addr).add k = ⟨B, O + k, none⟩ := by unfold Addr.add; split <;> simp_all
/-- a list of things of so many cells each, as a slice -/
def Lst (w : World) {α : Type} (sz : Nat) (P : α → List Value → Prop) (l : List α) (v : Value) : Prop :=
  ∃ ga cap, v = .slice ga l.length cap ∧ (l.length ≤ cap ∧ l.length ≤ 9223372036854775807) ∧
    (0 < l.length → ∃ g off, ga = some ⟨g, off, none⟩ ∧ ∀ i x, l[i]? = some x → ∃ c, P x c ∧ ∀ j u, c[j]? = some u → w.cell? ⟨g, off + i * sz + j, none⟩ = some u)
theorem Lst.later {α : Type} {w w' : World} {sz : Nat} {P P' : α → List Value → Prop} {l : List α} {v : Value} (h : Lst w sz P l v) (hb : Below w.heap.size w w') (hP : ∀ x c, P x c → P' x c) : Lst w' sz P' l v := by
  obtain ⟨ga, cap, rfl, hc, hx⟩ := h
  refine ⟨ga, cap, rfl, hc, fun hn => ?_⟩
  obtain ⟨g, off, rfl, hy⟩ := hx hn
  refine ⟨g, off, rfl, fun i x hi => ?_⟩
  obtain ⟨c, pc, hc⟩ := hy i x hi
  refine ⟨c, hP _ _ pc, fun j u hj => ?_⟩
  have := hc j u hj
  exact (hb.cell (p := ⟨g, off + i * sz + j, none⟩) (World.block_lt_of_cell? _ _ this)).trans this
theorem Lst.get {α : Type} {w : World} {sz : Nat} {P : α → List Value → Prop} {l : List α} {v : Value} (h : Lst w sz P l v) (i : Nat) (hi : i < l.length) :
    ∃ g off cap c, v = .slice (some ⟨g, off, none⟩) l.length cap ∧ l.length ≤ cap ∧ l.length ≤ 9223372036854775807 ∧ P (l[i]'hi) c ∧ ∀ j u, c[j]? = some u → w.cell? ⟨g, off + i * sz + j, none⟩ = some u := by
  obtain ⟨ga, cap, rfl, hc, hx⟩ := h
  obtain ⟨g, off, rfl, hy⟩ := hx (by omega)
  obtain ⟨c, pc, hc'⟩ := hy i _ (List.getElem?_eq_getElem hi)
  exact ⟨g, off, cap, c, rfl, hc.1, hc.2, pc, hc'⟩
def isInt (x : Int) (c : List Value) : Prop := c = [.int .i64 x]
def isFr (w : World) (f : Fr) (c : List Value) : Prop := ∃ o cap, c = [.int .i64 f.k, .int .i64 f.a, .int .i64 f.b, .slice o f.ps.length cap] ∧ PS w o cap f.ps
/-- a call: its kind, its number, its frame -/
structure Ac where
  k : Int
  n : Int
  f : Fr
def isAc (w : World) (x : Ac) (c : List Value) : Prop := ∃ o cap, c = [.int .i64 x.k, .int .i64 x.n, .int .i64 x.f.k, .int .i64 x.f.a, .int .i64 x.f.b, .slice o x.f.ps.length cap] ∧ PS w o cap x.f.ps ∧ In64 x.n
theorem isFr_later {w w' : World} (hb : Below w.heap.size w w') {f : Fr} {c : List Value} (h : isFr w f c) : isFr w' f c := by
  obtain ⟨o, cap, e, p⟩ := h
  exact ⟨o, cap, e, p.later hb⟩
theorem isAc_later {w w' : World} (hb : Below w.heap.size w w') {f : Ac} {c : List Value} (h : isAc w f c) : isAc w' f c := by
  obtain ⟨o, cap, e, p, q⟩ := h
  exact ⟨o, cap, e, p.later hb, q⟩
section
variable {H : Type} {enc : TypeId × Value → H} {w : World} {spare : Nat → Bool} {held : Bool}
theorem open_lst {α : Type} (d0 : α) {tS e : TypeId} {sz : Nat} (hS : Tryd.prog.underlying tS = some (.slice e)) (hc : Tryd.prog.cellsOf e = sz) (hz : 0 < sz) (R : α → List Value → Prop)
    (elem : ∀ fuel cs x, DataW.trod enc Tryd.prog w 0 spare held fuel e cs = some x → ∃ y, R y cs) {fuel : Nat} {cs : List Value} {x : DataW H × List MemPlace}
    (h : DataW.trod enc Tryd.prog w 0 spare held fuel tS cs = some x) :
    ∃ (l : List α) (v : Value), cs = [v] ∧ Lst w sz R l v := by
  rcases Deep.open_slice hS h with ⟨rfl, rfl⟩ | ⟨a, len, cap, m, n, D, Pl, rfl, _, hl, hm, hmm, rfl, hx⟩
  · exact ⟨[], _, rfl, ⟨none, 0, rfl, ⟨Nat.le_refl _, Nat.zero_le _⟩, fun q => absurd q (by simp)⟩⟩
  · rw [hc] at hx
    have hlm : len ≤ m := by rw [hmm]; split <;> omega
    have hm' : cap ≤ 9223372036854775807 := hm
    have inh : Inhabited (α × List Value) := ⟨⟨d0, []⟩⟩
    obtain ⟨T, hT⟩ := Deep.choose_lt (α := α × List Value) (n := len) (p := fun i t => w.cells? 0 (a.add (i * sz)) sz = some t.2 ∧ R t.1 t.2) (fun i hi => by
      obtain ⟨cs', h1, h2⟩ := hx i (by omega)
      obtain ⟨y, q1⟩ := elem n cs' _ h2
      exact ⟨(y, cs'), h1, q1⟩)
    have hlen : ∀ i, i < len → (T i).2.length = sz := fun i hi => (World.cells?_some (hT i hi).1).2.1
    have e : ((List.range len).map fun i => (T i).1).length = len := by simp
    refine ⟨(List.range len).map fun i => (T i).1, _, rfl, ⟨some a, cap, by rw [e], ⟨by rw [e]; exact hl, by rw [e]; omega⟩, fun hq => ?_⟩⟩
    rw [e] at hq
    obtain ⟨B, O, spot⟩ := a
    have hs : spot = none := by
      obtain ⟨_, _, hcell⟩ := World.cells?_some (hT 0 hq).1
      have q := hcell 0 hz
      have q2 : (T 0).2[0]? = some ((T 0).2[0]'(by rw [hlen 0 hq]; exact hz)) := List.getElem?_eq_getElem _
      rw [q2] at q
      simp [Addr.add] at q
      simpa using World.cell?_spot q
    subst hs
    refine ⟨B, O, rfl, fun i y hi => ?_⟩
    have hil : i < len := by have := (List.getElem?_eq_some_iff.1 hi).1; rwa [e] at this
    have ey : y = (T i).1 := by simp [hil] at hi; exact hi.symm
    subst ey
    refine ⟨(T i).2, (hT i hil).2, fun r u hu => ?_⟩
    obtain ⟨_, _, hcell⟩ := World.cells?_some (hT i hil).1
    have hr : r < sz := by rw [← hlen i hil]; exact (List.getElem?_eq_some_iff.1 hu).1
    have q := hcell r hr
    rw [add_spot, add_spot, hu] at q
    exact q
theorem q34 : Tryd.prog.cellsOf 34 = 1 := by kernel_rfl
theorem c38 : Tryd.prog.cellsOf 38 = 6 := by kernel_rfl
theorem ps_of_lst {l : List Int} {v : Value} (h : Lst w 1 isInt l v) : ∃ o cap, v = .slice o l.length cap ∧ PS w o cap l := by
  obtain ⟨ga, cap, rfl, hc, hx⟩ := h
  refine ⟨ga, cap, rfl, ⟨hc.1, hc.2, fun hn => ?_⟩⟩
  obtain ⟨g, off, rfl, hy⟩ := hx hn
  refine ⟨g, off, rfl, fun i hi => ?_⟩
  obtain ⟨c, rfl, hz⟩ := hy i _ (List.getElem?_eq_getElem hi)
  have := hz 0 _ rfl
  simpa using this
theorem op_ints {fuel : Nat} {cs : List Value} {x : DataW H × List MemPlace} (h : DataW.trod enc Tryd.prog w 0 spare held fuel 34 cs = some x) : ∃ (l : List Int) (o : Option Addr) (cap : Nat), cs = [.slice o l.length cap] ∧ PS w o cap l := by
  obtain ⟨l, v, rfl, L⟩ := open_lst 0 Tryd.underlying34 cells3 (by decide) isInt (fun _ _ _ h => by obtain ⟨n, rfl, _, _⟩ := DataW.trod_int Tryd.underlying3 h; exact ⟨n, rfl⟩) h
  obtain ⟨o, cap, rfl, P⟩ := ps_of_lst L
  exact ⟨l, o, cap, rfl, P⟩
theorem op_fr {fuel : Nat} {cs : List Value} {x : DataW H × List MemPlace} (h : DataW.trod enc Tryd.prog w 0 spare held fuel 36 cs = some x) : ∃ y, isFr w y cs := by
  obtain ⟨xs, n, _, rfl, hl, hlen, hf⟩ := DataW.trod_struct Tryd.underlying36 h
  rw [cells36] at hl
  match cs, hl, xs, hlen with
  | [v0, v1, v2, v3], _, [x0, x1, x2, x3], _ =>
    have f0 := hf 0 _ rfl
    have f1 := hf 1 _ rfl
    have f2 := hf 2 _ rfl
    have f3 := hf 3 _ rfl
    simp [q34, cells3] at f0 f1 f2 f3
    obtain ⟨k0, e0, y0, w0⟩ := DataW.trod_int Tryd.underlying3 f0
    obtain ⟨k1, e1, y1, w1⟩ := DataW.trod_int Tryd.underlying3 f1
    obtain ⟨k2, e2, y2, w2⟩ := DataW.trod_int Tryd.underlying3 f2
    obtain ⟨l3, o, cap, e3, P3⟩ := op_ints f3
    simp only [List.cons.injEq, and_true] at e0 e1 e2 e3
    subst e0 e1 e2 e3
    exact ⟨⟨k0, k1, k2, l3⟩, o, cap, rfl, P3⟩
theorem op_frs {fuel : Nat} {cs : List Value} {x : DataW H × List MemPlace} (h : DataW.trod enc Tryd.prog w 0 spare held fuel 29 cs = some x) : ∃ (l : List Fr) (v : Value), cs = [v] ∧ Lst w 4 (isFr w) l v :=
  open_lst ⟨0, 0, 0, []⟩ Tryd.underlying29 cells36 (by decide) (isFr w) (fun _ _ _ h => op_fr h) h
theorem op_ac {fuel : Nat} {cs : List Value} {x : DataW H × List MemPlace} (h : DataW.trod enc Tryd.prog w 0 spare held fuel 38 cs = some x) : ∃ y, isAc w y cs := by
  obtain ⟨xs, n, _, rfl, hl, hlen, hf⟩ := DataW.trod_struct Tryd.underlying38 h
  rw [c38] at hl
  match cs, hl, xs, hlen with
  | [v0, v1, v2, v3, v4, v5], _, [x0, x1, x2], _ =>
    have f0 := hf 0 _ rfl
    have f1 := hf 1 _ rfl
    have f2 := hf 2 _ rfl
    simp [cells36, cells3] at f0 f1 f2
    obtain ⟨k0, e0, y0, w0⟩ := DataW.trod_int Tryd.underlying3 f0
    obtain ⟨k1, e1, y1, w1⟩ := DataW.trod_int Tryd.underlying3 f1
    obtain ⟨f, o, cap, e2, P⟩ := op_fr f2
    simp only [List.cons.injEq, and_true] at e0 e1 e2
    obtain ⟨rfl, rfl, rfl, rfl⟩ := e2
    subst e0 e1
    exact ⟨⟨k0, k1, f⟩, o, cap, rfl, P, bounds64 w1⟩
theorem op_acs {fuel : Nat} {cs : List Value} {x : DataW H × List MemPlace} (h : DataW.trod enc Tryd.prog w 0 spare held fuel 23 cs = some x) : ∃ (l : List Ac) (v : Value), cs = [v] ∧ Lst w 6 (isAc w) l v :=
  open_lst ⟨0, 0, ⟨0, 0, 0, []⟩⟩ Tryd.underlying23 c38 (by decide) (isAc w) (fun _ _ _ h => op_ac h) h
theorem open_fr {v : Value} {d : DataW H} {p : List MemPlace} (h : DataW.Trod enc Tryd.prog w 0 spare held 36 v d p) : ∃ (f : Fr) (o : Option Addr) (cap : Nat), v = fv f o cap ∧ PS w o cap f.ps := by
  obtain ⟨fuel, hf⟩ := h
  obtain ⟨f, o, cap, e, P⟩ := op_fr hf
  refine ⟨f, o, cap, ?_, P⟩
  cases v with
  | agg cs =>
    obtain ⟨l⟩ := cs
    simp only [Value.cells] at e
    rw [e]
  | _ => simp [Value.cells] at e
theorem open_frs {a : Option Addr} {len cap : Nat} {d : DataW H} {p : List MemPlace} (h : DataW.Trod enc Tryd.prog w 0 spare held 29 (.slice a len cap) d p) : ∃ l : List Fr, Lst w 4 (isFr w) l (.slice a len cap) := by
  obtain ⟨fuel, hf⟩ := h
  obtain ⟨l, u, e, L⟩ := op_frs hf
  simp only [Value.cells, List.cons.injEq, and_true] at e
  subst e
  exact ⟨l, L⟩
theorem open_acs {a : Option Addr} {len cap : Nat} {d : DataW H} {p : List MemPlace} (h : DataW.Trod enc Tryd.prog w 0 spare held 23 (.slice a len cap) d p) : ∃ l : List Ac, Lst w 6 (isAc w) l (.slice a len cap) := by
  obtain ⟨fuel, hf⟩ := h
  obtain ⟨l, u, e, L⟩ := op_acs hf
  simp only [Value.cells, List.cons.injEq, and_true] at e
  subst e
  exact ⟨l, L⟩
end
end Go.Proofs.YtglimbpnekephaaDoor
