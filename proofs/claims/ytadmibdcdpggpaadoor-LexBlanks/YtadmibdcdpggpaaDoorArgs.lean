/- A slice of tokens that came in, opened. -/
import Derived.Test.YtadmibdcdpggpaaDoorLaid
import Derived.Test.YtadmibdcdpggpaaDoorBack
import Derived.OpenShut
import Derived.ChangeOld
import Derived.Deep.Slices
namespace Go.Proofs.YtadmibdcdpggpaaDoor
open Go.ChangeShapes Go.WideShapes Go.ChangeAt Go.RowKit
set_option linter.unusedVariables false
set_option maxRecDepth 100000

theorem bounds_i64' {a : Int} (h : (Lit.int .i64 a).wf = true) : -9223372036854775808 ≤ a ∧ a ≤ 9223372036854775807 := by simpa [Lit.wf, IntKind.min, IntKind.max, IntKind.signed, IntKind.bits] using h
def In64 (a : Int) : Prop := -9223372036854775808 ≤ a ∧ a ≤ 9223372036854775807

/-- Tokens that came in lie in memory from a place on; their numbers are of 64 bits, their texts not too long for a machine. -/
def LiesA (w : World) (g off : Nat) (ts : List ATok) : Prop := ∀ (i : Nat) (h : i < ts.length),
  w.cell? ⟨g, off + i * 4, none⟩ = some (.int .i64 (ts[i]'h).kind) ∧ w.cell? ⟨g, off + i * 4 + 1, none⟩ = some (.string (str (ts[i]'h).text)) ∧
  w.cell? ⟨g, off + i * 4 + 2, none⟩ = some (.int .i64 (ts[i]'h).num) ∧ w.cell? ⟨g, off + i * 4 + 3, none⟩ = some (.int .i64 (ts[i]'h).at')
def Fit (t : ATok) : Prop := In64 t.kind ∧ In64 t.num ∧ t.text.length ≤ 140737488351232
/-- What the walk is told of a slice of tokens that came in. -/
def IsToks (w : World) (a : Option Addr) (ts : List ATok) : Prop := (0 < ts.length → ∃ g off, a = some ⟨g, off, none⟩ ∧ LiesA w g off ts) ∧ ∀ t ∈ ts, Fit t
theorem LiesA.later {w w' : World} {g off : Nat} {ts : List ATok} (h : LiesA w g off ts) (hb : Below w.heap.size w w') : LiesA w' g off ts := fun i hi => by
  obtain ⟨a, b, c, d⟩ := h i hi
  exact ⟨(hb.cell (World.block_lt_of_cell? _ _ a)).trans a, (hb.cell (World.block_lt_of_cell? _ _ b)).trans b, (hb.cell (World.block_lt_of_cell? _ _ c)).trans c, (hb.cell (World.block_lt_of_cell? _ _ d)).trans d⟩
theorem IsToks.later {w w' : World} {a : Option Addr} {ts : List ATok} (h : IsToks w a ts) (hb : Below w.heap.size w w') : IsToks w' a ts :=
  ⟨fun q => by obtain ⟨g, off, e, l⟩ := h.1 q; exact ⟨g, off, e, l.later hb⟩, h.2⟩

theorem add_add (B O i j : Nat) : ((⟨B, O, none⟩ : Addr).add i).add j = ⟨B, O + i + j, none⟩ := by
  unfold Addr.add
  split <;> split <;> simp_all
section
variable {H : Type} {enc : TypeId × Value → H} {w : World} {base : Nat} {spare : Nat → Bool} {held : Bool}
theorem tok_fields {fuel : Nat} {cs : List Value} {x : DataW H × List MemPlace} (h : DataW.trod enc Tryd.prog w base spare held fuel 38 cs = some x) :
    ∃ t : ATok, cs = [.int .i64 t.kind, .string (str t.text), .int .i64 t.num, .int .i64 t.at'] ∧ In64 t.kind ∧ In64 t.num ∧ ∃ d2 d3, x.1 = .agg [.lit (.int .i64 t.kind), .lit (.string t.text), d2, d3] := by
  obtain ⟨xs, n, _, rfl, hl, hlen, hf⟩ := DataW.trod_struct Tryd.underlying38 h
  have c38 : Tryd.prog.cellsOf 38 = 4 := by kernel_rfl
  have c3 : Tryd.prog.cellsOf 3 = 1 := by kernel_rfl
  have c2 : Tryd.prog.cellsOf 2 = 1 := by kernel_rfl
  have c9 : Tryd.prog.cellsOf 9 = 1 := by kernel_rfl
  rw [c38] at hl
  match cs, hl, xs, hlen with
  | [v0, v1, v2, v3], _, [x0, x1, x2, x3], _ =>
    have f0 := hf 0 _ rfl
    have f1 := hf 1 _ rfl
    have f2 := hf 2 _ rfl
    have f3 := hf 3 _ rfl
    simp [c3, c2, c9] at f0 f1 f2 f3
    obtain ⟨k0, e0, y0, w0⟩ := DataW.trod_int Tryd.underlying3 f0
    obtain ⟨s1, e1, y1, w1⟩ := DataW.trod_string Tryd.underlying9 f1
    obtain ⟨k2, e2, y2, w2⟩ := DataW.trod_int Tryd.underlying2 f2
    obtain ⟨k3, e3, y3, w3⟩ := DataW.trod_int Tryd.underlying3 f3
    simp only [List.cons.injEq, and_true] at e0 e1 e2 e3
    subst e0 e1 e2 e3
    refine ⟨⟨k0, s1.data.toList, k2, k3⟩, ?_, bounds_i64' w0, bounds_i64' w2, x2.1, x3.1, ?_⟩
    · simp only [← str_eq (s := s1) rfl]
    · simp [y0, y1]

theorem tok_weight {t : ATok} {d2 d3 : DataW H} : t.text.length ∈ DataW.weights Tryd.prog 38 (.agg [.lit (.int .i64 t.kind), .lit (.string t.text), d2, d3] : DataW H) := by
  simp [DataW.weights, Tryd.underlying38, DataW.weightsEach]
theorem weights_all {e : TypeId} {d : DataW H} : ∀ {l : List (DataW H)} {x : Nat}, d ∈ l → x ∈ d.weights Tryd.prog e → x ∈ DataW.weightsAll Tryd.prog e l
  | [], _, h, _ => by cases h
  | d' :: r, x, h, hx => by
    rw [DataW.weightsAll]
    rcases List.mem_cons.1 h with rfl | h
    · exact List.mem_append_left _ hx
    · exact List.mem_append_right _ (weights_all h hx)
theorem open_toks {a : Option Addr} {len cap : Nat} {d : DataW H} {p : List MemPlace} (h : DataW.Trod enc Tryd.prog w base spare held 22 (.slice a len cap) d p)
    (hw : ∀ x ∈ d.weights Tryd.prog 22, x ≤ reachBytes) : ∃ ts : List ATok, ts.length = len ∧ len * 40 ≤ reachBytes ∧ IsToks w a ts := by
  have c38 : Tryd.prog.cellsOf 38 = 4 := by kernel_rfl
  have b38 : Tryd.prog.bytesOf 38 = 40 := by kernel_rfl
  obtain ⟨fuel, hf⟩ := h
  rcases Deep.open_slice Tryd.underlying22 hf with ⟨hcs, _⟩ | ⟨x, l, c, m, n, D, Pl, hcs, _, hl, hm, hmm, hx0, hx⟩
  · simp [Value.cells] at hcs
    obtain ⟨rfl, rfl, rfl⟩ := hcs
    exact ⟨[], rfl, by simp, fun q => absurd q (Nat.lt_irrefl _), fun t ht => by cases ht⟩
  · simp [Value.cells] at hcs
    obtain ⟨rfl, rfl, rfl⟩ := hcs
    rw [c38] at hx
    have hlm : len ≤ m := by rw [hmm]; split <;> omega
    have hd : d = .slice ((List.range len).map D) ((List.range (m - len)).map fun j => D (len + j)) := congrArg Prod.fst hx0
    subst hd
    simp only [DataW.weights, Tryd.underlying22, List.mem_cons, List.mem_append, b38] at hw
    have hsz : len * 40 ≤ reachBytes := by
      have := hw _ (.inl rfl)
      simp at this
      have h3 : len * 40 ≤ (len + (m - len)) * 40 := Nat.mul_le_mul_right _ (by omega)
      omega
    have inh : Inhabited ATok := ⟨⟨0, [], 0, 0⟩⟩
    obtain ⟨T, hT⟩ := Deep.choose_lt (α := ATok) (n := len) (p := fun i t => w.cells? base (x.add (i * 4)) 4 = some [.int .i64 t.kind, .string (str t.text), .int .i64 t.num, .int .i64 t.at'] ∧ Fit t) (fun i hi => by
      obtain ⟨cs', hc, ht⟩ := hx i (by omega)
      obtain ⟨t, rfl, b0, b2, d2, d3, hD⟩ := tok_fields ht
      refine ⟨t, hc, b0, b2, ?_⟩
      have hm' : D i ∈ (List.range len).map D := List.mem_map.2 ⟨i, List.mem_range.2 hi, rfl⟩
      have := hw _ (.inr (.inl (weights_all hm' (x := t.text.length) (by rw [show D i = _ from hD]; exact tok_weight))))
      exact Nat.le_trans this (by decide))
    refine ⟨(List.range len).map T, by simp, hsz, fun hq => ?_, fun t ht => ?_⟩
    · simp at hq
      obtain ⟨B, O, spot⟩ := x
      have hs : spot = none := by
        obtain ⟨hc0, _⟩ := hT 0 hq
        obtain ⟨_, _, hcell⟩ := World.cells?_some hc0
        have := hcell 0 (by omega)
        simp [Addr.add] at this
        simpa using World.cell?_spot this
      subst hs
      refine ⟨B, O, rfl, fun i hi => ?_⟩
      simp at hi
      obtain ⟨hc, _⟩ := hT i hi
      obtain ⟨_, hlen, hcell⟩ := World.cells?_some hc
      have g0 := hcell 0 (by omega)
      have g1 := hcell 1 (by omega)
      have g2 := hcell 2 (by omega)
      have g3 := hcell 3 (by omega)
      rw [add_add] at g0 g1 g2 g3
      simp only [List.getElem_map, List.getElem_range]
      exact ⟨by simpa using g0, by simpa using g1, by simpa using g2, by simpa using g3⟩
    · obtain ⟨i, hi, rfl⟩ := List.mem_map.1 ht
      exact (hT i (List.mem_range.1 hi)).2
end

end Go.Proofs.YtadmibdcdpggpaaDoor
