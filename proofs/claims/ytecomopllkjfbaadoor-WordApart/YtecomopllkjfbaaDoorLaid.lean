/- What the rows' listed variable gives the walks, a world for the rows' witnesses, and what every card of this seat asks besides. -/
import Derived.Test.YtecomopllkjfbaaDoorCards
import Derived.Test.YtecomopllkjfbaaDoorTie
import Derived.Test.YtecomopllkjfbaaDoorPack
import Derived.ProofKit
import Derived.OpenShut
import Derived.Lib.SmallJoins
import Derived.Deep.DeepHandedRow
namespace Go.Proofs.YtecomopllkjfbaaDoor
open Go.ChangeShapes Go.WideShapes Go.ChangeAt Go.RowKit

theorem own : ownKnob Tryd.prog.godebug = none := by kernel_rfl
theorem laidOut : laidOutB Tryd.prog = true := by kernel_rfl
theorem gSpans : Tryd.prog.globalNamed "midden/word.spans" = some 0 := by kernel_rfl
theorem gSpansType : (Tryd.prog.globals[0]?).map (·.type) = some 50 := by kernel_rfl
theorem cells50 : Tryd.prog.cellsOf 50 = 12 := by kernel_rfl
theorem cells49 : Tryd.prog.cellsOf 49 = 2 := by kernel_rfl
theorem cells47 : Tryd.prog.cellsOf 47 = 1 := by kernel_rfl
theorem cells23 : Tryd.prog.cellsOf 23 = 4 := by kernel_rfl

abbrev listed : List (String × DataW Unit) := [("midden/word.spans", Rows.laid_midden_word_spans)]

/-- One pair of numbers of the table: its two cells. -/
theorem pair {enc : TypeId × Value → Unit} {W : World} {sp : Nat → Bool} {hd : Bool} {m : Nat} {c0 c1 : Value} {a b : Int} {q : List MemPlace}
    (h : DataW.trod enc Tryd.prog W 0 sp hd m 49 [c0, c1] = some (.agg [.lit (.int .u64 a), .lit (.int .u64 b)], q)) : c0 = .int .u64 a ∧ c1 = .int .u64 b := by
  obtain ⟨y0, y1, n, hx, _, h0, h1⟩ := trod_struct2 Tryd.underlying49 h
  simp only [cells47, List.drop_zero, List.drop_succ_cons, List.take_succ_cons, List.take_zero] at h0 h1
  obtain ⟨a', e0, r0, _⟩ := DataW.trod_int Tryd.underlying47 h0
  obtain ⟨b', e1, r1, _⟩ := DataW.trod_int Tryd.underlying47 h1
  subst r0 r1
  simp at e0 e1 hx
  subst e0 e1
  simp [hx.1]

theorem spans_of {W : World} (h : laidMetH Tryd.prog listed W) : Spans W := by
  obtain ⟨ps, ⟨g0, t0, cs0, f0, p0, q0, hg0, ht0, hv0, hd0, _, _⟩, _, _⟩ := h
  obtain rfl := Option.some.inj (gSpans.symm.trans hg0)
  obtain rfl := Option.some.inj (gSpansType.symm.trans ht0)
  obtain ⟨xs, m, rfl, hx, hlen, hn, hel⟩ := DataW.trod_array Tryd.underlying50 hd0
  have cell := World.var?_cell hg0 hv0
  rw [cells50] at hlen
  rw [cells49] at hel
  simp only [Prod.mk.injEq, Rows.laid_midden_word_spans, DataW.agg.injEq] at hx
  obtain ⟨l⟩ := cs0
  match l, hlen with
  | [a0, a1, a2, a3, a4, a5, a6, a7, a8, a9, a10, a11], _ =>
    match xs, hn with
    | [x0, x1, x2, x3, x4, x5], _ =>
      simp only [List.map_cons, List.map_nil, List.cons.injEq, and_true] at hx
      obtain ⟨⟨e0, e1, e2, e3, e4, e5⟩, _⟩ := hx
      obtain ⟨d0, q0⟩ := x0
      obtain ⟨d1, q1⟩ := x1
      obtain ⟨d2, q2⟩ := x2
      obtain ⟨d3, q3⟩ := x3
      obtain ⟨d4, q4⟩ := x4
      obtain ⟨d5, q5⟩ := x5
      dsimp only at e0 e1 e2 e3 e4 e5
      subst e0 e1 e2 e3 e4 e5
      obtain ⟨rfl, rfl⟩ := pair (hel 0 (by decide))
      obtain ⟨rfl, rfl⟩ := pair (hel 1 (by decide))
      obtain ⟨rfl, rfl⟩ := pair (hel 2 (by decide))
      obtain ⟨rfl, rfl⟩ := pair (hel 3 (by decide))
      obtain ⟨rfl, rfl⟩ := pair (hel 4 (by decide))
      obtain ⟨rfl, rfl⟩ := pair (hel 5 (by decide))
      exact ⟨cell 0, cell 1, cell 2, cell 3, cell 4, cell 5, cell 6, cell 7, cell 8, cell 9, cell 10, cell 11⟩

/-- A world for the witnesses: the settled one, the table (block 0) holding what its initialiser lays. -/
noncomputable def laidWorld (os : Os) : World :=
  { World.holding Tryd.prog os ⟨#[], #[], []⟩ with heap := (World.holding Tryd.prog os ⟨#[], #[], []⟩).heap.modify 0 fun
      | .cells _ t frozen => .cells #[.int .u64 0, .int .u64 1, .int .u64 1, .int .u64 4, .int .u64 5, .int .u64 12, .int .u64 17, .int .u64 12, .int .u64 29, .int .u64 20, .int .u64 49, .int .u64 15] t frozen
      | o => o }
end Go.Proofs.YtecomopllkjfbaaDoor
