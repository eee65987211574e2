/- What the rows' listed variable gives the walks, a world for the rows' witnesses, and what every card of this seat asks besides. -/
import Derived.Test.YtglimbpnekephaaDoorCards
import Derived.Test.YtglimbpnekephaaDoorTie
import Derived.Test.YtglimbpnekephaaDoorStl
import Derived.ProofKit
import Derived.OpenShut
import Derived.Lib.SmallJoins
import Derived.Deep.DeepHandedRow
namespace Go.Proofs.YtglimbpnekephaaDoor
open Go.ChangeShapes Go.WideShapes Go.ChangeAt Go.RowKit
set_option linter.unusedVariables false

theorem own : ownKnob Tryd.prog.godebug = none := by kernel_rfl
theorem laidOut : laidOutB Tryd.prog = true := by kernel_rfl
theorem gRows : Tryd.prog.globalNamed "midden/stack.rows" = some 0 := by kernel_rfl
theorem gRowsType : (Tryd.prog.globals[0]?).map (·.type) = some 70 := by kernel_rfl
theorem cells69 : Tryd.prog.cellsOf 69 = 6 := by kernel_rfl
theorem cells67 : Tryd.prog.cellsOf 67 = 2 := by kernel_rfl
theorem cells3 : Tryd.prog.cellsOf 3 = 1 := by kernel_rfl
theorem cells36 : Tryd.prog.cellsOf 36 = 4 := by kernel_rfl

abbrev listed : List (String × DataW Unit) := [("midden/stack.rows", Rows.laid_midden_stack_rows)]

/-- A span of the table: its two cells. -/
theorem pair {enc : TypeId × Value → Unit} {W : World} {sp : Nat → Bool} {hd : Bool} {m : Nat} {cs : List Value} {a b : Int} {q : List MemPlace}
    (h : DataW.trod enc Tryd.prog W 0 sp hd m 67 cs = some (.agg [.lit (.int .i64 a), .lit (.int .i64 b)], q)) : cs = [.int .i64 a, .int .i64 b] := by
  obtain ⟨xs, n, hm, hx, hl, hn, hf⟩ := DataW.trod_struct Tryd.underlying67 h
  rw [cells67] at hl
  match cs, hl with
  | [c0, c1], _ =>
    match xs, hn with
    | [y0, y1], _ =>
      have h0 : DataW.trod enc Tryd.prog W 0 sp hd n 3 (([c0, c1].drop 0).take (Tryd.prog.cellsOf 3)) = some y0 := hf 0 _ rfl
      have h1 : DataW.trod enc Tryd.prog W 0 sp hd n 3 (([c0, c1].drop 1).take (Tryd.prog.cellsOf 3)) = some y1 := hf 1 _ rfl
      simp only [cells3, List.drop_zero, List.drop_succ_cons, List.take_succ_cons, List.take_zero] at h0 h1
      obtain ⟨a', e0, r0, _⟩ := DataW.trod_int Tryd.underlying3 h0
      obtain ⟨b', e1, r1, _⟩ := DataW.trod_int Tryd.underlying3 h1
      subst r0 r1
      simp at e0 e1 hx
      subst e0 e1
      simp [hx.1]
/-- A row of the table: its six cells. -/
theorem one {enc : TypeId × Value → Unit} {W : World} {sp : Nat → Bool} {hd : Bool} {m : Nat} {cs : List Value} {a b c d e f : Int} {q : List MemPlace}
    (h : DataW.trod enc Tryd.prog W 0 sp hd m 69 cs = some (.agg [.agg [.lit (.int .i64 a), .lit (.int .i64 b)], .agg [.lit (.int .i64 c), .lit (.int .i64 d)], .agg [.lit (.int .i64 e), .lit (.int .i64 f)]], q)) :
    cs = [.int .i64 a, .int .i64 b, .int .i64 c, .int .i64 d, .int .i64 e, .int .i64 f] := by
  obtain ⟨xs, n, hm, hx, hl, hn, hf⟩ := DataW.trod_struct Tryd.underlying69 h
  rw [cells69] at hl
  match cs, hl with
  | [c0, c1, c2, c3, c4, c5], _ =>
    match xs, hn with
    | [(y0, p0), (y1, p1), (y2, p2)], _ =>
      have h0 : DataW.trod enc Tryd.prog W 0 sp hd n 67 (([c0, c1, c2, c3, c4, c5].drop 0).take (Tryd.prog.cellsOf 67)) = some (y0, p0) := hf 0 _ rfl
      have h1 : DataW.trod enc Tryd.prog W 0 sp hd n 67 (([c0, c1, c2, c3, c4, c5].drop 2).take (Tryd.prog.cellsOf 67)) = some (y1, p1) := hf 1 _ rfl
      have h2 : DataW.trod enc Tryd.prog W 0 sp hd n 67 (([c0, c1, c2, c3, c4, c5].drop 4).take (Tryd.prog.cellsOf 67)) = some (y2, p2) := hf 2 _ rfl
      simp only [cells67, List.drop_zero, List.drop_succ_cons, List.take_succ_cons, List.take_zero] at h0 h1 h2
      simp only [List.map_cons, List.map_nil, Prod.mk.injEq, DataW.agg.injEq, List.cons.injEq, and_true] at hx
      obtain ⟨⟨e0, e1, e2⟩, _⟩ := hx
      subst e0 e1 e2
      have g0 := pair h0
      have g1 := pair h1
      have g2 := pair h2
      simp at g0 g1 g2
      simp [g0, g1, g2]

theorem cellOf {W : World} {l : List Value} {k : Nat} {r : List Value} (cell : ∀ o, W.cell? ⟨0, o, none⟩ = l[o]?) (h : (l.drop (k * 6)).take 6 = r) (j : Nat) (hj : j < 6) : W.cell? ⟨0, k * 6 + j, none⟩ = r[j]? := by
  rw [cell, ← h, List.getElem?_take_of_lt hj, List.getElem?_drop]

theorem table_of {W : World} (h : laidMetH Tryd.prog listed W) : Table W := by
  obtain ⟨ps, ⟨g0, t0, cs0, f0, p0, q0, hg0, ht0, hv0, hd0, _, _⟩, _, _⟩ := h
  obtain rfl := Option.some.inj (gRows.symm.trans hg0)
  obtain rfl := Option.some.inj (gRowsType.symm.trans ht0)
  obtain ⟨xs, m, rfl, hx, hlen, hn, hel⟩ := DataW.trod_array Tryd.underlying70 hd0
  have cell := World.var?_cell hg0 hv0
  rw [cells69] at hel
  simp only [Prod.mk.injEq, Rows.laid_midden_stack_rows, DataW.agg.injEq] at hx
  obtain ⟨l⟩ := cs0
  have cell : ∀ o, W.cell? ⟨0, o, none⟩ = l[o]? := fun o => by rw [cell o]; simp
  match xs, hn with
  | [x0, x1, x2, x3, x4, x5], _ =>
    simp only [List.map_cons, List.map_nil, List.cons.injEq, and_true] at hx
    obtain ⟨⟨e0, e1, e2, e3, e4, e5⟩, _⟩ := hx
    obtain ⟨d0, q0⟩ := x0
    obtain ⟨d1, q1⟩ := x1
    obtain ⟨d2, q2⟩ := x2
    obtain ⟨d3, q3⟩ := x3
    obtain ⟨d4, q4⟩ := x4
    obtain ⟨d5, q5⟩ := x5
    dsimp only at e0 e1 e2 e3 e4 e5
    subst e0 e1 e2 e3 e4 e5
    have r0 := one (hel 0 (by decide))
    have r1 := one (hel 1 (by decide))
    have r2 := one (hel 2 (by decide))
    have r3 := one (hel 3 (by decide))
    have r4 := one (hel 4 (by decide))
    have r5 := one (hel 5 (by decide))
    refine ⟨fun k hk => ?_, fun k hk => ?_, fun k hk => ?_, fun k hk => ?_, fun k hk => ?_, fun k hk => ?_⟩
    · match k, hk with
      | 0, _ => exact cellOf cell r0 0 (by decide)
      | 1, _ => exact cellOf cell r1 0 (by decide)
      | 2, _ => exact cellOf cell r2 0 (by decide)
      | 3, _ => exact cellOf cell r3 0 (by decide)
      | 4, _ => exact cellOf cell r4 0 (by decide)
      | 5, _ => exact cellOf cell r5 0 (by decide)
    · match k, hk with
      | 0, _ => exact cellOf cell r0 1 (by decide)
      | 1, _ => exact cellOf cell r1 1 (by decide)
      | 2, _ => exact cellOf cell r2 1 (by decide)
      | 3, _ => exact cellOf cell r3 1 (by decide)
      | 4, _ => exact cellOf cell r4 1 (by decide)
      | 5, _ => exact cellOf cell r5 1 (by decide)
    · match k, hk with
      | 0, _ => exact cellOf cell r0 2 (by decide)
      | 1, _ => exact cellOf cell r1 2 (by decide)
      | 2, _ => exact cellOf cell r2 2 (by decide)
      | 3, _ => exact cellOf cell r3 2 (by decide)
      | 4, _ => exact cellOf cell r4 2 (by decide)
      | 5, _ => exact cellOf cell r5 2 (by decide)
    · match k, hk with
      | 0, _ => exact cellOf cell r0 3 (by decide)
      | 1, _ => exact cellOf cell r1 3 (by decide)
      | 2, _ => exact cellOf cell r2 3 (by decide)
      | 3, _ => exact cellOf cell r3 3 (by decide)
      | 4, _ => exact cellOf cell r4 3 (by decide)
      | 5, _ => exact cellOf cell r5 3 (by decide)
    · match k, hk with
      | 0, _ => exact cellOf cell r0 4 (by decide)
      | 1, _ => exact cellOf cell r1 4 (by decide)
      | 2, _ => exact cellOf cell r2 4 (by decide)
      | 3, _ => exact cellOf cell r3 4 (by decide)
      | 4, _ => exact cellOf cell r4 4 (by decide)
      | 5, _ => exact cellOf cell r5 4 (by decide)
    · match k, hk with
      | 0, _ => exact cellOf cell r0 5 (by decide)
      | 1, _ => exact cellOf cell r1 5 (by decide)
      | 2, _ => exact cellOf cell r2 5 (by decide)
      | 3, _ => exact cellOf cell r3 5 (by decide)
      | 4, _ => exact cellOf cell r4 5 (by decide)
      | 5, _ => exact cellOf cell r5 5 (by decide)

/-- A world for the witnesses: the settled one, the table (block 0) holding what its initialiser lays. -/
noncomputable def laidWorld (os : Os) : World :=
  { World.holding Tryd.prog os ⟨#[], #[], []⟩ with heap := (World.holding Tryd.prog os ⟨#[], #[], []⟩).heap.modify 0 fun
      | .cells _ t frozen => .cells #[.int .i64 0, .int .i64 0, .int .i64 0, .int .i64 0, .int .i64 0, .int .i64 0, .int .i64 0, .int .i64 1048575, .int .i64 0, .int .i64 0, .int .i64 0, .int .i64 1000, .int .i64 0, .int .i64 0, .int .i64 0, .int .i64 0, .int .i64 1, .int .i64 1, .int .i64 0, .int .i64 0, .int .i64 0, .int .i64 0, .int .i64 1, .int .i64 8, .int .i64 1, .int .i64 16, .int .i64 0, .int .i64 2, .int .i64 1, .int .i64 3, .int .i64 0, .int .i64 1048575, .int .i64 0, .int .i64 7, .int .i64 0, .int .i64 0] t frozen
      | o => o }
end Go.Proofs.YtglimbpnekephaaDoor
