/- What the rows' listed variables give the walks, a world for the rows' witnesses, and what every card of this seat asks besides. -/
import Derived.Test.YtbdoekffadmejaaGreatDoorCards
import Derived.Test.YtbdoekffadmejaaGreatDoorTie
import Derived.Test.YtbdoekffadmejaaGreatDoorHnf
import Derived.ProofKit
import Derived.OpenShut
import Derived.Lib.SmallJoins
import Derived.Deep.DeepHandedRow
namespace Go.Proofs.YtbdoekffadmejaaGreatDoor
open Go.ChangeShapes Go.WideShapes Go.ChangeAt Go.RowKit

set_option maxRecDepth 100000
theorem own : ownKnob Tryz.prog.godebug = none := by kernel_rfl
theorem laidOut : laidOutB Tryz.prog = true := by kernel_rfl
abbrev listed : List (String × DataW Unit) := [("midden/word.spans", Rows.laid_midden_word_spans), ("midden/shape.rows", Rows.laid_midden_shape_rows)]
namespace LaidS
theorem gRows : Tryz.prog.globalNamed "midden/shape.rows" = some 0 := by kernel_rfl
theorem gRowsType : (Tryz.prog.globals[0]?).map (·.type) = some 200 := by kernel_rfl
theorem cells200 : Tryz.prog.cellsOf 200 = 65 := by kernel_rfl
theorem cells199 : Tryz.prog.cellsOf 199 = 5 := by kernel_rfl
theorem cells197 : Tryz.prog.cellsOf 197 = 2 := by kernel_rfl
theorem cells3 : Tryz.prog.cellsOf 3 = 1 := by kernel_rfl
theorem cells4 : Tryz.prog.cellsOf 4 = 1 := by kernel_rfl


/-- A span of the table: its two cells. -/
theorem pair {enc : TypeId × Value → Unit} {W : World} {sp : Nat → Bool} {hd : Bool} {m : Nat} {cs : List Value} {a b : Int} {q : List MemPlace}
    (h : DataW.trod enc Tryz.prog W 0 sp hd m 197 cs = some (.agg [.lit (.int .i64 a), .lit (.int .i64 b)], q)) : cs = [.int .i64 a, .int .i64 b] := by
  obtain ⟨xs, n, hm, hx, hl, hn, hf⟩ := DataW.trod_struct Tryz.underlying197 h
  rw [cells197] at hl
  match cs, hl with
  | [c0, c1], _ =>
    match xs, hn with
    | [y0, y1], _ =>
      have h0 : DataW.trod enc Tryz.prog W 0 sp hd n 3 (([c0, c1].drop 0).take (Tryz.prog.cellsOf 3)) = some y0 := hf 0 _ rfl
      have h1 : DataW.trod enc Tryz.prog W 0 sp hd n 3 (([c0, c1].drop 1).take (Tryz.prog.cellsOf 3)) = some y1 := hf 1 _ rfl
      simp only [cells3, List.drop_zero, List.drop_succ_cons, List.take_succ_cons, List.take_zero] at h0 h1
      obtain ⟨a', e0, r0, _⟩ := DataW.trod_int Tryz.underlying3 h0
      obtain ⟨b', e1, r1, _⟩ := DataW.trod_int Tryz.underlying3 h1
      subst r0 r1
      simp at e0 e1 hx
      subst e0 e1
      simp [hx.1]
/-- A row of the table: its five cells. -/
theorem one {enc : TypeId × Value → Unit} {W : World} {sp : Nat → Bool} {hd : Bool} {m : Nat} {cs : List Value} {i : Bool} {a b c d : Int} {q : List MemPlace}
    (h : DataW.trod enc Tryz.prog W 0 sp hd m 199 cs = some (.agg [.lit (.bool i), .agg [.lit (.int .i64 a), .lit (.int .i64 b)], .agg [.lit (.int .i64 c), .lit (.int .i64 d)]], q)) :
    cs = [.bool i, .int .i64 a, .int .i64 b, .int .i64 c, .int .i64 d] := by
  obtain ⟨xs, n, hm, hx, hl, hn, hf⟩ := DataW.trod_struct Tryz.underlying199 h
  rw [cells199] at hl
  match cs, hl with
  | [c0, c1, c2, c3, c4], _ =>
    match xs, hn with
    | [(y0, p0), (y1, p1), (y2, p2)], _ =>
      have h0 : DataW.trod enc Tryz.prog W 0 sp hd n 4 (([c0, c1, c2, c3, c4].drop 0).take (Tryz.prog.cellsOf 4)) = some (y0, p0) := hf 0 _ rfl
      have h1 : DataW.trod enc Tryz.prog W 0 sp hd n 197 (([c0, c1, c2, c3, c4].drop 1).take (Tryz.prog.cellsOf 197)) = some (y1, p1) := hf 1 _ rfl
      have h2 : DataW.trod enc Tryz.prog W 0 sp hd n 197 (([c0, c1, c2, c3, c4].drop 3).take (Tryz.prog.cellsOf 197)) = some (y2, p2) := hf 2 _ rfl
      simp only [cells4, cells197, List.drop_zero, List.drop_succ_cons, List.take_succ_cons, List.take_zero] at h0 h1 h2
      simp only [List.map_cons, List.map_nil, Prod.mk.injEq, DataW.agg.injEq, List.cons.injEq, and_true] at hx
      obtain ⟨⟨e0, e1, e2⟩, _⟩ := hx
      subst e0 e1 e2
      obtain ⟨b', e0, r0⟩ := DataW.trod_bool Tryz.underlying4 h0
      have g1 := pair h1
      have g2 := pair h2
      simp at e0 r0 g1 g2
      simp [e0, r0.1, g1, g2]

theorem cellOf {W : World} {l : List Value} {k : Nat} {r : List Value} (cell : ∀ o, W.cell? ⟨0, o, none⟩ = l[o]?) (h : (l.drop (k * 5)).take 5 = r) (j : Nat) (hj : j < 5) : W.cell? ⟨0, k * 5 + j, none⟩ = r[j]? := by
  rw [cell, ← h, List.getElem?_take_of_lt hj, List.getElem?_drop]

theorem table_of {W : World} (h : laidMetH Tryz.prog listed W) : Sh.Table W := by
  obtain ⟨ps, ⟨_, _, _, _, _, _, _, _, _, _, ⟨g0, t0, cs0, f0, p0, q0, hg0, ht0, hv0, hd0, _, _⟩, _⟩, _, _⟩ := h
  obtain rfl := Option.some.inj (gRows.symm.trans hg0)
  obtain rfl := Option.some.inj (gRowsType.symm.trans ht0)
  obtain ⟨xs, m, rfl, hx, hlen, hn, hel⟩ := DataW.trod_array Tryz.underlying200 hd0
  have cell := World.var?_cell hg0 hv0
  rw [cells199] at hel
  simp only [Prod.mk.injEq, Rows.laid_midden_shape_rows, DataW.agg.injEq] at hx
  obtain ⟨l⟩ := cs0
  have cell : ∀ o, W.cell? ⟨0, o, none⟩ = l[o]? := fun o => by rw [cell o]; simp
  match xs, hn with
  | [x0, x1, x2, x3, x4, x5, x6, x7, x8, x9, x10, x11, x12], _ =>
    simp only [List.map_cons, List.map_nil, List.cons.injEq, and_true] at hx
    obtain ⟨⟨e0, e1, e2, e3, e4, e5, e6, e7, e8, e9, e10, e11, e12⟩, _⟩ := hx
    obtain ⟨d0, q0⟩ := x0
    obtain ⟨d1, q1⟩ := x1
    obtain ⟨d2, q2⟩ := x2
    obtain ⟨d3, q3⟩ := x3
    obtain ⟨d4, q4⟩ := x4
    obtain ⟨d5, q5⟩ := x5
    obtain ⟨d6, q6⟩ := x6
    obtain ⟨d7, q7⟩ := x7
    obtain ⟨d8, q8⟩ := x8
    obtain ⟨d9, q9⟩ := x9
    obtain ⟨d10, q10⟩ := x10
    obtain ⟨d11, q11⟩ := x11
    obtain ⟨d12, q12⟩ := x12
    dsimp only at e0 e1 e2 e3 e4 e5 e6 e7 e8 e9 e10 e11 e12
    subst e0 e1 e2 e3 e4 e5 e6 e7 e8 e9 e10 e11 e12
    have r0 := one (hel 0 (by decide))
    have r1 := one (hel 1 (by decide))
    have r2 := one (hel 2 (by decide))
    have r3 := one (hel 3 (by decide))
    have r4 := one (hel 4 (by decide))
    have r5 := one (hel 5 (by decide))
    have r6 := one (hel 6 (by decide))
    have r7 := one (hel 7 (by decide))
    have r8 := one (hel 8 (by decide))
    have r9 := one (hel 9 (by decide))
    have r10 := one (hel 10 (by decide))
    have r11 := one (hel 11 (by decide))
    have r12 := one (hel 12 (by decide))
    refine ⟨fun k hk => ?_, fun k hk => ?_, fun k hk => ?_, fun k hk => ?_, fun k hk => ?_⟩
    · match k, hk with
      | 0, _ => exact cellOf cell r0 0 (by decide)
      | 1, _ => exact cellOf cell r1 0 (by decide)
      | 2, _ => exact cellOf cell r2 0 (by decide)
      | 3, _ => exact cellOf cell r3 0 (by decide)
      | 4, _ => exact cellOf cell r4 0 (by decide)
      | 5, _ => exact cellOf cell r5 0 (by decide)
      | 6, _ => exact cellOf cell r6 0 (by decide)
      | 7, _ => exact cellOf cell r7 0 (by decide)
      | 8, _ => exact cellOf cell r8 0 (by decide)
      | 9, _ => exact cellOf cell r9 0 (by decide)
      | 10, _ => exact cellOf cell r10 0 (by decide)
      | 11, _ => exact cellOf cell r11 0 (by decide)
      | 12, _ => exact cellOf cell r12 0 (by decide)
    · match k, hk with
      | 0, _ => exact cellOf cell r0 1 (by decide)
      | 1, _ => exact cellOf cell r1 1 (by decide)
      | 2, _ => exact cellOf cell r2 1 (by decide)
      | 3, _ => exact cellOf cell r3 1 (by decide)
      | 4, _ => exact cellOf cell r4 1 (by decide)
      | 5, _ => exact cellOf cell r5 1 (by decide)
      | 6, _ => exact cellOf cell r6 1 (by decide)
      | 7, _ => exact cellOf cell r7 1 (by decide)
      | 8, _ => exact cellOf cell r8 1 (by decide)
      | 9, _ => exact cellOf cell r9 1 (by decide)
      | 10, _ => exact cellOf cell r10 1 (by decide)
      | 11, _ => exact cellOf cell r11 1 (by decide)
      | 12, _ => exact cellOf cell r12 1 (by decide)
    · match k, hk with
      | 0, _ => exact cellOf cell r0 2 (by decide)
      | 1, _ => exact cellOf cell r1 2 (by decide)
      | 2, _ => exact cellOf cell r2 2 (by decide)
      | 3, _ => exact cellOf cell r3 2 (by decide)
      | 4, _ => exact cellOf cell r4 2 (by decide)
      | 5, _ => exact cellOf cell r5 2 (by decide)
      | 6, _ => exact cellOf cell r6 2 (by decide)
      | 7, _ => exact cellOf cell r7 2 (by decide)
      | 8, _ => exact cellOf cell r8 2 (by decide)
      | 9, _ => exact cellOf cell r9 2 (by decide)
      | 10, _ => exact cellOf cell r10 2 (by decide)
      | 11, _ => exact cellOf cell r11 2 (by decide)
      | 12, _ => exact cellOf cell r12 2 (by decide)
    · match k, hk with
      | 0, _ => exact cellOf cell r0 3 (by decide)
      | 1, _ => exact cellOf cell r1 3 (by decide)
      | 2, _ => exact cellOf cell r2 3 (by decide)
      | 3, _ => exact cellOf cell r3 3 (by decide)
      | 4, _ => exact cellOf cell r4 3 (by decide)
      | 5, _ => exact cellOf cell r5 3 (by decide)
      | 6, _ => exact cellOf cell r6 3 (by decide)
      | 7, _ => exact cellOf cell r7 3 (by decide)
      | 8, _ => exact cellOf cell r8 3 (by decide)
      | 9, _ => exact cellOf cell r9 3 (by decide)
      | 10, _ => exact cellOf cell r10 3 (by decide)
      | 11, _ => exact cellOf cell r11 3 (by decide)
      | 12, _ => exact cellOf cell r12 3 (by decide)
    · match k, hk with
      | 0, _ => exact cellOf cell r0 4 (by decide)
      | 1, _ => exact cellOf cell r1 4 (by decide)
      | 2, _ => exact cellOf cell r2 4 (by decide)
      | 3, _ => exact cellOf cell r3 4 (by decide)
      | 4, _ => exact cellOf cell r4 4 (by decide)
      | 5, _ => exact cellOf cell r5 4 (by decide)
      | 6, _ => exact cellOf cell r6 4 (by decide)
      | 7, _ => exact cellOf cell r7 4 (by decide)
      | 8, _ => exact cellOf cell r8 4 (by decide)
      | 9, _ => exact cellOf cell r9 4 (by decide)
      | 10, _ => exact cellOf cell r10 4 (by decide)
      | 11, _ => exact cellOf cell r11 4 (by decide)
      | 12, _ => exact cellOf cell r12 4 (by decide)

end LaidS
namespace LaidW
theorem gSpans : Tryz.prog.globalNamed "midden/word.spans" = some 1 := by kernel_rfl
theorem gSpansType : (Tryz.prog.globals[1]?).map (·.type) = some 206 := by kernel_rfl
theorem cells206 : Tryz.prog.cellsOf 206 = 12 := by kernel_rfl
theorem cells205 : Tryz.prog.cellsOf 205 = 2 := by kernel_rfl
theorem cells203 : Tryz.prog.cellsOf 203 = 1 := by kernel_rfl


/-- One pair of numbers of the table: its two cells. -/
theorem pair {enc : TypeId × Value → Unit} {W : World} {sp : Nat → Bool} {hd : Bool} {m : Nat} {c0 c1 : Value} {a b : Int} {q : List MemPlace}
    (h : DataW.trod enc Tryz.prog W 0 sp hd m 205 [c0, c1] = some (.agg [.lit (.int .u64 a), .lit (.int .u64 b)], q)) : c0 = .int .u64 a ∧ c1 = .int .u64 b := by
  obtain ⟨y0, y1, n, hx, _, h0, h1⟩ := trod_struct2 Tryz.underlying205 h
  simp only [cells203, List.drop_zero, List.drop_succ_cons, List.take_succ_cons, List.take_zero] at h0 h1
  obtain ⟨a', e0, r0, _⟩ := DataW.trod_int Tryz.underlying203 h0
  obtain ⟨b', e1, r1, _⟩ := DataW.trod_int Tryz.underlying203 h1
  subst r0 r1
  simp at e0 e1 hx
  subst e0 e1
  simp [hx.1]

theorem spans_of {W : World} (h : laidMetH Tryz.prog listed W) : Wo.Spans W := by
  obtain ⟨ps, ⟨g0, t0, cs0, f0, p0, q0, hg0, ht0, hv0, hd0, _⟩, _⟩ := h
  obtain rfl := Option.some.inj (gSpans.symm.trans hg0)
  obtain rfl := Option.some.inj (gSpansType.symm.trans ht0)
  obtain ⟨xs, m, rfl, hx, hlen, hn, hel⟩ := DataW.trod_array Tryz.underlying206 hd0
  have cell := World.var?_cell hg0 hv0
  rw [cells206] at hlen
  rw [cells205] at hel
  simp only [Prod.mk.injEq, Rows.laid_midden_word_spans, DataW.agg.injEq] at hx
  obtain ⟨l⟩ := cs0
  match l, hlen with
  | [a0, a1, a2, a3, a4, a5, a6, a7, a8, a9, a10, a11], _ =>
    match xs, hn with
    | [x0, x1, x2, x3, x4, x5], _ =>
      simp only [List.map_cons, List.map_nil, List.cons.injEq, and_true] at hx
      obtain ⟨⟨e0, e1, e2, e3, e4, e5⟩, _⟩ := hx
      obtain ⟨d0, q0⟩ := x0
      obtain ⟨d1, q1⟩ := x1
      obtain ⟨d2, q2⟩ := x2
      obtain ⟨d3, q3⟩ := x3
      obtain ⟨d4, q4⟩ := x4
      obtain ⟨d5, q5⟩ := x5
      dsimp only at e0 e1 e2 e3 e4 e5
      subst e0 e1 e2 e3 e4 e5
      obtain ⟨rfl, rfl⟩ := pair (hel 0 (by decide))
      obtain ⟨rfl, rfl⟩ := pair (hel 1 (by decide))
      obtain ⟨rfl, rfl⟩ := pair (hel 2 (by decide))
      obtain ⟨rfl, rfl⟩ := pair (hel 3 (by decide))
      obtain ⟨rfl, rfl⟩ := pair (hel 4 (by decide))
      obtain ⟨rfl, rfl⟩ := pair (hel 5 (by decide))
      exact ⟨cell 0, cell 1, cell 2, cell 3, cell 4, cell 5, cell 6, cell 7, cell 8, cell 9, cell 10, cell 11⟩

end LaidW
/-- What the initialisers lay. -/
def lay0 : Obj → Obj
  | .cells _ t frozen => .cells #[.bool false, .int .i64 0, .int .i64 0, .int .i64 0, .int .i64 0, .bool true, .int .i64 0, .int .i64 8, .int .i64 0, .int .i64 0, .bool false, .int .i64 0, .int .i64 0, .int .i64 1, .int .i64 1, .bool true, .int .i64 0, .int .i64 255, .int .i64 0, .int .i64 0, .bool false, .int .i64 2, .int .i64 9, .int .i64 0, .int .i64 0, .bool false, .int .i64 2, .int .i64 9, .int .i64 0, .int .i64 0, .bool true, .int .i64 0, .int .i64 255, .int .i64 0, .int .i64 1, .bool true, .int .i64 1, .int .i64 1, .int .i64 1, .int .i64 1, .bool false, .int .i64 1, .int .i64 1, .int .i64 0, .int .i64 4095, .bool false, .int .i64 0, .int .i64 0, .int .i64 1, .int .i64 4095, .bool false, .int .i64 1, .int .i64 1, .int .i64 0, .int .i64 0, .bool false, .int .i64 0, .int .i64 1024, .int .i64 0, .int .i64 0, .bool false, .int .i64 0, .int .i64 0, .int .i64 1, .int .i64 4095] t frozen
  | o => o
def lay1 : Obj → Obj
  | .cells _ t frozen => .cells #[.int .u64 0, .int .u64 1, .int .u64 1, .int .u64 4, .int .u64 5, .int .u64 12, .int .u64 17, .int .u64 12, .int .u64 29, .int .u64 20, .int .u64 49, .int .u64 15] t frozen
  | o => o
/-- A world for the witnesses: the settled one, the tables holding what their initialisers lay. -/
noncomputable def laidWorld (os : Os) : World :=
  { World.holding Tryz.prog os ⟨#[], #[], []⟩ with heap := ((World.holding Tryz.prog os ⟨#[], #[], []⟩).heap.modify 0 lay0).modify 1 lay1 }
end Go.Proofs.YtbdoekffadmejaaGreatDoor
