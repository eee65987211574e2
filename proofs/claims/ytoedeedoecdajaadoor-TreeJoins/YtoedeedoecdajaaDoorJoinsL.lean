/- TreeJoins: what is no two programs. -/
import Derived.Test.YtoedeedoecdajaaDoorAwake
import Derived.Test.YtoedeedoecdajaaDoorRefPg
import Derived.Test.YtoedeedoecdajaaDoorTreeTexts
import Derived.Test.YtoedeedoecdajaaDoorAppS
import Derived.Laws.Concat
import Derived.Deep.RegionHeld3
import Derived.Deep.CutRange
import Derived.Test.YtoedeedoecdajaaDoorSixEnd
namespace Go.Proofs.YtoedeedoecdajaaDoor.treeJoins
open Go.RowKit
set_option linter.unusedVariables false
set_option linter.unusedSimpArgs false

theorem str_append (a b : List UInt8) : str a ++ str b = str (a ++ b) := ByteArray.mk_append_mk a b
theorem parse_str {z : List UInt8} {r : Except (Nat × Int) Pg} (h : parseT z = r) (w : World) (L : Laid w) : Calls Tryd.prog 10 #[.string (str z)] w (ParsesTo w r) := parse_at (s := str z) (by rw [str_list]; exact h) w L
theorem add_run (x y z : List UInt8) (h : x ++ y = z) (hl : x.length + y.length ≤ 100000) : ∀ w, (Op.stringOp .add (str x) (str y)).run Tryd.prog w = .ok (.string (str z)) w := fun w => by
  rw [run_string_add_sum w _ _ (by rw [str_size, str_size]; omega), str_append, h]
/-- whatever Parse answers -/
theorem parse_some (z : List UInt8) (w : World) (L : Laid w) : Calls Tryd.prog 10 #[.string (str z)] w fun e w' => Below w.heap.size w w' ∧ ∃ gd nd cd gb nb cb at' f, e = .returned (.tuple #[.agg #[.slice gd nd cd, .slice gb nb cb], .int .i64 at', .int .i64 f]) :=
  (parse_str rfl w L).mono fun e w' ⟨B, h⟩ => ⟨B, by
    rcases hr : parseT z with ⟨a, c⟩ | p
    · rw [hr] at h
      exact ⟨_, _, _, _, _, _, _, _, h.1⟩
    · rw [hr] at h
      obtain ⟨v, he, I⟩ := h
      obtain ⟨gd, cd, gb, cb, rfl⟩ := isPV_two I
      exact ⟨_, _, _, _, _, _, _, _, he⟩⟩
set_option maxRecDepth 100000 in
set_option maxHeartbeats 8000000 in
theorem walk_first (s t : List UInt8) (a : Nat) (c : Int) (hp : parseT s = .error (a, c)) (w : World) (L : Laid w) :
    Calls Tryd.prog 4 #[.string (str s), .string (str t)] w fun e w' => e = .returned (.bool true) ∧ Below w.heap.size w w' := by
  have P1 := parse_str hp w L
  have HL : Hid (Laid w) := ⟨L⟩
  clear L hp
  go_enter Tryd.func4, Tryd.ntmps4
  go_wp2_with (first
    | (go_at_call 10; refine P1.mono ?_; rintro e w1 ⟨B1, rfl, hc⟩; have hcb : (c == 0) = false := (by simp [hc]); have hcb' : (c != 0) = true := (by simp [hc]); have B1' := B1.trans (Joins.below_le (Joins.below_alloc1 w1 (.cells #[nil3, nil3] 25)) B1.size); have P2 := parse_some t _ (HL.out.later B1'); clear P1 hc)
    | (go_at_call 10; refine P2.mono ?_; rintro e w2 ⟨B2, gd, nd, cd, gb, nb, cb, at2, f2, rfl⟩; have BW2 := B1'.trans (Joins.below_le B2 B1'.size); have BW2' := BW2.trans (Joins.below_le (Joins.below_alloc1 w2 (.cells #[.slice gd nd cd, .slice gb nb cb] 25)) BW2.size); have AW1 := awake_any _ (HL.out.later BW2'); clear P2)
    | (go_at_call 7; refine AW1.mono ?_; rintro e w3 ⟨rfl, B3⟩; have BW3 := BW2'.trans (Joins.below_le B3 BW2'.size); have AW2 := awake_any _ (HL.out.later BW3); clear AW1)
    | (go_at_call 7; refine AW2.mono ?_; rintro e w4 ⟨rfl, B4⟩))
  go_ret
  exact ⟨rfl, BW3.trans (Joins.below_le B4 BW3.size)⟩
set_option maxRecDepth 100000 in
set_option maxHeartbeats 8000000 in
theorem walk_second (s t : List UInt8) (p : Pg) (hp : parseT s = .ok p) (a : Nat) (c : Int) (hq : parseT t = .error (a, c)) (w : World) (L : Laid w) :
    Calls Tryd.prog 4 #[.string (str s), .string (str t)] w fun e w' => e = .returned (.bool true) ∧ Below w.heap.size w w' := by
  have P1 := parse_str hp w L
  have HQ : Hid (parseT t = .error (a, c)) := ⟨hq⟩
  have HL : Hid (Laid w) := ⟨L⟩
  clear L hp hq
  go_enter Tryd.func4, Tryd.ntmps4
  go_wp2_with (first
    | (go_at_call 10; refine P1.mono ?_; rintro e w1 ⟨B1, v1, rfl, I1⟩; obtain ⟨gd, cd, gb, cb, rfl⟩ := isPV_two I1; have B1' := B1.trans (Joins.below_le (Joins.below_alloc1 w1 (.cells #[.slice gd p.datas.length cd, .slice gb p.binds.length cb] 25)) B1.size); have P2 := parse_str HQ.out _ (HL.out.later B1'); clear P1 I1)
    | (go_at_call 10; refine P2.mono ?_; rintro e w2 ⟨B2, rfl, hc⟩; have hcb : (c == 0) = false := (by simp [hc]); have hcb' : (c != 0) = true := (by simp [hc]); have BW2 := B1'.trans (Joins.below_le B2 B1'.size); have BW2' := BW2.trans (Joins.below_le (Joins.below_alloc1 w2 (.cells #[nil3, nil3] 25)) BW2.size); have AW1 := awake_any _ (HL.out.later BW2'); clear P2 hc)
    | (go_at_call 7; refine AW1.mono ?_; rintro e w3 ⟨rfl, B3⟩; have BW3 := BW2'.trans (Joins.below_le B3 BW2'.size); have AW2 := awake_any _ (HL.out.later BW3); clear AW1)
    | (go_at_call 7; refine AW2.mono ?_; rintro e w4 ⟨rfl, B4⟩))
  go_ret
  exact ⟨rfl, BW3.trans (Joins.below_le B4 BW3.size)⟩
set_option maxRecDepth 100000 in
set_option maxHeartbeats 8000000 in
theorem walk_not (s t : List UInt8) (p q : Pg) (hp : parseT s = .ok p) (hq : parseT t = .ok q) (hc : (0 < p.binds.length ∧ 0 < q.datas.length) ∨ 16384 ≤ s.length + t.length) (hs : s.length ≤ 140737488351232) (ht : t.length ≤ 140737488351232) (w : World) (L : Laid w) :
    Calls Tryd.prog 4 #[.string (str s), .string (str t)] w fun e w' => e = .returned (.bool true) ∧ Below w.heap.size w w' := by
  have P1 := parse_str hp w L
  have HQ : Hid (parseT t = .ok q) := ⟨hq⟩
  have HL : Hid (Laid w) := ⟨L⟩
  have sz1 : (str s).size = s.length := str_size s
  have sz2 : (str t).size = t.length := str_size t
  clear L hp hq
  by_cases hA : 0 < p.binds.length ∧ 0 < q.datas.length
  · have h1 : decide (0 < p.binds.length) = true := decide_eq_true (by omega)
    have h2 : decide (0 < q.datas.length) = true := decide_eq_true (by omega)
    clear hc hA
    go_enter Tryd.func4, Tryd.ntmps4
    go_wp2_with (first
    | (go_at_call 10; refine P1.mono ?_; rintro e w1 ⟨B1, v1, rfl, I1⟩; obtain ⟨gda, cda, gba, cba, rfl⟩ := isPV_two I1; have HI1 : Hid (isPV w1 (new w w1) p _) := ⟨I1⟩; have HB1 : Hid (Below w.heap.size w w1) := ⟨B1⟩; have B1' := B1.trans (Joins.below_le (Joins.below_alloc1 w1 (.cells #[.slice gda p.datas.length cda, .slice gba p.binds.length cba] 25)) B1.size); have P2 := parse_str HQ.out _ (HL.out.later B1'); clear P1 I1)
    | (go_at_call 10; refine P2.mono ?_; rintro e w2 ⟨B2, v2, rfl, I2⟩; obtain ⟨gdb, cdb, gbb, cbb, rfl⟩ := isPV_two I2; have HI2 : Hid (isPV w2 (new _ w2) q _) := ⟨I2⟩; have BW2 := B1'.trans (Joins.below_le B2 B1'.size); have BW2' := BW2.trans (Joins.below_le (Joins.below_alloc1 w2 (.cells #[.slice gdb q.datas.length cdb, .slice gbb q.binds.length cbb] 25)) BW2.size); have AW1 := awake_any _ (HL.out.later BW2'); have HB12 : Hid (Below w1.heap.size w1 w2) := ⟨(Joins.below_alloc1 w1 _).trans (Joins.below_le B2 (by simp))⟩; have D1 := (Blk.fresh w1 #[.slice gda p.datas.length cda, .slice gba p.binds.length cba] 25).kept (row := none) ⟨B2.os, B2.tape, B2.output, B2.size, fun i hi _ => B2.block i hi⟩ (by simp); clear P2 I2)
    | (go_at_call 7; refine AW1.mono ?_; rintro e w3 ⟨rfl, B3⟩; have BW3 := BW2'.trans (Joins.below_le B3 BW2'.size); have b23 : Below w2.heap.size w2 w3 := (Joins.below_alloc1 w2 _).trans (Joins.below_le B3 (by simp)); have HB23 : Hid (Below w2.heap.size w2 w3) := ⟨b23⟩; have D2 := (Blk.fresh w2 #[.slice gdb q.datas.length cdb, .slice gbb q.binds.length cbb] 25).kept (row := none) ⟨B3.os, B3.tape, B3.output, B3.size, fun i hi _ => B3.block i hi⟩ (by simp); have D1 := D1.kept (row := none) ⟨b23.os, b23.tape, b23.output, b23.size, fun i hi _ => b23.block i hi⟩ (by simp); have p1 : w3.cell? ⟨w1.heap.size, 1, none⟩ = some (.slice gba p.binds.length cba) := D1.cell 1; have q0 : w3.cell? ⟨w2.heap.size, 0, none⟩ = some (.slice gdb q.datas.length cdb) := D2.cell 0; have AW2 := awake_any _ (HL.out.later BW3); clear AW1 b23)
    | (go_at_call 7; refine AW2.mono ?_; rintro e w4 ⟨rfl, B4⟩))
    go_ret
    exact ⟨rfl, BW3.trans (Joins.below_le B4 BW3.size)⟩
  · have hB : 16384 ≤ s.length + t.length := hc.resolve_left hA
    have hB' : (16384 : Int) ≤ ((str s).size : Int) + ((str t).size : Int) := by omega
    have hw : IntKind.i64.wrap (((str s).size : Int) + ((str t).size : Int)) = ((str s).size : Int) + ((str t).size : Int) := by rw [IntKind.wrap_i64]; omega
    by_cases h1 : 0 < p.binds.length
    · have h1' : decide (0 < p.binds.length) = true := decide_eq_true (by omega)
      have h2 : decide (0 < q.datas.length) = false := decide_eq_false (by omega)
      clear hc hA hB h1
      go_enter Tryd.func4, Tryd.ntmps4
      go_wp2_with (first
    | (go_at_call 10; refine P1.mono ?_; rintro e w1 ⟨B1, v1, rfl, I1⟩; obtain ⟨gda, cda, gba, cba, rfl⟩ := isPV_two I1; have HI1 : Hid (isPV w1 (new w w1) p _) := ⟨I1⟩; have HB1 : Hid (Below w.heap.size w w1) := ⟨B1⟩; have B1' := B1.trans (Joins.below_le (Joins.below_alloc1 w1 (.cells #[.slice gda p.datas.length cda, .slice gba p.binds.length cba] 25)) B1.size); have P2 := parse_str HQ.out _ (HL.out.later B1'); clear P1 I1)
    | (go_at_call 10; refine P2.mono ?_; rintro e w2 ⟨B2, v2, rfl, I2⟩; obtain ⟨gdb, cdb, gbb, cbb, rfl⟩ := isPV_two I2; have HI2 : Hid (isPV w2 (new _ w2) q _) := ⟨I2⟩; have BW2 := B1'.trans (Joins.below_le B2 B1'.size); have BW2' := BW2.trans (Joins.below_le (Joins.below_alloc1 w2 (.cells #[.slice gdb q.datas.length cdb, .slice gbb q.binds.length cbb] 25)) BW2.size); have AW1 := awake_any _ (HL.out.later BW2'); have HB12 : Hid (Below w1.heap.size w1 w2) := ⟨(Joins.below_alloc1 w1 _).trans (Joins.below_le B2 (by simp))⟩; have D1 := (Blk.fresh w1 #[.slice gda p.datas.length cda, .slice gba p.binds.length cba] 25).kept (row := none) ⟨B2.os, B2.tape, B2.output, B2.size, fun i hi _ => B2.block i hi⟩ (by simp); clear P2 I2)
    | (go_at_call 7; refine AW1.mono ?_; rintro e w3 ⟨rfl, B3⟩; have BW3 := BW2'.trans (Joins.below_le B3 BW2'.size); have b23 : Below w2.heap.size w2 w3 := (Joins.below_alloc1 w2 _).trans (Joins.below_le B3 (by simp)); have HB23 : Hid (Below w2.heap.size w2 w3) := ⟨b23⟩; have D2 := (Blk.fresh w2 #[.slice gdb q.datas.length cdb, .slice gbb q.binds.length cbb] 25).kept (row := none) ⟨B3.os, B3.tape, B3.output, B3.size, fun i hi _ => B3.block i hi⟩ (by simp); have D1 := D1.kept (row := none) ⟨b23.os, b23.tape, b23.output, b23.size, fun i hi _ => b23.block i hi⟩ (by simp); have p1 : w3.cell? ⟨w1.heap.size, 1, none⟩ = some (.slice gba p.binds.length cba) := D1.cell 1; have q0 : w3.cell? ⟨w2.heap.size, 0, none⟩ = some (.slice gdb q.datas.length cdb) := D2.cell 0; have AW2 := awake_any _ (HL.out.later BW3); clear AW1 b23)
    | (go_at_call 7; refine AW2.mono ?_; rintro e w4 ⟨rfl, B4⟩))
      go_ret
      exact ⟨rfl, BW3.trans (Joins.below_le B4 BW3.size)⟩
    · have h1' : decide (0 < p.binds.length) = false := decide_eq_false (by omega)
      clear hc hA hB h1
      go_enter Tryd.func4, Tryd.ntmps4
      go_wp2_with (first
    | (go_at_call 10; refine P1.mono ?_; rintro e w1 ⟨B1, v1, rfl, I1⟩; obtain ⟨gda, cda, gba, cba, rfl⟩ := isPV_two I1; have HI1 : Hid (isPV w1 (new w w1) p _) := ⟨I1⟩; have HB1 : Hid (Below w.heap.size w w1) := ⟨B1⟩; have B1' := B1.trans (Joins.below_le (Joins.below_alloc1 w1 (.cells #[.slice gda p.datas.length cda, .slice gba p.binds.length cba] 25)) B1.size); have P2 := parse_str HQ.out _ (HL.out.later B1'); clear P1 I1)
    | (go_at_call 10; refine P2.mono ?_; rintro e w2 ⟨B2, v2, rfl, I2⟩; obtain ⟨gdb, cdb, gbb, cbb, rfl⟩ := isPV_two I2; have HI2 : Hid (isPV w2 (new _ w2) q _) := ⟨I2⟩; have BW2 := B1'.trans (Joins.below_le B2 B1'.size); have BW2' := BW2.trans (Joins.below_le (Joins.below_alloc1 w2 (.cells #[.slice gdb q.datas.length cdb, .slice gbb q.binds.length cbb] 25)) BW2.size); have AW1 := awake_any _ (HL.out.later BW2'); have HB12 : Hid (Below w1.heap.size w1 w2) := ⟨(Joins.below_alloc1 w1 _).trans (Joins.below_le B2 (by simp))⟩; have D1 := (Blk.fresh w1 #[.slice gda p.datas.length cda, .slice gba p.binds.length cba] 25).kept (row := none) ⟨B2.os, B2.tape, B2.output, B2.size, fun i hi _ => B2.block i hi⟩ (by simp); clear P2 I2)
    | (go_at_call 7; refine AW1.mono ?_; rintro e w3 ⟨rfl, B3⟩; have BW3 := BW2'.trans (Joins.below_le B3 BW2'.size); have b23 : Below w2.heap.size w2 w3 := (Joins.below_alloc1 w2 _).trans (Joins.below_le B3 (by simp)); have HB23 : Hid (Below w2.heap.size w2 w3) := ⟨b23⟩; have D2 := (Blk.fresh w2 #[.slice gdb q.datas.length cdb, .slice gbb q.binds.length cbb] 25).kept (row := none) ⟨B3.os, B3.tape, B3.output, B3.size, fun i hi _ => B3.block i hi⟩ (by simp); have D1 := D1.kept (row := none) ⟨b23.os, b23.tape, b23.output, b23.size, fun i hi _ => b23.block i hi⟩ (by simp); have p1 : w3.cell? ⟨w1.heap.size, 1, none⟩ = some (.slice gba p.binds.length cba) := D1.cell 1; have q0 : w3.cell? ⟨w2.heap.size, 0, none⟩ = some (.slice gdb q.datas.length cdb) := D2.cell 0; have AW2 := awake_any _ (HL.out.later BW3); clear AW1 b23)
    | (go_at_call 7; refine AW2.mono ?_; rintro e w4 ⟨rfl, B4⟩))
      go_ret
      exact ⟨rfl, BW3.trans (Joins.below_le B4 BW3.size)⟩

end Go.Proofs.YtoedeedoecdajaaDoor.treeJoins

/- TreeJoins: the two programs joined in memory are one program. -/
namespace Go.Proofs.YtoedeedoecdajaaDoor
open Go.RowKit
set_option linter.unusedVariables false

theorem rowS_row {w : World} {z : Nat} {e : TypeId} {size n : Nat} {v : Value} {xs : List Value} (h : RowS w z e size v n xs) (hn : n ≤ 1000000000) : IsRow w anyB xs n v := by
  rcases h with ⟨rfl, rfl, ga, rfl⟩ | h
  · exact ⟨ga, 0, rfl, ⟨Nat.le_refl _, by omega⟩, fun h => absurd h (by omega)⟩
  · exact row_of_owns h (fun _ _ => trivial) hn
theorem rowLe {w : World} {ok : Nat → Prop} {xs : List Value} {n : Nat} {v : Value} (h : IsRow w ok xs n v) : n ≤ 1000000000 := by
  obtain ⟨_, _, _, _, m⟩ := row_parts h
  exact m
theorem want_is {wz wx : World} {p q c : Pg} {z g : Nat} {vD vB : Value} {xa xb : List Value} {vc : Value} (hs : sameP c ⟨p.datas ++ q.datas, p.binds ++ q.binds⟩ = true) (IC : isPV wz anyB c vc)
    (HIS : isBs wz anyB p.binds xa ∧ isBs wz anyB q.binds xb) (hB : Below wz.heap.size wz wx)
    (hF : Fin z wx g vD vB (p.datas.length + q.datas.length) (p.binds.length + q.binds.length) (datC p.datas ++ datC q.datas) (xa ++ xb)) :
    isPV wx anyB ⟨p.datas ++ q.datas, p.binds ++ q.binds⟩ (.agg #[vD, vB]) := by
  unfold sameP at hs
  simp only [Bool.and_eq_true] at hs
  obtain ⟨l1, _⟩ := sameDs_pair _ _ hs.1
  obtain ⟨l2, _⟩ := sameBs_pair _ _ hs.2
  obtain ⟨vd, vb, xc, rfl, ID, IB, IBS⟩ := IC
  have m1 := rowLe ID
  have m2 := rowLe IB
  rw [l1] at m1
  rw [l2] at m2
  obtain ⟨hb, hD, hBB⟩ := hF
  simp only [List.length_append] at m1 m2
  refine ⟨vD, vB, xa ++ xb, rfl, ?_, ?_, isBs_app _ _ _ _ (isBs_keeps (any_keeps hB) _ _ HIS.1) (isBs_keeps (any_keeps hB) _ _ HIS.2)⟩
  · have := rowS_row hD m1
    simpa only [datC_app, List.length_append] using this
  · have := rowS_row hBB m2
    simpa only [List.length_append] using this
end Go.Proofs.YtoedeedoecdajaaDoor

/- TreeJoins: small laws on drawn worlds. -/
namespace Go.Proofs.YtoedeedoecdajaaDoor
open Go.RowKit
theorem row_le {w : World} {ok : Nat → Prop} {xs : List Value} {n : Nat} {v : Value} (h : IsRow w ok xs n v) : n ≤ 1000000000 := by
  obtain ⟨_, _, _, _, m⟩ := row_parts h
  exact m
theorem RowS.drew {w : World} {base size n : Nat} {e : TypeId} {v : Value} {xs : List Value} (h : RowS w base e size v n xs) : RowS w.drew base e size v n xs := h.later (Below.refl _ w).drew
theorem AB.drew {z : Nat} {w : World} {g : Nat} (h : AB z w g) : AB z w.drew g := ⟨h.blk, h.ge⟩
theorem Fin.drew {z : Nat} {w : World} {g : Nat} {vD vB : Value} {n m : Nat} {xD xB : List Value} (h : Fin z w g vD vB n m xD xB) : Fin z w.drew g vD vB n m xD xB := ⟨h.1, h.2.1.drew, h.2.2.drew⟩
end Go.Proofs.YtoedeedoecdajaaDoor
