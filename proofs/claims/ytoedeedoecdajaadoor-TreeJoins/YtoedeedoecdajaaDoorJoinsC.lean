/- TreeJoins: two programs, the first without binds. -/
import Derived.Test.YtoedeedoecdajaaDoorJoinsL
namespace Go.Proofs.YtoedeedoecdajaaDoor.treeJoins
open Go.RowKit
set_option linter.unusedVariables false
set_option linter.unusedSimpArgs false

set_option maxRecDepth 100000 in
set_option maxHeartbeats 16000000 in
theorem walk_c (s t : List UInt8) (p q : Pg) (hp : parseT s = .ok p) (hq : parseT t = .ok q) (hb : p.binds = [] ∨ q.datas = []) (hlen : s.length + t.length < 16384) (w : World) (L : Laid w) (h1 : decide (0 < p.binds.length) = false) :
    Calls Tryd.prog 4 #[.string (str s), .string (str t)] w fun e w' => e = .returned (.bool true) ∧ Below w.heap.size w w' := by
  have P1 := parse_str hp w L
  have HQ : Hid (parseT t = .ok q) := ⟨hq⟩
  have HL : Hid (Laid w) := ⟨L⟩
  have sz1 : (str s).size = s.length := str_size s
  have sz2 : (str t).size = t.length := str_size t
  obtain ⟨c, hcc⟩ : ∃ c : Pg, c = ⟨p.datas ++ q.datas.map (reD (· + (s.length + 1))), p.binds ++ q.binds.map (reB (· + (s.length + 1)))⟩ := ⟨_, rfl⟩
  have HC : Hid (parseT (s ++ 10 :: t) = .ok c) := ⟨by rw [hcc]; exact parse_two hp hq hlen hb⟩
  have HS2 : Hid (sameP c ⟨p.datas ++ q.datas, p.binds ++ q.binds⟩ = true ∧ sizeP c = sizeP p + sizeP q) := ⟨by rw [hcc]; exact same_two p q _⟩
  obtain ⟨y, hy⟩ : ∃ y, s ++ [10] = y := ⟨_, rfl⟩
  obtain ⟨z, hz⟩ : ∃ z, y ++ t = z := ⟨_, rfl⟩
  have HZ : Hid (z = s ++ 10 :: t) := ⟨by rw [← hz, ← hy]; simp⟩
  have yl : y.length = s.length + 1 := by rw [← hy]; simp
  have a1 := add_run s [10] y hy (by simp; omega)
  rw [show str [10] = ⟨#[10]⟩ from rfl] at a1
  have a2 := add_run y t z hz (by omega)
  have hN : ¬ (16384 : Int) ≤ ((str s).size : Int) + ((str t).size : Int) := by omega
  have hw : IntKind.i64.wrap (((str s).size : Int) + ((str t).size : Int)) = ((str s).size : Int) + ((str t).size : Int) := by rw [IntKind.wrap_i64]; omega
  have HCz : Hid (parseT z = .ok c) := ⟨by rw [HZ.out]; exact HC.out⟩
  clear L hp hq hb hy hz yl hlen HC HZ hcc
  all_goals
    go_enter Tryd.func4, Tryd.ntmps4
    go_wp2_with (first
    | (go_at_call 10; refine P1.mono ?_; rintro e w1 ⟨B1, v1, rfl, I1⟩; obtain ⟨gda, cda, gba, cba, rfl⟩ := isPV_two I1; have HI1 : Hid (isPV w1 (new w w1) p _) := ⟨I1⟩; have HB1 : Hid (Below w.heap.size w w1) := ⟨B1⟩; have B1' := B1.trans (Joins.below_le (Joins.below_alloc1 w1 (.cells #[.slice gda p.datas.length cda, .slice gba p.binds.length cba] 25)) B1.size); have P2 := parse_str HQ.out _ (HL.out.later B1'); clear P1 I1)
    | (go_at_call 10; refine P2.mono ?_; rintro e w2 ⟨B2, v2, rfl, I2⟩; obtain ⟨gdb, cdb, gbb, cbb, rfl⟩ := isPV_two I2; have HI2 : Hid (isPV w2 (new _ w2) q _) := ⟨I2⟩; have BW2 := B1'.trans (Joins.below_le B2 B1'.size); have BW2' := BW2.trans (Joins.below_le (Joins.below_alloc1 w2 (.cells #[.slice gdb q.datas.length cdb, .slice gbb q.binds.length cbb] 25)) BW2.size); have AW1 := awake_any _ (HL.out.later BW2'); have HB12 : Hid (Below w1.heap.size w1 w2) := ⟨(Joins.below_alloc1 w1 _).trans (Joins.below_le B2 (by simp))⟩; have D1 := (Blk.fresh w1 #[.slice gda p.datas.length cda, .slice gba p.binds.length cba] 25).kept (row := none) ⟨B2.os, B2.tape, B2.output, B2.size, fun i hi _ => B2.block i hi⟩ (by simp); clear P2 I2)
    | (go_at_call 7; refine AW1.mono ?_; rintro e w3 ⟨rfl, B3⟩; have BW3 := BW2'.trans (Joins.below_le B3 BW2'.size); have b23 : Below w2.heap.size w2 w3 := (Joins.below_alloc1 w2 _).trans (Joins.below_le B3 (by simp)); have HB23 : Hid (Below w2.heap.size w2 w3) := ⟨b23⟩; have D2 := (Blk.fresh w2 #[.slice gdb q.datas.length cdb, .slice gbb q.binds.length cbb] 25).kept (row := none) ⟨B3.os, B3.tape, B3.output, B3.size, fun i hi _ => B3.block i hi⟩ (by simp); have D1 := D1.kept (row := none) ⟨b23.os, b23.tape, b23.output, b23.size, fun i hi _ => b23.block i hi⟩ (by simp); have p1 : w3.cell? ⟨w1.heap.size, 1, none⟩ = some (.slice gba p.binds.length cba) := D1.cell 1; have q0 : w3.cell? ⟨w2.heap.size, 0, none⟩ = some (.slice gdb q.datas.length cdb) := D2.cell 0; have P3 := parse_str HCz.out w3 (HL.out.later BW3); clear AW1 b23)
      | (go_at_call 10; refine P3.mono ?_; rintro e w4 ⟨B4, v4, rfl, I4⟩; obtain ⟨gdc, cdc, gbc, cbc, rfl⟩ := isPV_two I4; have HI4 : Hid (isPV w4 (new w3 w4) c _) := ⟨I4⟩; clear I4 P3))
    have b34 : Below w3.heap.size w3 (w4.alloc (.cells #[.slice gdc c.datas.length cdc, .slice gbc c.binds.length cbc] 25)) := B4.alloc B4.size _
    have b24 := HB23.out.trans (Joins.below_le b34 HB23.out.size)
    have b14 := HB12.out.trans (Joins.below_le b24 HB12.out.size)
    have E1 : Blk (w4.alloc (.cells #[.slice gdc c.datas.length cdc, .slice gbc c.binds.length cbc] 25)) w1.heap.size #[.slice gda p.datas.length cda, .slice gba p.binds.length cba] 25 := D1.kept (row := none) ⟨b34.os, b34.tape, b34.output, b34.size, fun i hi _ => b34.block i hi⟩ (by simp)
    have E2 : Blk (w4.alloc (.cells #[.slice gdc c.datas.length cdc, .slice gbc c.binds.length cbc] 25)) w2.heap.size #[.slice gdb q.datas.length cdb, .slice gbb q.binds.length cbb] 25 := D2.kept (row := none) ⟨b34.os, b34.tape, b34.output, b34.size, fun i hi _ => b34.block i hi⟩ (by simp)
    have E3 : Blk (w4.alloc (.cells #[.slice gdc c.datas.length cdc, .slice gbc c.binds.length cbc] 25)) w4.heap.size #[.slice gdc c.datas.length cdc, .slice gbc c.binds.length cbc] 25 := Blk.fresh w4 _ _
    have IP : isPV (w4.alloc (.cells #[.slice gdc c.datas.length cdc, .slice gbc c.binds.length cbc] 25)) anyB p (.agg #[.slice gda p.datas.length cda, .slice gba p.binds.length cba]) := isPV_keeps (keeps_below b14 (fun _ _ => trivial)) HI1.out
    have IQ : isPV (w4.alloc (.cells #[.slice gdc c.datas.length cdc, .slice gbc c.binds.length cbc] 25)) anyB q (.agg #[.slice gdb q.datas.length cdb, .slice gbb q.binds.length cbb]) := isPV_keeps (keeps_below b24 (fun _ _ => trivial)) HI2.out
    have IC : isPV (w4.alloc (.cells #[.slice gdc c.datas.length cdc, .slice gbc c.binds.length cbc] 25)) anyB c (.agg #[.slice gdc c.datas.length cdc, .slice gbc c.binds.length cbc]) := isPV_keeps (keeps_below (Joins.below_alloc1 w4 _) (fun _ _ => trivial)) HI4.out
    have HLP : Hid (isPV (w4.alloc (.cells #[.slice gdc c.datas.length cdc, .slice gbc c.binds.length cbc] 25)) (fun g => g < (w4.alloc (.cells #[.slice gdc c.datas.length cdc, .slice gbc c.binds.length cbc] 25)).heap.size) p (.agg #[.slice gda p.datas.length cda, .slice gba p.binds.length cba])) := ⟨isPV_keeps (keeps_below b14 (fun g h => Nat.lt_of_lt_of_le h.2 b14.size)) HI1.out⟩
    have HLQ : Hid (isPV (w4.alloc (.cells #[.slice gdc c.datas.length cdc, .slice gbc c.binds.length cbc] 25)) (fun g => g < (w4.alloc (.cells #[.slice gdc c.datas.length cdc, .slice gbc c.binds.length cbc] 25)).heap.size) q (.agg #[.slice gdb q.datas.length cdb, .slice gbb q.binds.length cbb])) := ⟨isPV_keeps (keeps_below b24 (fun g h => Nat.lt_of_lt_of_le h.2 b24.size)) HI2.out⟩
    have HLC : Hid (isPV (w4.alloc (.cells #[.slice gdc c.datas.length cdc, .slice gbc c.binds.length cbc] 25)) (fun g => g < (w4.alloc (.cells #[.slice gdc c.datas.length cdc, .slice gbc c.binds.length cbc] 25)).heap.size) c (.agg #[.slice gdc c.datas.length cdc, .slice gbc c.binds.length cbc])) := ⟨isPV_keeps (keeps_below (Joins.below_alloc1 w4 _) (fun g h => Nat.lt_of_lt_of_le h.2 (Joins.below_alloc1 w4 _).size)) HI4.out⟩
    have BWz : Below w.heap.size w (w4.alloc (.cells #[.slice gdc c.datas.length cdc, .slice gbc c.binds.length cbc] 25)) := BW3.trans (Joins.below_le b34 BW3.size)
    clear D1 D2 p1 q0 b34 b24 b14 HI1 HI2 HI4 B1 B2 B3 B4 B1' BW2 BW2' BW3 HB1 HB12 HB23 a1 a2 hN hw sz1 sz2
    generalize w4.alloc (.cells #[.slice gdc c.datas.length cdc, .slice gbc c.binds.length cbc] 25) = wz at *
    have l5 : w1.heap.size < wz.heap.size := E1.lt
    have l8 : w2.heap.size < wz.heap.size := E2.lt
    have l11 : w4.heap.size < wz.heap.size := E3.lt
    have p0 : wz.cell? ⟨w1.heap.size, 0, none⟩ = some (.slice gda p.datas.length cda) := E1.cell 0
    have p1 : wz.cell? ⟨w1.heap.size, 1, none⟩ = some (.slice gba p.binds.length cba) := E1.cell 1
    have q0 : wz.cell? ⟨w2.heap.size, 0, none⟩ = some (.slice gdb q.datas.length cdb) := E2.cell 0
    have q1 : wz.cell? ⟨w2.heap.size, 1, none⟩ = some (.slice gbb q.binds.length cbb) := E2.cell 1
    obtain ⟨vd, vb, xa, e, ID, IB, IBS⟩ := id IP
    simp only [Value.agg.injEq, Array.mk.injEq, List.cons.injEq, and_true] at e
    obtain ⟨rfl, rfl⟩ := e
    obtain ⟨vd, vb, xb, e, ID', IB', IBS'⟩ := id IQ
    simp only [Value.agg.injEq, Array.mk.injEq, List.cons.injEq, and_true] at e
    obtain ⟨rfl, rfl⟩ := e
    have SDa := And.intro (datC_len p.datas) (And.intro (src_row ID) (datC_one p.datas))
    have SDb := And.intro (datC_len q.datas) (And.intro (src_row ID') (datC_one q.datas))
    have SBa := And.intro (isBs_length p.binds xa IBS) (And.intro (src_row IB) (isBs_one p.binds xa IBS))
    have SBb := And.intro (isBs_length q.binds xb IBS') (And.intro (src_row IB') (isBs_one q.binds xb IBS'))
    have m1 := row_le ID
    have m2 := row_le ID'
    have m3 := row_le IB
    have m4 := row_le IB'
    have HIS : Hid (isBs wz anyB p.binds xa ∧ isBs wz anyB q.binds xb) := ⟨⟨IBS, IBS'⟩⟩
    have HIP : Hid (isPV wz anyB p (.agg #[.slice gda p.datas.length cda, .slice gba p.binds.length cba])) := ⟨IP⟩
    have HIQ : Hid (isPV wz anyB q (.agg #[.slice gdb q.datas.length cdb, .slice gbb q.binds.length cbb])) := ⟨IQ⟩
    have HIC : Hid (isPV wz anyB c (.agg #[.slice gdc c.datas.length cdc, .slice gbc c.binds.length cbc])) := ⟨IC⟩
    obtain ⟨d0, di, dz0, dz1, dz2⟩ := info_parts info55
    obtain ⟨b0, bi, bz0, bz1, bz2⟩ := info_parts info51
    have BC : Below wz.heap.size wz wz := Below.refl _ wz
    clear ID IB IBS ID' IB' IBS' IP IQ IC
    have ne55 : (25 : TypeId) ≠ 55 := by decide
    have ne51 : (25 : TypeId) ≠ 51 := by decide
    go_cut [14] from 67 to 81 (fun u wx => ∃ g gD cD gB cB, u = ptr g ∧ Fin wz.heap.size wx g (.slice gD (p.datas.length + q.datas.length) cD) (.slice gB (p.binds.length + q.binds.length) cB) (p.datas.length + q.datas.length) (p.binds.length + q.binds.length) (datC p.datas ++ datC q.datas) (xa ++ xb) ∧ Below wz.heap.size wz wx)
    case first =>
      rename_i J K' hJ hK
      refine six_run (c := { a0 := _, wz := wz, p5 := w1.heap.size, p8 := w2.heap.size, nd := p.datas.length, md := q.datas.length, nb := p.binds.length, mb := q.binds.length, gda := gda, gdb := gdb, gba := gba, gbb := gbb, cda := cda, cdb := cdb, cba := cba, cbb := cbb, xda := datC p.datas, xdb := datC q.datas, xba := xa, xbb := xb }) ⟨rfl, rfl, rfl, p0, p1, q0, q1⟩ ⟨SDa, SDb, SBa, SBb, ⟨⟨by omega, by omega⟩, by omega, by omega⟩⟩ (six_start rfl) ?_
      rintro ⟨lt, df⟩ wx ⟨hdf, hsz⟩ hks ⟨g, gD, cD, gB, cB, e14, hF⟩ hB
      obtain ⟨t0, t1, t2, t3, t4, t5, t6, t7, t8, t9, t10, t11, t12, t13, t14, t15, t16, t17, t18, t19, t20, t21, t22, t23, t24, t25, t26, t27, t28, t29, t30, t31, t32, t33, t34, t35, t36, t37, t38, t39, t40, t41, t42, t43, t44, t45, t46, t47, t48, t49, t50, t51, t52, t53, t54, t55, t56, t57, t58, t59, t60, t61, t62, t63, t64, t65, t66, t67, t68, t69, t70, t71, t72, t73, t74, t75, t76, t77, t78, t79, t80, t81, t82, t83, t84, t85, t86, t87, t88, t89, t90, t91, t92, t93, t94, t95, t96, t97, t98, t99, t100, t101, t102, rfl⟩ := arr103 lt hsz
      obtain rfl : df = [] := hdf
      have e0 := hks 0 (by decide)
      conv at e0 => lhs; whnf
      conv at e0 => rhs; whnf
      subst e0
      have e1 := hks 1 (by decide)
      conv at e1 => lhs; whnf
      conv at e1 => rhs; whnf
      subst e1
      have e2 := hks 2 (by decide)
      conv at e2 => lhs; whnf
      conv at e2 => rhs; whnf
      subst e2
      have e3 := hks 3 (by decide)
      conv at e3 => lhs; whnf
      conv at e3 => rhs; whnf
      subst e3
      have e4 := hks 4 (by decide)
      conv at e4 => lhs; whnf
      conv at e4 => rhs; whnf
      subst e4
      have e5 := hks 5 (by decide)
      conv at e5 => lhs; whnf
      conv at e5 => rhs; whnf
      subst e5
      have e6 := hks 6 (by decide)
      conv at e6 => lhs; whnf
      conv at e6 => rhs; whnf
      subst e6
      have e7 := hks 7 (by decide)
      conv at e7 => lhs; whnf
      conv at e7 => rhs; whnf
      subst e7
      have e8 := hks 8 (by decide)
      conv at e8 => lhs; whnf
      conv at e8 => rhs; whnf
      subst e8
      have e9 := hks 9 (by decide)
      conv at e9 => lhs; whnf
      conv at e9 => rhs; whnf
      subst e9
      have e10 := hks 10 (by decide)
      conv at e10 => lhs; whnf
      conv at e10 => rhs; whnf
      subst e10
      have e11 := hks 11 (by decide)
      conv at e11 => lhs; whnf
      conv at e11 => rhs; whnf
      subst e11
      have e12 := hks 12 (by decide)
      conv at e12 => lhs; whnf
      conv at e12 => rhs; whnf
      subst e12
      have e13 := hks 13 (by decide)
      conv at e13 => lhs; whnf
      conv at e13 => rhs; whnf
      subst e13
      have e15 := hks 15 (by decide)
      conv at e15 => lhs; whnf
      conv at e15 => rhs; whnf
      subst e15
      have e16 := hks 16 (by decide)
      conv at e16 => lhs; whnf
      conv at e16 => rhs; whnf
      subst e16
      have e17 := hks 17 (by decide)
      conv at e17 => lhs; whnf
      conv at e17 => rhs; whnf
      subst e17
      have e18 := hks 18 (by decide)
      conv at e18 => lhs; whnf
      conv at e18 => rhs; whnf
      subst e18
      have e19 := hks 19 (by decide)
      conv at e19 => lhs; whnf
      conv at e19 => rhs; whnf
      subst e19
      have e20 := hks 20 (by decide)
      conv at e20 => lhs; whnf
      conv at e20 => rhs; whnf
      subst e20
      have e21 := hks 21 (by decide)
      conv at e21 => lhs; whnf
      conv at e21 => rhs; whnf
      subst e21
      have e22 := hks 22 (by decide)
      conv at e22 => lhs; whnf
      conv at e22 => rhs; whnf
      subst e22
      have e23 := hks 23 (by decide)
      conv at e23 => lhs; whnf
      conv at e23 => rhs; whnf
      subst e23
      have e24 := hks 24 (by decide)
      conv at e24 => lhs; whnf
      conv at e24 => rhs; whnf
      subst e24
      have e25 := hks 25 (by decide)
      conv at e25 => lhs; whnf
      conv at e25 => rhs; whnf
      subst e25
      have e26 := hks 26 (by decide)
      conv at e26 => lhs; whnf
      conv at e26 => rhs; whnf
      subst e26
      have e27 := hks 27 (by decide)
      conv at e27 => lhs; whnf
      conv at e27 => rhs; whnf
      subst e27
      have e28 := hks 28 (by decide)
      conv at e28 => lhs; whnf
      conv at e28 => rhs; whnf
      subst e28
      have e29 := hks 29 (by decide)
      conv at e29 => lhs; whnf
      conv at e29 => rhs; whnf
      subst e29
      have e30 := hks 30 (by decide)
      conv at e30 => lhs; whnf
      conv at e30 => rhs; whnf
      subst e30
      have e31 := hks 31 (by decide)
      conv at e31 => lhs; whnf
      conv at e31 => rhs; whnf
      subst e31
      have e32 := hks 32 (by decide)
      conv at e32 => lhs; whnf
      conv at e32 => rhs; whnf
      subst e32
      have e33 := hks 33 (by decide)
      conv at e33 => lhs; whnf
      conv at e33 => rhs; whnf
      subst e33
      have e34 := hks 34 (by decide)
      conv at e34 => lhs; whnf
      conv at e34 => rhs; whnf
      subst e34
      have e35 := hks 35 (by decide)
      conv at e35 => lhs; whnf
      conv at e35 => rhs; whnf
      subst e35
      have e36 := hks 36 (by decide)
      conv at e36 => lhs; whnf
      conv at e36 => rhs; whnf
      subst e36
      have e37 := hks 37 (by decide)
      conv at e37 => lhs; whnf
      conv at e37 => rhs; whnf
      subst e37
      have e38 := hks 38 (by decide)
      conv at e38 => lhs; whnf
      conv at e38 => rhs; whnf
      subst e38
      have e39 := hks 39 (by decide)
      conv at e39 => lhs; whnf
      conv at e39 => rhs; whnf
      subst e39
      have e40 := hks 40 (by decide)
      conv at e40 => lhs; whnf
      conv at e40 => rhs; whnf
      subst e40
      have e41 := hks 41 (by decide)
      conv at e41 => lhs; whnf
      conv at e41 => rhs; whnf
      subst e41
      have e42 := hks 42 (by decide)
      conv at e42 => lhs; whnf
      conv at e42 => rhs; whnf
      subst e42
      have e43 := hks 43 (by decide)
      conv at e43 => lhs; whnf
      conv at e43 => rhs; whnf
      subst e43
      have e44 := hks 44 (by decide)
      conv at e44 => lhs; whnf
      conv at e44 => rhs; whnf
      subst e44
      have e45 := hks 45 (by decide)
      conv at e45 => lhs; whnf
      conv at e45 => rhs; whnf
      subst e45
      have e46 := hks 46 (by decide)
      conv at e46 => lhs; whnf
      conv at e46 => rhs; whnf
      subst e46
      have e47 := hks 47 (by decide)
      conv at e47 => lhs; whnf
      conv at e47 => rhs; whnf
      subst e47
      have e48 := hks 48 (by decide)
      conv at e48 => lhs; whnf
      conv at e48 => rhs; whnf
      subst e48
      have e49 := hks 49 (by decide)
      conv at e49 => lhs; whnf
      conv at e49 => rhs; whnf
      subst e49
      have e50 := hks 50 (by decide)
      conv at e50 => lhs; whnf
      conv at e50 => rhs; whnf
      subst e50
      have e51 := hks 51 (by decide)
      conv at e51 => lhs; whnf
      conv at e51 => rhs; whnf
      subst e51
      have e52 := hks 52 (by decide)
      conv at e52 => lhs; whnf
      conv at e52 => rhs; whnf
      subst e52
      have e53 := hks 53 (by decide)
      conv at e53 => lhs; whnf
      conv at e53 => rhs; whnf
      subst e53
      have e54 := hks 54 (by decide)
      conv at e54 => lhs; whnf
      conv at e54 => rhs; whnf
      subst e54
      have e55 := hks 55 (by decide)
      conv at e55 => lhs; whnf
      conv at e55 => rhs; whnf
      subst e55
      have e56 := hks 56 (by decide)
      conv at e56 => lhs; whnf
      conv at e56 => rhs; whnf
      subst e56
      have e57 := hks 57 (by decide)
      conv at e57 => lhs; whnf
      conv at e57 => rhs; whnf
      subst e57
      have e58 := hks 58 (by decide)
      conv at e58 => lhs; whnf
      conv at e58 => rhs; whnf
      subst e58
      have e59 := hks 59 (by decide)
      conv at e59 => lhs; whnf
      conv at e59 => rhs; whnf
      subst e59
      have e60 := hks 60 (by decide)
      conv at e60 => lhs; whnf
      conv at e60 => rhs; whnf
      subst e60
      have e61 := hks 61 (by decide)
      conv at e61 => lhs; whnf
      conv at e61 => rhs; whnf
      subst e61
      have e62 := hks 62 (by decide)
      conv at e62 => lhs; whnf
      conv at e62 => rhs; whnf
      subst e62
      have e63 := hks 63 (by decide)
      conv at e63 => lhs; whnf
      conv at e63 => rhs; whnf
      subst e63
      have e64 := hks 64 (by decide)
      conv at e64 => lhs; whnf
      conv at e64 => rhs; whnf
      subst e64
      have e65 := hks 65 (by decide)
      conv at e65 => lhs; whnf
      conv at e65 => rhs; whnf
      subst e65
      have e66 := hks 66 (by decide)
      conv at e66 => lhs; whnf
      conv at e66 => rhs; whnf
      subst e66
      have e82 := hks 82 (by decide)
      conv at e82 => lhs; whnf
      conv at e82 => rhs; whnf
      subst e82
      have e83 := hks 83 (by decide)
      conv at e83 => lhs; whnf
      conv at e83 => rhs; whnf
      subst e83
      have e84 := hks 84 (by decide)
      conv at e84 => lhs; whnf
      conv at e84 => rhs; whnf
      subst e84
      have e85 := hks 85 (by decide)
      conv at e85 => lhs; whnf
      conv at e85 => rhs; whnf
      subst e85
      have e86 := hks 86 (by decide)
      conv at e86 => lhs; whnf
      conv at e86 => rhs; whnf
      subst e86
      have e87 := hks 87 (by decide)
      conv at e87 => lhs; whnf
      conv at e87 => rhs; whnf
      subst e87
      have e88 := hks 88 (by decide)
      conv at e88 => lhs; whnf
      conv at e88 => rhs; whnf
      subst e88
      have e89 := hks 89 (by decide)
      conv at e89 => lhs; whnf
      conv at e89 => rhs; whnf
      subst e89
      have e90 := hks 90 (by decide)
      conv at e90 => lhs; whnf
      conv at e90 => rhs; whnf
      subst e90
      have e91 := hks 91 (by decide)
      conv at e91 => lhs; whnf
      conv at e91 => rhs; whnf
      subst e91
      have e92 := hks 92 (by decide)
      conv at e92 => lhs; whnf
      conv at e92 => rhs; whnf
      subst e92
      have e93 := hks 93 (by decide)
      conv at e93 => lhs; whnf
      conv at e93 => rhs; whnf
      subst e93
      have e94 := hks 94 (by decide)
      conv at e94 => lhs; whnf
      conv at e94 => rhs; whnf
      subst e94
      have e95 := hks 95 (by decide)
      conv at e95 => lhs; whnf
      conv at e95 => rhs; whnf
      subst e95
      have e96 := hks 96 (by decide)
      conv at e96 => lhs; whnf
      conv at e96 => rhs; whnf
      subst e96
      have e97 := hks 97 (by decide)
      conv at e97 => lhs; whnf
      conv at e97 => rhs; whnf
      subst e97
      have e98 := hks 98 (by decide)
      conv at e98 => lhs; whnf
      conv at e98 => rhs; whnf
      subst e98
      have e99 := hks 99 (by decide)
      conv at e99 => lhs; whnf
      conv at e99 => rhs; whnf
      subst e99
      have e100 := hks 100 (by decide)
      conv at e100 => lhs; whnf
      conv at e100 => rhs; whnf
      subst e100
      have e101 := hks 101 (by decide)
      conv at e101 => lhs; whnf
      conv at e101 => rhs; whnf
      subst e101
      have e102 := hks 102 (by decide)
      conv at e102 => lhs; whnf
      conv at e102 => rhs; whnf
      subst e102
      conv at e14 => lhs; whnf
      subst e14
      exact hK _ _ (Met.intro (hJ _ _ ⟨_, t67, t68, t69, t70, t71, t72, t73, t74, t75, t76, t77, t78, t79, t80, t81, ⟨g, gD, cD, gB, cB, rfl, hF, hB⟩, rfl⟩))
    case rest =>
      obtain ⟨g, gD, cD, gB, cB, rfl, hF, hB⟩ := hcut
      have r0 : wz.cell? ⟨w4.heap.size, 0, none⟩ = some (.slice gdc c.datas.length cdc) := E3.cell 0
      have r1 : wz.cell? ⟨w4.heap.size, 1, none⟩ = some (.slice gbc c.binds.length cbc) := E3.cell 1
      have x0 := (hB.cell l5).trans p0
      have x1 := (hB.cell l5).trans p1
      have x2 := (hB.cell l8).trans q0
      have x3 := (hB.cell l8).trans q1
      have x4 := (hB.cell l11).trans r0
      have x5 := (hB.cell l11).trans r1
      have x6 : wc.cell? ⟨g, 0, none⟩ = some (.slice gD (p.datas.length + q.datas.length) cD) := hF.1.cell 0
      have x7 : wc.cell? ⟨g, 1, none⟩ = some (.slice gB (p.binds.length + q.binds.length) cB) := hF.1.cell 1
      have IW := want_is HS2.out.1 HIC.out HIS.out hB hF
      have SM : ∀ W, Below wc.heap.size wc W → Calls Tryd.prog 9 #[.agg #[.slice gdc c.datas.length cdc, .slice gbc c.binds.length cbc], .agg #[.slice gD (p.datas.length + q.datas.length) cD, .slice gB (p.binds.length + q.binds.length) cB]] W fun e w' => e = .returned (.bool true) ∧ Below W.heap.size W w' := fun W hW =>
        same_any W c _ _ _ (isPV_keeps (any_keeps hW) (isPV_keeps (any_keeps hB) HIC.out)) (isPV_keeps (any_keeps hW) IW) HS2.out.1
      have SZ : ∀ (r : Pg) (v : Value), isPV wz (fun g => g < wz.heap.size) r v → ∀ W, Below wc.heap.size wc W → Calls Tryd.prog 11 #[v] W fun e w' => e = .returned (.int .i64 (szI (sizeP r))) ∧ Below W.heap.size W w' := fun r v I W hW =>
        size_any (ok := fun g => g < wz.heap.size) (fun g h => Nat.lt_of_lt_of_le h (Nat.le_trans hB.size hW.size)) (isPV_keeps (keeps_below (hB.trans (Joins.below_le hW hB.size)) (fun _ h => h)) I)
      have SC := SZ _ _ HLC.out
      have SA := SZ _ _ HLP.out
      have SB := SZ _ _ HLQ.out
      have ES : (szI (sizeP c) == IntKind.i64.wrap (szI (sizeP p) + szI (sizeP q))) = true := by rw [szI_add, HS2.out.2]; simp
      have ES' : (szI (sizeP c) == wrap64 (szI (sizeP p) + szI (sizeP q))) = true := by have h := ES; rw [IntKind.wrap_i64] at h; unfold wrap64; exact h
      have BWc := BWz.trans (Joins.below_le hB BWz.size)
      have BD : Below wc.heap.size wc wc := Below.refl _ _
      generalize szI (sizeP c) = sc at *
      generalize szI (sizeP p) = sp at *
      generalize szI (sizeP q) = sq at *
      clear SZ IW hF hB HLC HLP HLQ HIC HIS HIP HIQ HS2 p0 p1 q0 q1 r0 r1 BWz BC SDa SDb SBa SBb m1 m2 m3 m4 E1 E2 E3 l5 l8 l11 d0 di dz0 dz1 dz2 b0 bi bz0 bz1 bz2 HCz HL HQ
      go_wp2
      go_region_held3 (fun w' => w'.cell? ⟨w1.heap.size, 0, none⟩ = some (.slice gda p.datas.length cda) ∧ w'.cell? ⟨w1.heap.size, 1, none⟩ = some (.slice gba p.binds.length cba) ∧ w'.cell? ⟨w2.heap.size, 0, none⟩ = some (.slice gdb q.datas.length cdb) ∧ w'.cell? ⟨w2.heap.size, 1, none⟩ = some (.slice gbb q.binds.length cbb) ∧ w'.cell? ⟨w4.heap.size, 0, none⟩ = some (.slice gdc c.datas.length cdc) ∧ w'.cell? ⟨w4.heap.size, 1, none⟩ = some (.slice gbc c.binds.length cbc) ∧ w'.cell? ⟨g, 0, none⟩ = some (.slice gD (p.datas.length + q.datas.length) cD) ∧ w'.cell? ⟨g, 1, none⟩ = some (.slice gB (p.binds.length + q.binds.length) cB)) (go_keep) (first
        | (go_at_call 9; refine (SM _ BD.drew).mono ?_; rintro e w5 ⟨rfl, B5⟩; have BD5 := BD.drew.trans (Joins.below_le B5 BD.size); have y0 := (B5.cell (World.block_lt_of_cell? _ _ x0)).trans x0; have y1 := (B5.cell (World.block_lt_of_cell? _ _ x1)).trans x1; have y2 := (B5.cell (World.block_lt_of_cell? _ _ x2)).trans x2; have y3 := (B5.cell (World.block_lt_of_cell? _ _ x3)).trans x3; have y4 := (B5.cell (World.block_lt_of_cell? _ _ x4)).trans x4; have y5 := (B5.cell (World.block_lt_of_cell? _ _ x5)).trans x5; have y6 := (B5.cell (World.block_lt_of_cell? _ _ x6)).trans x6; have y7 := (B5.cell (World.block_lt_of_cell? _ _ x7)).trans x7)
        | (go_at_call_of 11 (Value.agg #[.slice gdc c.datas.length cdc, .slice gbc c.binds.length cbc]); refine (SC _ BD5).mono ?_; rintro e w6 ⟨rfl, B6⟩; have BD6 := BD5.trans (Joins.below_le B6 BD5.size); have z0 := (B6.cell (World.block_lt_of_cell? _ _ y0)).trans y0; have z1 := (B6.cell (World.block_lt_of_cell? _ _ y1)).trans y1; have z2 := (B6.cell (World.block_lt_of_cell? _ _ y2)).trans y2; have z3 := (B6.cell (World.block_lt_of_cell? _ _ y3)).trans y3; have z4 := (B6.cell (World.block_lt_of_cell? _ _ y4)).trans y4; have z5 := (B6.cell (World.block_lt_of_cell? _ _ y5)).trans y5; have z6 := (B6.cell (World.block_lt_of_cell? _ _ y6)).trans y6; have z7 := (B6.cell (World.block_lt_of_cell? _ _ y7)).trans y7)
        | (go_at_call_of 11 (Value.agg #[.slice gda p.datas.length cda, .slice gba p.binds.length cba]); refine (SA _ BD6).mono ?_; rintro e w7 ⟨rfl, B7⟩; have BD7 := BD6.trans (Joins.below_le B7 BD6.size); have s0 := (B7.cell (World.block_lt_of_cell? _ _ z0)).trans z0; have s1 := (B7.cell (World.block_lt_of_cell? _ _ z1)).trans z1; have s2 := (B7.cell (World.block_lt_of_cell? _ _ z2)).trans z2; have s3 := (B7.cell (World.block_lt_of_cell? _ _ z3)).trans z3; have s4 := (B7.cell (World.block_lt_of_cell? _ _ z4)).trans z4; have s5 := (B7.cell (World.block_lt_of_cell? _ _ z5)).trans z5; have s6 := (B7.cell (World.block_lt_of_cell? _ _ z6)).trans z6; have s7 := (B7.cell (World.block_lt_of_cell? _ _ z7)).trans z7)
        | (go_at_call_of 11 (Value.agg #[.slice gdb q.datas.length cdb, .slice gbb q.binds.length cbb]); refine (SB _ BD7).mono ?_; rintro e w8 ⟨rfl, B8⟩; have BD8 := BD7.trans (Joins.below_le B8 BD7.size); have t0 := (B8.cell (World.block_lt_of_cell? _ _ s0)).trans s0; have t1 := (B8.cell (World.block_lt_of_cell? _ _ s1)).trans s1; have t2 := (B8.cell (World.block_lt_of_cell? _ _ s2)).trans s2; have t3 := (B8.cell (World.block_lt_of_cell? _ _ s3)).trans s3; have t4 := (B8.cell (World.block_lt_of_cell? _ _ s4)).trans s4; have t5 := (B8.cell (World.block_lt_of_cell? _ _ s5)).trans s5; have t6 := (B8.cell (World.block_lt_of_cell? _ _ s6)).trans s6; have t7 := (B8.cell (World.block_lt_of_cell? _ _ s7)).trans s7))
      all_goals go_wp2
      all_goals go_ret
      all_goals exact ⟨rfl, BWc.trans (Joins.below_le BD8 BWc.size)⟩

end Go.Proofs.YtoedeedoecdajaaDoor.treeJoins
