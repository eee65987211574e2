/- The headers of closures: the law's walk. -/
import Derived.Test.YtidplckoolmaiaaDoorRfo
import Derived.Test.YtidplckoolmaiaaDoorRfg
import Derived.Test.YtidplckoolmaiaaDoorCdq
import Derived.Test.YtidplckoolmaiaaDoorCds
import Derived.Deep.Cut
namespace Go.Proofs.YtidplckoolmaiaaDoor
open Go.RowKit
set_option linter.unusedVariables false
set_option linter.unusedSimpArgs false

/-- a closure of right code has a right header, or its info is too great a number -/
theorem head_ok {c : Cd} (R : RcOk c) {x : Ins} (hx : x ∈ c.ins) (ho : x.op = 1) {m : Mk} (hm : m ∈ x.ms) : (headT m = (0, 0, 0, 0, 2) ∧ 1048576 ≤ m.i) ∨ ∃ a b p q, headT m = (a, b, p, q, 0) ∧ ∀ W, Calls Tryd.prog 9 #[.agg #[.int .i64 a, .int .i64 b, .int .i64 p, .int .i64 q]] W fun e w' => e = .returned (.int .i64 0) ∧ Below W.heap.size W w' := by
  obtain ⟨R1, R2, R3⟩ := R
  obtain ⟨hk, h0, hl, h7⟩ := R3 x hx ho m hm
  obtain ⟨k, i, n, fr⟩ := m
  have cn : conB c i = true → 0 ≤ i ∧ 0 ≤ coA c i ∧ coA c i ≤ 8 := fun h => by
    obtain ⟨j, rfl, hj⟩ := below_nat (l := c.co.length) h
    rw [coA_at c j hj]
    have := R1 _ (List.getElem_mem hj)
    omega
  have inn : (belowI i c.inf.length && ((infA c i).k == k)) = true → 0 ≤ i ∧ 0 ≤ (infA c i).f ∧ (infA c i).f ≤ 255 := fun h => by
    simp only [Bool.and_eq_true] at h
    obtain ⟨j, rfl, hj⟩ := below_nat (l := c.inf.length) h.1
    have e : infA c (j : Int) = c.inf[j]'hj := by simp [infA, hj]
    rw [e]
    have := R2 _ (List.getElem_mem hj)
    generalize c.inf[j]'hj = f at *
    unfold wrongInf at this
    split at this
    · cases this
    split at this
    · cases this
    omega
  unfold takesI at h0 hl
  unfold cloB at hk
  simp only [Bool.or_eq_true, beq_iff_eq] at hk
  dsimp only at h0 hl h7 hk
  by_cases k2 : k = 2
  · subst k2
    simp at hl
    obtain rfl : fr = [] := by simpa using hl.symm
    exact .inr ⟨2, 0, 0, 1, by simp [headT, headL], fun W => right_2 W⟩
  rw [if_neg k2] at h0 hl
  by_cases k7 : k = 7
  · subst k7
    rw [if_pos rfl] at hl
    have hi := (cn (h7 rfl)).1
    have hL : fr.length = 1 := by omega
    by_cases b : i ≤ 1048575
    · exact .inr ⟨7, i, 1, 1, by simp [headT, headL, hL]; omega, fun W => right_7 i hi b W⟩
    · exact .inl ⟨by simp [headT, headL, hL]; omega, by dsimp only; omega⟩
  rw [if_neg k7] at h0 hl
  by_cases k1 : k = 1
  · subst k1
    rw [if_pos rfl] at h0 hl
    split at hl
    · next q =>
      obtain ⟨hi, a0, a8⟩ := cn q
      by_cases b : i ≤ 1048575
      · refine .inr ⟨1, i, fr.length, 0, ?_, fun W => right_1 i _ (by omega) (by omega) hi b W⟩
        simp only [headT, headL]
        rw [if_neg (by decide), if_pos (by decide), if_neg (by omega), if_neg (by omega), if_neg (by omega)]
      · refine .inl ⟨?_, by dsimp only; omega⟩
        simp only [headT, headL]
        rw [if_neg (by decide), if_pos (by decide), if_neg (by omega), if_pos (by omega)]
    · omega
  rw [if_neg k1] at h0 hl
  split at hl
  · next q =>
    obtain ⟨hi, a0, a8⟩ := inn q
    rcases (by omega : k = 3 ∨ k = 6) with rfl | rfl
    · by_cases b : i ≤ 1048575
      · refine .inr ⟨3, i, fr.length, 0, ?_, fun W => right_3 i _ (by omega) (by omega) hi b W⟩
        simp only [headT, headL]
        rw [if_neg (by decide), if_pos (by decide), if_neg (by omega), if_neg (by omega), if_neg (by omega)]
      · refine .inl ⟨?_, by dsimp only; omega⟩
        simp only [headT, headL]
        rw [if_neg (by decide), if_pos (by decide), if_neg (by omega), if_pos (by omega)]
    · by_cases b : i ≤ 1048575
      · by_cases l0 : fr.length = 0
        · refine .inr ⟨6, i, 0, 1, ?_, fun W => right_60 i hi b W⟩
          simp [headT, headL, l0]
          omega
        · refine .inr ⟨6, i, fr.length, 0, ?_, fun W => right_6 i _ (by omega) (by omega) hi b W⟩
          simp only [headT, headL]
          rw [if_neg (by decide), if_pos (by decide), if_neg (by omega), if_neg (by omega), if_neg (by omega)]
      · refine .inl ⟨?_, by dsimp only; omega⟩
        simp only [headT, headL]
        rw [if_neg (by decide), if_pos (by decide), if_neg (by omega), if_pos (by omega)]
  · omega
section
variable {w : World} {c : Cd} {vc vg vi vn : Value}
set_option maxRecDepth 100000 in
set_option maxHeartbeats 8000000 in
theorem heads_any (T : Table w) (V : Cv w c vc vg vi vn) (m : Mk) (vf : Value) (F : Lst w 1 isInt m.fr vf) : Calls Tryd.prog 3 #[.agg #[vc, vg, vi, vn], .agg #[.int .i64 m.k, .int .i64 m.i, .int .i64 m.n, vf]] w fun e w' => e = .returned (.bool true) ∧ Below w.heap.size w w' := by
  have HV := Hid.mk V
  have L3 := V.ins.len
  unfold maxLen at L3
  obtain ⟨⟨gc, cc, rfl, u1⟩, ⟨gg, cg, rfl, u2⟩, ⟨gi, ci, rfl, u3⟩, ⟨gn, cn, rfl, u4⟩⟩ := V
  have HF0 := Hid.mk F
  obtain ⟨gf, cf, rfl, u5⟩ := F
  clear u1 u2 u3 u4 u5
  obtain ⟨W0, hW0⟩ : ∃ W0, W0 = w.alloc (.cells #[.slice gc c.co.length cc, .slice gg c.gl.length cg, .slice gi c.inf.length ci, .slice gn c.ins.length cn] 27) := ⟨_, rfl⟩
  obtain ⟨W1, hW1⟩ : ∃ W1, W1 = W0.alloc (.cells #[.int .i64 m.k, .int .i64 m.i, .int .i64 m.n, .slice gf m.fr.length cf] 30) := ⟨_, rfl⟩
  have sz : W0.heap.size = w.heap.size + 1 := by subst hW0; simp
  have HB1 : Hid (Below w.heap.size w W1) := ⟨by subst hW1 hW0; go_grown⟩
  have kc : Hid (∀ o u, #[.slice gc c.co.length cc, .slice gg c.gl.length cg, .slice gi c.inf.length ci, .slice gn c.ins.length cn][o]? = some u → W1.cell? ⟨w.heap.size, o, none⟩ = some u) := ⟨fun o u h => by
    refine cellLater (w := W0) (by subst hW1; go_grown) ?_
    subst hW0
    exact cellNew _ _ _ _ _ h⟩
  have kx : Hid (∀ o u, #[.int .i64 m.k, .int .i64 m.i, .int .i64 m.n, .slice gf m.fr.length cf][o]? = some u → W1.cell? ⟨w.heap.size + 1, o, none⟩ = some u) := ⟨fun o u h => by rw [← sz, hW1]; exact cellNew _ _ _ _ _ h⟩
  have HF : Hid (∀ W, Below W1.heap.size W1 W → Lst W 1 isInt m.fr (.slice gf m.fr.length cf)) := ⟨fun W hW => HF0.out.later (belowOn HB1.out hW) fun _ _ h => h⟩
  have HT : Hid (∀ W, Below W1.heap.size W1 W → Table W) := ⟨fun W hW => T.later (belowOn HB1.out hW)⟩
  have HC : Hid (∀ W, Below W1.heap.size W1 W → Calls Tryd.prog 8 #[.agg #[.slice gc c.co.length cc, .slice gg c.gl.length cg, .slice gi c.inf.length ci, .slice gn c.ins.length cn]] W fun e w' => ∃ z r, e = .returned (.tuple #[.int .i64 z, .int .i64 r]) ∧ (r = 0 → RcOk c) ∧ Below W.heap.size W w') := ⟨fun W hW => rcheck_any (HV.out.later (belowOn HB1.out hW))⟩
  have y0 := kc.out 0 _ rfl
  have y1 := kc.out 1 _ rfl
  have y2 := kc.out 2 _ rfl
  have y3 := kc.out 3 _ rfl
  have z0 := kx.out 0 _ rfl
  have z1 := kx.out 1 _ rfl
  have z2 := kx.out 2 _ rfl
  have z3 := kx.out 3 _ rfl
  obtain ⟨t, ht⟩ : ∃ t, headT m = t := ⟨_, rfl⟩
  replace ht := Hid.mk ht
  clear sz HF0 T kc kx
  go_enter Tryd.func3, Tryd.ntmps3
  subst hW0
  go_upto_region 1 with fail
  rw [← hW1]
  clear hW1
  go_upto_region 6 with (first | (go_at_call 8; have zz := K5; refine (HC.out _ K5.out).mono ?_; rintro e w6 ⟨at8, r, rfl, hr, G6⟩; replace y0 := cellLater G6 y0; replace y1 := cellLater G6 y1; replace y2 := cellLater G6 y2; replace y3 := cellLater G6 y3; have HR := Hid.mk hr; have K6 := Hid.mk (belowOn K5.out G6); clear G6 hr) | (go_at_call 7; have zz := K4; refine (awake_any _ (HT.out _ K4.out)).mono ?_; rintro e w5 ⟨rfl, G5⟩; replace y0 := cellLater G5 y0; replace y1 := cellLater G5 y1; replace y2 := cellLater G5 y2; replace y3 := cellLater G5 y3; replace h0 := cellLater G5 h0; replace h1 := cellLater G5 h1; replace h2 := cellLater G5 h2; replace h3 := cellLater G5 h3; replace x0 := cellLater G5 x0; replace x1 := cellLater G5 x1; replace x2 := cellLater G5 x2; replace x3 := cellLater G5 x3; have K5 := Hid.mk (belowOn K4.out G5); clear G5) | (go_at_call 6; have zz := K3; refine (head6_any m _ _ (HF.out _ K3.out)).mono ?_; rw [ht.out]; unfold hdV; rintro e w4 ⟨rfl, G4⟩; replace y0 := cellLater (Joins.below_alloc1 w4 (.cells #[.int .i64 t.1, .int .i64 t.2.1, .int .i64 t.2.2.1, .int .i64 t.2.2.2.1] 32)) (cellLater G4 y0); replace y1 := cellLater (Joins.below_alloc1 w4 (.cells #[.int .i64 t.1, .int .i64 t.2.1, .int .i64 t.2.2.1, .int .i64 t.2.2.2.1] 32)) (cellLater G4 y1); replace y2 := cellLater (Joins.below_alloc1 w4 (.cells #[.int .i64 t.1, .int .i64 t.2.1, .int .i64 t.2.2.1, .int .i64 t.2.2.2.1] 32)) (cellLater G4 y2); replace y3 := cellLater (Joins.below_alloc1 w4 (.cells #[.int .i64 t.1, .int .i64 t.2.1, .int .i64 t.2.2.1, .int .i64 t.2.2.2.1] 32)) (cellLater G4 y3); replace h0 := cellLater (Joins.below_alloc1 w4 (.cells #[.int .i64 t.1, .int .i64 t.2.1, .int .i64 t.2.2.1, .int .i64 t.2.2.2.1] 32)) (cellLater G4 h0); replace h1 := cellLater (Joins.below_alloc1 w4 (.cells #[.int .i64 t.1, .int .i64 t.2.1, .int .i64 t.2.2.1, .int .i64 t.2.2.2.1] 32)) (cellLater G4 h1); replace h2 := cellLater (Joins.below_alloc1 w4 (.cells #[.int .i64 t.1, .int .i64 t.2.1, .int .i64 t.2.2.1, .int .i64 t.2.2.2.1] 32)) (cellLater G4 h2); replace h3 := cellLater (Joins.below_alloc1 w4 (.cells #[.int .i64 t.1, .int .i64 t.2.1, .int .i64 t.2.2.1, .int .i64 t.2.2.2.1] 32)) (cellLater G4 h3); clear z0 z1 z2 z3; have K4 := Hid.mk (belowOn K3.out (belowOn G4 (Joins.below_alloc1 w4 (.cells #[.int .i64 t.1, .int .i64 t.2.1, .int .i64 t.2.2.1, .int .i64 t.2.2.2.1] 32)))); clear G4; have x0 := cellNew w4 #[.int .i64 t.1, .int .i64 t.2.1, .int .i64 t.2.2.1, .int .i64 t.2.2.2.1] 32 0 _ rfl; have x1 := cellNew w4 #[.int .i64 t.1, .int .i64 t.2.1, .int .i64 t.2.2.1, .int .i64 t.2.2.2.1] 32 1 _ rfl; have x2 := cellNew w4 #[.int .i64 t.1, .int .i64 t.2.1, .int .i64 t.2.2.1, .int .i64 t.2.2.2.1] 32 2 _ rfl; have x3 := cellNew w4 #[.int .i64 t.1, .int .i64 t.2.1, .int .i64 t.2.2.1, .int .i64 t.2.2.2.1] 32 3 _ rfl) | (go_at_call 5; refine (head5_any m _ _ (HF.out _ (Below.refl _ _))).mono ?_; rw [ht.out]; unfold hdV; rintro e w3 ⟨rfl, G3⟩; replace y0 := cellLater (Joins.below_alloc1 w3 (.cells #[.int .i64 t.1, .int .i64 t.2.1, .int .i64 t.2.2.1, .int .i64 t.2.2.2.1] 32)) (cellLater G3 y0); replace y1 := cellLater (Joins.below_alloc1 w3 (.cells #[.int .i64 t.1, .int .i64 t.2.1, .int .i64 t.2.2.1, .int .i64 t.2.2.2.1] 32)) (cellLater G3 y1); replace y2 := cellLater (Joins.below_alloc1 w3 (.cells #[.int .i64 t.1, .int .i64 t.2.1, .int .i64 t.2.2.1, .int .i64 t.2.2.2.1] 32)) (cellLater G3 y2); replace y3 := cellLater (Joins.below_alloc1 w3 (.cells #[.int .i64 t.1, .int .i64 t.2.1, .int .i64 t.2.2.1, .int .i64 t.2.2.2.1] 32)) (cellLater G3 y3); replace z0 := cellLater (Joins.below_alloc1 w3 (.cells #[.int .i64 t.1, .int .i64 t.2.1, .int .i64 t.2.2.1, .int .i64 t.2.2.2.1] 32)) (cellLater G3 z0); replace z1 := cellLater (Joins.below_alloc1 w3 (.cells #[.int .i64 t.1, .int .i64 t.2.1, .int .i64 t.2.2.1, .int .i64 t.2.2.2.1] 32)) (cellLater G3 z1); replace z2 := cellLater (Joins.below_alloc1 w3 (.cells #[.int .i64 t.1, .int .i64 t.2.1, .int .i64 t.2.2.1, .int .i64 t.2.2.2.1] 32)) (cellLater G3 z2); replace z3 := cellLater (Joins.below_alloc1 w3 (.cells #[.int .i64 t.1, .int .i64 t.2.1, .int .i64 t.2.2.1, .int .i64 t.2.2.2.1] 32)) (cellLater G3 z3); have K3 := Hid.mk (belowOn G3 (Joins.below_alloc1 w3 (.cells #[.int .i64 t.1, .int .i64 t.2.1, .int .i64 t.2.2.1, .int .i64 t.2.2.2.1] 32))); clear G3; have h0 := cellNew w3 #[.int .i64 t.1, .int .i64 t.2.1, .int .i64 t.2.2.1, .int .i64 t.2.2.2.1] 32 0 _ rfl; have h1 := cellNew w3 #[.int .i64 t.1, .int .i64 t.2.1, .int .i64 t.2.2.1, .int .i64 t.2.2.2.1] 32 1 _ rfl; have h2 := cellNew w3 #[.int .i64 t.1, .int .i64 t.2.1, .int .i64 t.2.2.1, .int .i64 t.2.2.2.1] 32 2 _ rfl; have h3 := cellNew w3 #[.int .i64 t.1, .int .i64 t.2.1, .int .i64 t.2.2.1, .int .i64 t.2.2.2.1] 32 3 _ rfl))
  by_cases q1 : r = 0
  case neg =>
    have q2 : (r != 0) = true := by simpa using q1
    go_wp2
    go_ret
    exact ⟨rfl, belowOn HB1.out K6.out⟩
  subst q1
  have RC := Hid.mk (HR.out rfl)
  have HV6 := Hid.mk (HV.out.later (belowOn HB1.out K6.out))
  have HB6 := Hid.mk (belowOn HB1.out K6.out)
  have HY3 := Hid.mk y3
  clear HR HV HC HT HF K3 K4 K5 K6 h0 h1 h2 h3 x0 x1 x2 x3 y0 y1 y2 y3 ht HB1
  have y3 := HY3.out
  go_wp2
  clear y3
  go_loopw [11] (fun u wr => ∃ i : Nat, u = .int .i64 i ∧ i ≤ c.ins.length ∧ Hid (Below w6.heap.size w6 wr)) (fun u _ => c.ins.length - (intOf u).toNat)
  case atStart => exact ⟨0, rfl, Nat.zero_le _, ⟨Below.refl _ _⟩⟩
  case round =>
    obtain ⟨i, rfl, hi, BB⟩ := hrel
    have y3 := cellLater BB.out HY3.out
    by_cases hlt : i < c.ins.length
    · have hlt' : (i : Int) < c.ins.length := by omega
      obtain ⟨g, off, cap', cs, e, _, _, pc, hx⟩ := (HV6.out.later BB.out).ins.get i hlt
      simp only [Value.slice.injEq] at e
      obtain ⟨rfl, _, rfl⟩ := e
      have HX : Hid ((c.ins[i]'hlt) ∈ c.ins) := ⟨List.getElem_mem hlt⟩
      generalize c.ins[i]'hlt = x at *
      obtain ⟨vl, vk, vm, va, rfl, I1, I2, I3, I4⟩ := pc
      have HM := Hid.mk I3
      obtain ⟨gm, cm, rfl, hm1, _⟩ := I3
      have hm2 := hm1.2
      unfold maxLen at hm2
      have c0 : wr.cell? ⟨g, off + i * 7, none⟩ = some (.int .i64 x.op) := hx 0 _ rfl
      have c5 : wr.cell? ⟨g, off + i * 7 + 5, none⟩ = some (.slice gm x.ms.length cm) := hx 5 _ rfl
      clear hx hm1 I1 I2 I4
      have HC0 := Hid.mk c0
      have HC5 := Hid.mk c5
      have HW3 := Hid.mk y3
      go_wp2
      clear c0 c5 y3
      go_loopw [12] (fun u ws => ∃ j : Nat, u = .int .i64 j ∧ j ≤ x.ms.length ∧ Hid (Below wr.heap.size wr ws)) (fun u _ => x.ms.length - (intOf u).toNat)
      case atStart => exact ⟨0, rfl, Nat.zero_le _, ⟨Below.refl _ _⟩⟩
      case round =>
        obtain ⟨j, rfl, hj, BC⟩ := hrel
        have y3 := cellLater BC.out HW3.out
        have c0 := cellLater BC.out HC0.out
        have c5 := cellLater BC.out HC5.out
        by_cases hjl : j < x.ms.length
        · have hjl' : (j : Int) < x.ms.length := by omega
          by_cases o1 : x.op = 1
          · obtain ⟨g2, off2, cap2, cs2, e2, _, _, pc2, hx2⟩ := HM.out.get j hjl
            simp only [Value.slice.injEq] at e2
            obtain ⟨rfl, _, rfl⟩ := e2
            have HO := Hid.mk (head_ok RC.out HX.out o1 (List.getElem_mem hjl))
            generalize x.ms[j]'hjl = m2 at *
            obtain ⟨vf, rfl, hf⟩ := pc2
            have HF := Hid.mk hf
            obtain ⟨gf2, cf2, rfl, _⟩ := hf
            have d0 : wr.cell? ⟨g2, off2 + j * 4, none⟩ = some (.int .i64 m2.k) := cellLater BC.out (hx2 0 _ rfl)
            have d1 : wr.cell? ⟨g2, off2 + j * 4 + 1, none⟩ = some (.int .i64 m2.i) := cellLater BC.out (hx2 1 _ rfl)
            have d2 : wr.cell? ⟨g2, off2 + j * 4 + 2, none⟩ = some (.int .i64 m2.n) := cellLater BC.out (hx2 2 _ rfl)
            have d3 : wr.cell? ⟨g2, off2 + j * 4 + 3, none⟩ = some (.slice gf2 m2.fr.length cf2) := cellLater BC.out (hx2 3 _ rfl)
            clear hx2
            have o2 : (x.op == 1) = true := by simpa using o1
            have C5 := fun W (hW : Below wr.heap.size wr W) => head5_any m2 _ W (HF.out.later (belowOn BC.out hW) fun _ _ h => h)
            rcases HO.out with ⟨e, hi2⟩ | ⟨a, b, p, q, e, C9⟩
            · rw [e] at C5
              unfold hdV at C5
              clear e HO HF
              dsimp only at C5
              go_wp2_with (go_at_call 5; refine (C5 _ (by first | exact Below.refl _ _ | exact (Below.refl _ _).drew)).mono ?_; rintro e w7 ⟨rfl, G7⟩; replace y3 := cellLater (Joins.below_alloc1 w7 (.cells #[.int .i64 0, .int .i64 0, .int .i64 0, .int .i64 0] 32)) (cellLater G7 y3); replace c0 := cellLater (Joins.below_alloc1 w7 (.cells #[.int .i64 0, .int .i64 0, .int .i64 0, .int .i64 0] 32)) (cellLater G7 c0); replace c5 := cellLater (Joins.below_alloc1 w7 (.cells #[.int .i64 0, .int .i64 0, .int .i64 0, .int .i64 0] 32)) (cellLater G7 c5); replace d1 := cellLater (Joins.below_alloc1 w7 (.cells #[.int .i64 0, .int .i64 0, .int .i64 0, .int .i64 0] 32)) (cellLater G7 d1); have K7 := Hid.mk G7; clear G7)
              exact ⟨⟨j + 1, by go_num, by omega, ⟨belowOn BC.out (belowOn K7.out (Joins.below_alloc1 _ _))⟩⟩, by simp [intOf]; omega⟩
            · rw [e] at C5
              unfold hdV at C5
              clear e HO HF
              go_wp2_with (first | (go_at_call 9; have zz := K7; refine (C9 _).mono ?_; rintro e w8 ⟨rfl, G8⟩; have K8 := Hid.mk G8; clear G8) | (go_at_call 5; refine (C5 _ (by first | exact Below.refl _ _ | exact (Below.refl _ _).drew)).mono ?_; rintro e w7 ⟨rfl, G7⟩; replace y3 := cellLater G7 y3; replace c0 := cellLater G7 c0; replace c5 := cellLater G7 c5; replace d1 := cellLater G7 d1; have K7 := Hid.mk G7; clear G7))
              exact ⟨⟨j + 1, by go_num, by omega, ⟨belowOn BC.out (belowOn (belowOn K7.out (Joins.below_alloc1 _ _)) K8.out)⟩⟩, by simp [intOf]; omega⟩
          · have o2 : (x.op == 1) = false := by simpa using o1
            go_wp2
            exact ⟨⟨i + 1, by go_num, by omega, ⟨belowOn BB.out BC.out⟩⟩, by simp [intOf]; omega⟩
        · obtain rfl : j = x.ms.length := by omega
          go_wp2
          exact ⟨⟨i + 1, by go_num, by omega, ⟨belowOn BB.out BC.out⟩⟩, by simp [intOf]; omega⟩
    · obtain rfl : i = c.ins.length := by omega
      go_wp2
      go_ret
      exact ⟨rfl, belowOn HB6.out BB.out⟩
end
end Go.Proofs.YtidplckoolmaiaaDoor
