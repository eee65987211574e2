/-
  The statement StableMoves: whatever moves, a handle tells where its own went, and no other one's.
  Conditions: none on the input.
-/
import Derived.Test.YtejjobemafdlbaaSbl
namespace Go.Proofs.Ytejjobemafdlbaa.stableMoves
open Go.ChangeShapes Go.WideShapes Go.ChangeAt Go.RowKit
set_option linter.unusedVariables false

set_option maxRecDepth 100000 in
set_option maxHeartbeats 8000000 in
theorem walk (ad : Option Addr) (len cap : Nat) (n : Int) (w : World) (hl0 : IsNums .i64 w ad len) (hn : -9223372036854775808 ≤ n ∧ n ≤ 9223372036854775807) :
    Calls Try.prog 5 #[.slice ad len cap, .int .i64 n] w fun e w' => e = .returned (.bool true) ∧ Below w.heap.size w w' := by
  have hm : len ≤ 9223372036854775807 := by have := hl0.1; unfold maxLen at this; exact this
  have HL := Hid.mk hl0
  clear hl0
  have NW := new_any (w.alloc (.cells #[.int .i64 n] 3)) 256 (by omega)
  have HY0 : Hid ((w.alloc (.cells #[.int .i64 n] 3)).cell? ⟨w.heap.size, 0, none⟩ = some (.int .i64 n)) := ⟨nbc1 w n⟩
  go_enter Try.func5, Try.ntmps5
  go_wp2_with (first
    | (go_at_call 8; refine NW.mono ?_; clear NW; rintro e w1 ⟨s, sb, rfl, H1, B1⟩; have AW := awake_any w1; have HH1 := Hid.mk H1; have HB1 := Hid.mk B1; clear H1 B1)
    | (go_at_call 10; refine AW.mono ?_; clear AW; rintro e w2 ⟨rfl, B2⟩; have HH2 := Hid.mk (HH1.out.later B2); have HB2 := Hid.mk (HB1.out.trans (B2.mono HB1.out.size)); clear B2))
  obtain ⟨y, hy⟩ : ∃ y, w.heap.size = y := ⟨_, rfl⟩
  obtain ⟨m, hm2⟩ : ∃ m, w2.heap.size = m := ⟨_, rfl⟩
  have hsm : s < m ∧ sb < m := by have := HH2.out.lt; omega
  have hlo := HH2.out.lo
  have hys : y < s ∧ y < sb := by simp at hlo; omega
  have hym : y < m := by omega
  have HM2 : Hid (m ≤ w2.heap.size) := ⟨by omega⟩
  have HYW : Hid (w.heap.size = y) := ⟨hy⟩
  have HY2 : Hid (w2.cell? ⟨y, 0, none⟩ = some (.int .i64 n)) := ⟨by rw [← hy]; exact (HB2.out.cell (p := ⟨w.heap.size, 0, none⟩) (by simp)).trans HY0.out⟩
  have HBB : Hid (Below y w w2) := ⟨by rw [← hy]; exact ((Below.refl _ w).alloc (Nat.le_refl _) _).trans (HB2.out.mono (by simp))⟩
  have HT2 : Hid (Tb (y + 1) w2 s sb 256 1 (acc []) (fun _ => 1)) := ⟨by rw [← acc_nil, ← hy]; simpa using HH2.out⟩
  have HR2 : Hid (RowsH w2 m (.slice none 0 0) (.slice none 0 0) ([] : List Int).length ([] : List Int).length (hl ([] : List Int).length) []) := ⟨⟨World.ownsRow_nil _ _ _ _, World.ownsRow_nil _ _ _ _, .inl rfl⟩⟩
  have HQ2 : Hid (AllA []) := ⟨fun x h => by cases h⟩
  rw [hy]
  clear hm2 hlo HH1 HB1 HH2 HB2 HY0 hy
  go_loopw [9, 7, 8] (fun i h v wr => ∃ (k q : Nat) (ga gb : Option Addr) (ca cb : Nat) (W : List Int), i = .int .i64 k ∧ k ≤ len ∧ k ≤ 300 ∧ h = .slice ga q ca ∧ v = .slice gb q cb ∧ Hid (W.length = q) ∧ q ≤ 256 ∧ Hid (RowsH wr m (.slice ga q ca) (.slice gb q cb) q q (hl q) W) ∧ Hid (AllA W) ∧ Hid (Tb (y + 1) wr s sb 256 1 (acc W) (fun _ => 1)) ∧ Hid (wr.cell? ⟨y, 0, none⟩ = some (.int .i64 n)) ∧ Hid (Below y w wr) ∧ Hid (m ≤ wr.heap.size)) (fun i _ _ _ => len - (intOf i).toNat)
  case atStart => exact ⟨0, 0, none, none, 0, 0, [], rfl, Nat.zero_le _, Nat.zero_le _, rfl, rfl, ⟨rfl⟩, Nat.zero_le _, HR2, HQ2, HT2, HY2, HBB, HM2⟩
  case round =>
    obtain ⟨k, q, ga, gb, ca, cb, W, rfl, hk, hk3, rfl, rfl, HW, hq, HR, HA, HT, HY, HB, HM⟩ := hrel
    clear HR2 HQ2 HT2 HY2 HBB HM2
    by_cases hgo : k < len ∧ k < 300
    · obtain ⟨hlt, h300⟩ := hgo
      have hlt' : (k : Int) < len := by omega
      have h300' : (k : Int) < 300 := by omega
      obtain ⟨B, O, x, rfl, c0, wf⟩ := HL.out.2 k hlt
      have hBw : B < w.heap.size := World.block_lt_of_cell? _ _ c0
      have hBmm : B < m := by have := HYW.out; omega
      have hBm : B < y := by rw [← HYW.out]; exact hBw
      have c1 : wr.cell? ⟨B, O + k, none⟩ = some (.int .i64 x) := (HB.out.cell (p := ⟨B, O + k, none⟩) hBm).trans c0
      have MK := make_any HT.out (by omega) x
      have HC1 := Hid.mk c1
      rcases acc_make HA.out (by rw [HW.out]; exact hq) x with ⟨e1, e3⟩ | ⟨e1, e2, e3, e4, e5⟩
      · have hb : (mkE 256 (acc W) x == 0) = false := by simpa using e1
        rw [e3] at MK
        generalize mkE 256 (acc W) x = ee at *
        generalize mkH 256 (acc W) (fun _ => 1) x = hh at *
        clear e1 e3 c0 wf
        go_wp2_with (go_at_call 11; refine MK.mono ?_; clear MK; rintro e w3 ⟨rfl, H3, K3⟩; have HH3 := Hid.mk H3; have HK3 := Hid.mk K3; clear H3 K3)
        go_roundw
        case rel => exact ⟨k + 1, q, ga, gb, ca, cb, W, by go_num, by omega, by omega, rfl, rfl, HW, hq, ⟨HR.out.kx HK3.out hsm.2 hsm.2⟩, HA, HH3, ⟨cell_kx HY.out HK3.out (by omega)⟩, ⟨HB.out.trans (HK3.out.bel (by omega) (by omega) (by have := HM.out; omega))⟩, ⟨Nat.le_trans HM.out HK3.out.size⟩⟩
        case measure => simp [intOf]; omega
      · rw [e1, e2, e3, HW.out] at MK
        have HA2 := Hid.mk e4
        have hq2 : q + 1 ≤ 256 := by have := HW.out; omega
        have HW2 : Hid ((W ++ [x]).length = q + 1) := ⟨by simp [HW.out]⟩
        have HHL := Hid.mk (hl_succ q)
        clear e1 e2 e3 e4 e5 c0 wf
        go_wp2_with (go_at_call 11; refine MK.mono ?_; clear MK; rintro e w3 ⟨rfl, H3, K3⟩; have HH3 := Hid.mk H3; have HK3 := Hid.mk K3; have c3 := cell_kx HC1.out K3 (show B ≠ sb by omega); have HC3 := Hid.mk c3; have HR3 := Hid.mk ((HR.out.kx K3 hsm.2 hsm.2).later (below_drew w3)); have hs3 : m ≤ w3.heap.size := Nat.le_trans HM.out K3.size; clear H3 K3)
        have e1 : ∀ g, w3.heap.size ≤ g → ∀ k, (Value.slice ga q ca).ownBlock = some k → k ≠ g := fun g hg k hk e => by have := HR3.out.a.lt k hk; have hs : w3.drew.heap.size = w3.heap.size := rfl; omega
        have e2 : ∀ g, w3.heap.size ≤ g → ∀ k, (Value.slice gb q cb).ownBlock = some k → k ≠ g := fun g hg k hk e => by have := HR3.out.b.lt k hk; have hs : w3.drew.heap.size = w3.heap.size := rfl; omega
        go_region_held3 (fun W' => W'.cell? ⟨B, O + k, none⟩ = some (.int .i64 x)) (go_keep) (first
          | (refine step_push rfl (.tmp 51) (.tmp 53) rfl (by first | exact HR3.out.later (go_bel1 _ _) | exact HR3.out.later (go_bel2 _ _ _) | exact HRb.out | exact HRb.out.later (go_bel1 _ _)) rfl (by omega) (by first | exact hsz1 hs3 _ | exact hsz2 hs3 _ _ | exact HSb.out | exact hsz1 HSb.out _) _ rfl (256 + (q : Int)) (by first | exact nbc1 _ _ | exact nbc2 _ _ _ | exact nbc3 _ _ _ | exact HFb.out _ _ (nbc2 _ _ _) (fun e => e2 _ (Nat.le_refl _) _ e rfl) | exact HFb.out _ _ (nbc3 _ _ _) (fun e => e2 _ (Nat.le_succ _) _ e rfl)) ?_; intro g1 c1 w4 R4 F4 B4; have HRa := Hid.mk R4.swap; have HFa := Hid.mk F4; have HSa : Hid (m ≤ w4.heap.size) := ⟨Nat.le_trans (by first | exact hsz1 hs3 _ | exact hsz2 hs3 _ _ | exact HSb.out | exact hsz1 HSb.out _) B4.size⟩; have HBa : Hid (Below m w3 w4) := ⟨(by first | exact blw1 hs3 _ | exact blw2 hs3 _ _ | exact HBb.out | exact blw3 HBb.out HSb.out _ : Below m w3 _).trans B4⟩; have c4 := (HBa.out.cell (p := ⟨B, O + k, none⟩) hBmm).trans HC3.out)
          | (refine step_push rfl (.tmp 55) (.tmp 60) rfl (by first | exact HR3.out.swap.later (go_bel1 _ _) | exact HR3.out.swap.later (go_bel2 _ _ _) | exact HRa.out | exact HRa.out.later (go_bel1 _ _)) rfl (by omega) (by first | exact hsz1 hs3 _ | exact hsz2 hs3 _ _ | exact HSa.out | exact hsz1 HSa.out _) _ rfl x (by first | exact nbc1 _ _ | exact nbc2 _ _ _ | exact nbc3 _ _ _ | exact HFa.out _ _ (nbc2 _ _ _) (fun e => e1 _ (Nat.le_refl _) _ e rfl) | exact HFa.out _ _ (nbc3 _ _ _) (fun e => e1 _ (Nat.le_succ _) _ e rfl)) ?_; intro g2 c2 w4 R4 F4 B4; have HRb := Hid.mk R4.swap; have HFb := Hid.mk F4; have HSb : Hid (m ≤ w4.heap.size) := ⟨Nat.le_trans (by first | exact hsz1 hs3 _ | exact hsz2 hs3 _ _ | exact HSa.out | exact hsz1 HSa.out _) B4.size⟩; have HBb : Hid (Below m w3 w4) := ⟨(by first | exact blw1 hs3 _ | exact blw2 hs3 _ _ | exact HBa.out | exact blw3 HBa.out HSa.out _ : Below m w3 _).trans B4⟩; have c4 := (HBb.out.cell (p := ⟨B, O + k, none⟩) hBmm).trans HC3.out))
        all_goals go_wp2
        all_goals (
          have RF : RowsH w4 m (.slice (some ⟨g1, 0, none⟩) (q + 1) c1) (.slice (some ⟨g2, 0, none⟩) (q + 1) c2) (q + 1) (q + 1) (hl (q + 1)) (W ++ [x]) := by
            rw [HHL.out]
            first | exact HRa.out.swap | exact HRb.out
          have BF : Below m w3 w4 := by first | exact HBa.out | exact HBb.out
          have HYM := HYW.out
          have BY : Below y w w4 := (HB.out.trans (HK3.out.bel (by omega) (by omega) (by have := HM.out; omega))).trans (BF.mono (by omega))
          have CY : w4.cell? ⟨y, 0, none⟩ = some (.int .i64 n) := (BF.cell (p := ⟨y, 0, none⟩) hym).trans (cell_kx HY.out HK3.out (by omega))
          refine ⟨⟨k + 1, q + 1, _, _, _, _, W ++ [x], by go_num, by omega, by omega, rfl, rfl, HW2, hq2, ⟨RF⟩, HA2, ⟨HH3.out.old BF hsm⟩, ⟨CY⟩, ⟨BY⟩, ⟨Nat.le_trans hs3 BF.size⟩⟩, by simp [intOf]; omega⟩)
    · have hcond : (k : Int) < len → ¬ (k : Int) < 300 := fun q1 q2 => hgo ⟨by omega, by omega⟩
      have MP := map_any HT.out 24 y (fun x => byI x n) (fun W a hW ha => turned24_any W y a n (hW.trans HY.out) ha hn) (World.block_lt_of_cell? _ _ HY.out)
      obtain ⟨wc, hwc⟩ : ∃ x, x = wr := ⟨_, rfl⟩
      rw [← hwc] at HR HT HY HB HM MP
      by_cases qq : (k : Int) < len
      case' pos => have qq2 := hcond qq
      all_goals
        clear hcond hgo
        subst hwc
        go_wp2_with (first
          | (go_at_call 17; refine MP2.mono ?_; clear MP2; rintro e w7 ⟨rfl, hw⟩; rw [hw]; clear hw)
          | (go_at_call 17; refine MP.mono ?_; clear MP; rintro e w6 ⟨rfl, H6, K6⟩; have HT6 := Hid.mk H6; have HR6 := Hid.mk (HR.out.kx K6 hsm.2 hsm.2); have HY6 := Hid.mk (cell_kx HY.out K6 (by omega)); have HB6 : Hid (Below y w w6) := ⟨HB.out.trans (K6.bel (by omega) (by omega) (by have := HM.out; omega))⟩; have MP2 := map_none w6 s; clear H6 K6))
        go_loopw [12] (fun i wx => ∃ j : Nat, i = .int .i64 j ∧ j ≤ q ∧ Hid (Below w6.heap.size w6 wx)) (fun i _ => q - (intOf i).toNat)
        case atStart => exact ⟨0, rfl, Nat.zero_le _, ⟨Below.refl _ _⟩⟩
        case round =>
          obtain ⟨j, rfl, hj, HX⟩ := hrel
          have HTX := Hid.mk (HT6.out.later HX.out)
          have hWl := HW.out
          by_cases hjq : j < q
          · have hjq' : (j : Int) < q := by omega
            have RX := HR6.out.later HX.out
            obtain ⟨g1, c1, e1, -, cg1⟩ := own_get RX.a (hl_len _) j hjq
            obtain ⟨g2, c2, e2, -, cg2⟩ := own_get RX.b hWl j hjq
            rw [hl_get hjq] at cg1
            simp only [Value.slice.injEq, true_and] at e1 e2
            obtain ⟨rfl, rfl⟩ := e1
            obtain ⟨rfl, rfl⟩ := e2
            have cy : wr.cell? ⟨y, 0, none⟩ = some (.int .i64 n) := (HX.out.cell (p := ⟨y, 0, none⟩) (World.block_lt_of_cell? _ _ HY6.out)).trans HY6.out
            obtain ⟨v1, v2⟩ := acc_get HA.out (by omega) (fun x => byI x n) (k := j) (by omega)
            have ba := HA.out.get (i := j) (by omega)
            have hba : W.getD j 0 = acc W j := rfl
            rw [hba] at cg2
            rw [trn_by] at v2
            have BY := fun V : World => by_any V (acc W j) n (by omega) hn
            obtain ⟨x, hx⟩ : ∃ x, acc W j = x := ⟨_, rfl⟩
            rw [hx] at ba cg2 v2 BY
            obtain ⟨bb, hbb⟩ : ∃ bb, byI x n = bb := ⟨_, rfl⟩
            rw [hbb] at v2 BY
            have GT := fun V (B : Below wr.heap.size wr V) => get_any (HTX.out.later B) (256 + (j : Int)) (by omega)
            rw [v1, v2] at GT
            have HGT := Hid.mk GT
            have HC1 := Hid.mk cg1
            clear v1 v2 hx hbb hba RX GT hWl
            have hbr : (bb < 1 ∧ (if bb < 1 ∨ 524288 < bb then x else bb) = x) ∨ (¬ bb < 1 ∧ 524288 < bb ∧ (if bb < 1 ∨ 524288 < bb then x else bb) = x) ∨ (¬ bb < 1 ∧ ¬ 524288 < bb ∧ (if bb < 1 ∨ 524288 < bb then x else bb) = bb) := by
              by_cases r1 : bb < 1
              · exact .inl ⟨r1, by rw [if_pos (.inl r1)]⟩
              · by_cases r2 : 524288 < bb
                · exact .inr (.inl ⟨r1, r2, by rw [if_pos (.inr r2)]⟩)
                · exact .inr (.inr ⟨r1, r2, by rw [if_neg (by omega)]⟩)
            rcases hbr with ⟨r1, rv⟩ | ⟨r1, r2, rv⟩ | ⟨r1, r2, rv⟩
            all_goals
              rw [rv] at HGT
              clear rv
              try have r3 : bb > 524288 := r2
              go_wp2
              go_region_held3 (fun W' => W'.cell? ⟨g2, j, none⟩ = some (.int .i64 x) ∧ W'.cell? ⟨y, 0, none⟩ = some (.int .i64 n)) (go_keep) (first | (go_at_call 19; refine (BY _).mono ?_; rintro e w8 ⟨rfl, hw⟩; rw [hw]; clear hw))
              go_wp2_with (go_at_call 15; refine (HGT.out _ (by exact ⟨rfl, rfl, rfl, Nat.le_refl _, fun _ _ => rfl⟩)).mono ?_; rintro e w9 ⟨rfl, B9⟩; have HB9 := Hid.mk B9; clear B9)
              go_roundw
              case rel => exact ⟨j + 1, by go_num, by omega, ⟨HX.out.trans ((show Below wr.heap.size wr w9 from ⟨HB9.out.os, HB9.out.tape, HB9.out.output, HB9.out.size, HB9.out.block⟩).mono HX.out.size)⟩⟩
              case measure => simp [intOf]; omega
          · obtain rfl : j = q := by omega
            have LN := len_any HTX.out
            rw [acc_len HA.out (by omega), hWl] at LN
            have HWW := Hid.mk hWl
            clear hWl
            go_wp2_with (go_at_call 23; refine LN.mono ?_; clear LN; rintro e w8 ⟨rfl, B8⟩)
            go_ret
            exact ⟨rfl, by have e := HYW.out; rw [e]; exact HB6.out.trans ((HX.out.trans (B8.mono HX.out.size)).mono (by have := HB6.out.size; omega))⟩


set_option maxRecDepth 100000 in
theorem lifted (os : Os) (started : os.Started) (H : Type) (enc : TypeId × Value → H) :
    ReturnsInHanded {} Try.checked os 5 .any (Rows.stableMovesSpec.pre6 enc Try.prog Try.f5 Rows.stableMovesRow.domain false) (Rows.stableMovesSpec.post enc Try.prog Try.f5 false true false false) := by
  refine returnsInHanded_of_change (C := Try.checked) own started (by kernel_rfl) Try.func5
    (ChangeSpec.witness6 (enc := enc) (C := Try.checked) false ⟨#[], #[.slice none 0 0, .int .i64 0], []⟩ 8 (by kernel_rfl) (by kernel_rfl) (by kernel_rfl) (by kernel_rfl)) ?_
  intro W base args ds gs before hval0 hW hcnd _
  have hval : ∀ (j : Nat) t v, Try.f5.params[j]? = some t → args[j]? = some v → Value.okWide Try.prog W .any base t v := hval0
  have hW' := hW
  obtain ⟨p, q, hA0, hV, rfl, hfz, hnd⟩ := hW
  have hA : DataW.TrodAll enc Try.prog W 0 (fun _ => true) true Try.f5.params.toList args.toList ds p := hA0
  rw [Try.params5] at hA hval
  obtain ⟨v0, vs0, d0, ds0, p0, q0, hargs, rfl, rfl, h0, r0⟩ := trodAll_cons hA
  obtain ⟨v1, vs1, d1, ds1, p1, q1, rfl, rfl, rfl, h1, r1⟩ := trodAll_cons r0
  obtain ⟨rfl, rfl, rfl⟩ := trodAll_nil r1
  obtain rfl : args = #[v0, v1] := by cases args; simp_all
  obtain ⟨rfl, rfl⟩ := trodVars_none hV
  have t0 := h0
  have lt0 : ∀ x ∈ p0, x.block < W.heap.size := by obtain ⟨m, hm⟩ := t0; exact DataW.trod_lt m _ _ _ hm
  obtain ⟨ad0, len0, cap0, rfl⟩ := okWide_slice Try.underlying31 (hval 0 31 v0 rfl rfl)
  have w0 := open_ints31 h0
  have t1 := h1
  have lt1 : ∀ x ∈ p1, x.block < W.heap.size := by obtain ⟨m, hm⟩ := t1; exact DataW.trod_lt m _ _ _ hm
  obtain ⟨a1, rfl, hd1, hp1, w1⟩ := open_int Try.underlying3 (hval 1 3 v1 rfl rfl) h1
  clear hA0 hval0
  refine (walk ad0 len0 cap0 a1 W w0 (bounds_i64 w1)).mono fun e W' ⟨he, bel⟩ => ?_
  subst he
  exact ⟨_, rfl, _, _, _, [], _, [], hW', trodAll_mk1 (shut_bool Try.underlying4 _), (trodAll_cons_mk (Below.trod laidOut (by kernel_rfl) (of_decide_eq_true (by kernel_rfl)) t0 bel lt0) (trodAll_cons_mk (Below.trod laidOut (by kernel_rfl) (of_decide_eq_true (by kernel_rfl)) t1 bel lt1) trodAll_mk0)), rfl, bel.frame _, fun h => by cases h⟩

theorem over : Rows.stableMovesRow.holds Try.pinned (OpenSpec.ofChange Rows.stableMovesSpec) :=
  OpenClaim.holds_of_wide 5 Try.f5 rfl rfl rfl rfl rfl rfl rfl ⟨rfl, rfl, rfl, rfl, rfl⟩ rfl rfl rfl rfl rfl (by kernel_rfl) Try.func5 (by kernel_rfl)
    (of_decide_eq_true (by kernel_rfl)) (by unfold Func.isWrapper; first | (rw [if_pos (by decide +kernel)]; kernel_rfl) | (rw [if_neg (by decide +kernel)]; exact ⟨rfl, rfl⟩))
    (fun os started H enc _ => lifted os started H enc)
end Go.Proofs.Ytejjobemafdlbaa.stableMoves

namespace Go.Proofs.Ytejjobemafdlbaa
theorem stableMoves_holds : Rows.StableMovesSaid := stableMoves.over
#print axioms stableMoves_holds
end Go.Proofs.Ytejjobemafdlbaa
