/-
  The statement StableOnce: no handle is told twice, and one that was freed is nobody's for ever.
  Conditions: none on the input.
-/
import Derived.Test.YtejjobemafdlbaaSbm
namespace Go.Proofs.Ytejjobemafdlbaa.stableOnce
open Go.ChangeShapes Go.WideShapes Go.ChangeAt Go.RowKit
set_option linter.unusedVariables false

set_option maxRecDepth 100000 in
set_option maxHeartbeats 16000000 in
theorem walk (a : Int) (ad : Option Addr) (len cap : Nat) (w : World) (ha : 0 ≤ a ∧ a ≤ 255) (hl0 : IsActs w ad len) :
    Calls Try.prog 4 #[.int .u8 a, .slice ad len cap] w fun e w' => e = .returned (.bool true) ∧ Below w.heap.size w w' := by
  have hm : len ≤ 9223372036854775807 := by have := hl0.1; unfold maxLen at this; exact this
  have HL := Hid.mk hl0
  clear hl0
  have hmod := Int.emod_nonneg a (show (20 : Int) ≠ 0 by omega)
  have hmod2 := Int.emod_lt_of_pos a (show (0 : Int) < 20 by omega)
  obtain ⟨n, hn, h1n⟩ : ∃ n : Nat, a % 20 + 1 = n ∧ 1 ≤ n ∧ n ≤ 256 := ⟨(a % 20 + 1).toNat, by omega, by omega⟩
  have NW := new_any w n h1n
  have hw1 : IntKind.i64.wrap (a % 20 + 1) = (n : Int) := by rw [IntKind.wrap_i64]; omega
  go_enter Try.func4, Try.ntmps4
  go_wp2_with (first
    | (go_at_call 8; refine NW.mono ?_; clear NW; rintro e w1 ⟨s, sb, rfl, H1, B1⟩; have AW := awake_any w1; have HH1 := Hid.mk H1; have HB1 := Hid.mk B1; clear H1 B1)
    | (go_at_call 10; refine AW.mono ?_; clear AW; rintro e w2 ⟨rfl, B2⟩; have HH2 := Hid.mk (HH1.out.later B2); have HB2 := Hid.mk (HB1.out.trans (B2.mono HB1.out.size)); clear B2))
  obtain ⟨m, hm2⟩ : ∃ m, w2.heap.size = m := ⟨_, rfl⟩
  have hsm : s < m ∧ sb < m := by have := HH2.out.lt; omega
  have hlo := HH2.out.lo
  have HM2 : Hid (m ≤ w2.heap.size) := ⟨by omega⟩
  have hwm : Hid (w.heap.size ≤ m) := ⟨by have := HB2.out.size; omega⟩
  have HT2 : Hid (Tb w.heap.size w2 s sb n (1 + ((0 : Nat) : Int)) (fun _ => 0) (fun _ => 1)) := ⟨HH2.out⟩
  have HR2 : Hid (RowsH w2 m (.slice none 0 0) (.slice none 0 0) 0 0 [] []) := ⟨⟨World.ownsRow_nil _ _ _ _, World.ownsRow_nil _ _ _ _, .inl rfl⟩⟩
  have HI2 : Hid (Inv n (1 + ((0 : Nat) : Int)) (fun _ => 0) (fun _ => 1) [] []) := ⟨Inv.new n⟩
  clear hm2 HH1 HB1 HH2 hmod hmod2 hw1 hn
  go_loopw [9, 7, 8] (fun i h v wr => ∃ (k p q : Nat) (ga gb : Option Addr) (ca cb : Nat) (L G : List Int) (A T : Nat → Int), i = .int .i64 k ∧ k ≤ len ∧ k ≤ 200 ∧ h = .slice ga p ca ∧ v = .slice gb q cb ∧ p ≤ k ∧ q ≤ k ∧ Hid (L.length = p) ∧ Hid (G.length = q) ∧ Hid (RowsH wr m (.slice ga p ca) (.slice gb q cb) p q L G) ∧ Hid (Inv n (1 + (k : Int)) A T L G) ∧ Hid (Tb w.heap.size wr s sb n (1 + (k : Int)) A T) ∧ Hid (Below w.heap.size w wr) ∧ Hid (m ≤ wr.heap.size)) (fun i _ _ _ => len - (intOf i).toNat)
  case atStart => exact ⟨0, 0, 0, none, none, 0, 0, [], [], _, _, rfl, Nat.zero_le _, Nat.zero_le _, rfl, rfl, Nat.le_refl _, Nat.le_refl _, ⟨rfl⟩, ⟨rfl⟩, HR2, HI2, HT2, HB2, HM2⟩
  case round =>
    obtain ⟨k, p, q, ga, gb, ca, cb, L, G, A, T, rfl, hk, hk2, rfl, rfl, hp, hq, HLl, HGl, HR, HI, HT, HB, HM⟩ := hrel
    clear HR2 HI2 HT2 HB2 HM2
    by_cases hgo : k < len ∧ k < 200
    · obtain ⟨hlt, h200⟩ := hgo
      have hlt' : (k : Int) < len := by omega
      have h200' : (k : Int) < 200 := by omega
      obtain ⟨B, O, k0, k1, rfl, c0, c1, i0, i1⟩ := HL.out.2 k hlt
      have c0 := old_cells c0 HB.out
      have c1 := old_cells c1 HB.out
      unfold In64 at i0 i1
      obtain ⟨wb, hwb⟩ : ∃ x, x = wr := ⟨_, rfl⟩
      rw [← hwb] at HR HT HB HM c0 c1 ⊢
      clear hwb
      by_cases hk0 : k0 < 2
      · have MK := make_any HT.out (by omega) 7
        by_cases hlow : lowF n A < n
        · obtain ⟨i, hi⟩ : ∃ i, lowF n A = i := ⟨_, rfl⟩
          rw [hi] at hlow
          obtain ⟨e1, e2, e3⟩ := mk_yes (T := T) (at' := 7) (by decide) hi hlow
          obtain ⟨hne, HI'⟩ := HI.out.make h1n.2 hi hlow
          obtain ⟨x, hx⟩ : ∃ x, hnd T i = x := ⟨_, rfl⟩
          have e2' : mkH n A T 7 = x := by rw [e2, ← hx]; rfl
          rw [e1, e2', e3] at MK
          rw [hx] at hne HI'
          have HNE := Hid.mk hne
          have HI2 := Hid.mk HI'
          have HLs : Hid ((L ++ [x]).length = p + 1) := ⟨by simp [HLl.out]⟩
          clear e1 e2 e2' e3 hx hne HI' hi
          go_wp2_with (go_at_call 11; refine MK.mono ?_; clear MK; rintro e w3 ⟨rfl, H3, K3⟩; have HH3 := Hid.mk H3; have HR3 := Hid.mk (HR.out.kx K3 hsm.2 hsm.2); have hs3 := Nat.le_trans HM.out K3.size; have HB3 := Hid.mk (HB.out.trans (K3.bel hlo.2 hlo.2 HB.out.size)); clear H3 K3)
          go_loop [12] (fun i => ∃ j : Nat, i = .int .i64 j ∧ j ≤ p) (fun i => p - (intOf i).toNat)
          case atStart => exact ⟨0, rfl, Nat.zero_le _⟩
          case round =>
            obtain ⟨j, rfl, hj⟩ := hrel
            by_cases hjp : j < p
            · have hjp' : (j : Int) < p := by omega
              obtain ⟨g1, c1', e1, -, cg1⟩ := own_get HR3.out.a HLl.out j hjp
              have hmem : L.getD j 0 ∈ L := getD_mem (by rw [HLl.out]; exact hjp)
              obtain ⟨z, hz⟩ : ∃ z, L.getD j 0 = z := ⟨_, rfl⟩
              rw [hz] at hmem cg1
              have hzx : (z == x) = false := by simpa using HNE.out z hmem
              simp only [Value.slice.injEq, true_and] at e1
              obtain ⟨e1a, e1b⟩ := e1
              clear hmem hz
              rw [e1a]
              go_wp2
              go_round
              case rel => exact ⟨j + 1, by go_num, by omega⟩
              case measure => simp [intOf]; omega
            · obtain rfl : j = p := by omega
              go_wp2_with (at_builtin; refine wpList_push rfl (.tmp 74) (.tmp 76) rfl (HR3.out.later (go_bel1 _ _)) rfl (by omega) (hsz1 hs3 _) _ rfl x (nbc1 _ _) ?_; intro g5 c5 w5 R5 B5; have HR5 := Hid.mk R5; have HB5 := Hid.mk (((Below.refl m w3).alloc hs3 _).trans B5); clear R5 B5)
              refine ⟨⟨k + 1, j + 1, q, _, gb, _, cb, L ++ [x], G, _, _, by go_num, by omega, by omega, rfl, rfl, by omega, by omega, HLs, HGl, HR5, ⟨HI2.out.mono (by omega)⟩, ⟨(HH3.out.old HB5.out hsm).up (by omega)⟩, ⟨HB3.out.trans (HB5.out.mono hwm.out)⟩, ⟨Nat.le_trans hs3 HB5.out.size⟩⟩, by simp [intOf]; omega⟩
        · obtain ⟨e1, e2, e3⟩ := mk_full (T := T) (at' := 7) (by decide) hlow
          rw [e1, e2, e3] at MK
          clear e1 e2 e3
          go_wp2_with (go_at_call 11; refine MK.mono ?_; clear MK; rintro e w3 ⟨rfl, H3, K3⟩; have HH3 := Hid.mk H3; have HR3 := Hid.mk (HR.out.kx K3 hsm.2 hsm.2); have hs3 := Nat.le_trans HM.out K3.size; have HB3 := Hid.mk (HB.out.trans (K3.bel hlo.2 hlo.2 HB.out.size)); clear H3 K3)
          go_loop [12] (fun i => i = .int .i64 (0 : Int)) (fun i => 0)
          case atStart => rfl
          case round =>
            subst hrel
            go_wp2
            all_goals refine ⟨⟨k + 1, p, q, ga, gb, ca, cb, L, G, A, T, by go_num, by omega, by omega, rfl, rfl, by omega, by omega, HLl, HGl, HR3, ⟨HI.out.mono (by omega)⟩, ⟨HH3.out.up (by omega)⟩, HB3, ⟨hs3⟩⟩, by simp [intOf]; omega⟩
      · have hk0' : ¬ k0 < 2 := hk0
        by_cases q0 : 0 ≤ k1
        · have q0' : decide (k1 ≥ 0) = true := by simpa using q0
          by_cases q1 : k1 < (p : Int)
          · obtain ⟨kk, rfl⟩ : ∃ kk : Nat, k1 = kk := ⟨k1.toNat, by omega⟩
            have hkp : kk < p := by omega
            obtain ⟨g1, c1', e1, hg1, cg1⟩ := own_get HR.out.a HLl.out kk hkp
            have hmem : L.getD kk 0 ∈ L := getD_mem (by rw [HLl.out]; exact hkp)
            obtain ⟨x, hx⟩ : ∃ x, L.getD kk 0 = x := ⟨_, rfl⟩
            rw [hx] at hmem cg1
            simp only [Value.slice.injEq, true_and] at e1
            obtain ⟨rfl, rfl⟩ := e1
            have hbig := HI.out.big h1n.2 (by omega) hmem
            have FE := free13_any HT.out (by omega) x hbig
            have HC1 := Hid.mk cg1
            have hg1s : g1 ≠ sb := by omega
            by_cases hf : fd n A T x < n
            · obtain ⟨i, hi⟩ : ∃ i, fd n A T x = i := ⟨_, rfl⟩
              rw [hi] at hf
              obtain ⟨e3, e4⟩ := fr_yes hi hf
              have e5 : geE n A T x = 0 := by simp [geE, hi, hf]
              rw [e3, e4, e5] at FE
              have HI2 : Hid (Inv n (1 + (k : Int) + 1) (upd A i 0) (upd T i (T i + 1)) L (G ++ [x])) := ⟨HI.out.free h1n.2 hi hf⟩
              have HGs : Hid ((G ++ [x]).length = q + 1) := ⟨by simp [HGl.out]⟩
              clear e3 e4 e5 hi hx hmem hbig
              go_wp2_with (first
                | (go_at_call 13; refine FE.mono ?_; clear FE; rintro e w3 ⟨rfl, H3, K3⟩; have HH3 := Hid.mk H3; have HR3 := Hid.mk (HR.out.kx K3 hsm.2 hsm.2).swap; have hs3 := Nat.le_trans HM.out K3.size; have HB3 := Hid.mk (HB.out.trans (K3.bel hlo.2 hlo.2 HB.out.size)); have cg3 := cell_kx HC1.out K3 hg1s; clear H3 K3)
                | (at_builtin; refine wpList_push rfl (.tmp 100) (.tmp 105) rfl (HR3.out.later (go_bel1 _ _)) rfl (by omega) (hsz1 hs3 _) _ rfl x (nbc1 _ _) ?_; intro g5 c5 w5 R5 B5; have HR5 := Hid.mk R5.swap; have HB5 := Hid.mk (((Below.refl m w3).alloc hs3 _).trans B5); clear R5 B5))
              have HT5 : Hid (Tb w.heap.size w5 s sb n (1 + (k : Int) + 1) (upd A i 0) (upd T i (T i + 1))) := ⟨HH3.out.old HB5.out hsm⟩
              have HB6 : Hid (Below w.heap.size w w5) := ⟨HB3.out.trans (HB5.out.mono hwm.out)⟩
              have HM5 : Hid (m ≤ w5.heap.size) := ⟨Nat.le_trans hs3 HB5.out.size⟩
              clear HB5 HB3 HR3 HH3
              go_loopw [14] (fun cv wx => ∃ j : Nat, cv = .int .i64 j ∧ j ≤ q + 1 ∧ Hid (Tb w.heap.size wx s sb n (1 + (k : Int) + 1) (upd A i 0) (upd T i (T i + 1))) ∧ Hid (RowsH wx m (.slice (some ⟨g1, 0, none⟩) p ca) (.slice (some ⟨g5, 0, none⟩) (q + 1) c5) p (q + 1) L (G ++ [x])) ∧ Hid (Below w.heap.size w wx) ∧ Hid (m ≤ wx.heap.size)) (fun cv _ => (q + 1) - (intOf cv).toNat)
              case atStart => exact ⟨0, rfl, Nat.zero_le _, HT5, HR5, HB6, HM5⟩
              case round =>
                obtain ⟨j, rfl, hj, XT, XR, XB, XM⟩ := hrel
                clear HT5 HR5 HB6 HM5
                have hGl := HGs.out
                by_cases hjq : j < q + 1
                · have hjq' : (j : Int) < ((q + 1 : Nat) : Int) := by omega
                  obtain ⟨g2, c2, e2, hg2, cg2⟩ := own_get XR.out.b hGl j hjq
                  have hmem : (G ++ [x]).getD j 0 ∈ (G ++ [x]) := getD_mem (by rw [hGl]; exact hjq)
                  obtain ⟨xe, hx⟩ : ∃ xe, (G ++ [x]).getD j 0 = xe := ⟨_, rfl⟩
                  rw [hx] at hmem cg2
                  simp only [Value.slice.injEq, true_and] at e2
                  obtain ⟨e2a, e2b⟩ := e2
                  have hst := HI2.out.stale h1n.2 hmem
                  have hbig := HI2.out.bigG h1n.2 (by omega) hmem
                  have GT := get_any XT.out xe hbig
                  have v1 : geE n (upd A i 0) (upd T i (T i + 1)) xe = 60 := by simp [geE, hst]
                  have v2 : geV n (upd A i 0) (upd T i (T i + 1)) xe = 0 := by simp [geV, hst]
                  have v3 : frA n (upd A i 0) (upd T i (T i + 1)) xe = (upd A i 0) ∧ frT n (upd A i 0) (upd T i (T i + 1)) xe = (upd T i (T i + 1)) := fr_no (by omega)
                  rw [v1, v2] at GT
                  have HV1 := Hid.mk v1
                  have HV3 := Hid.mk v3
                  have HBG := Hid.mk hbig
                  have HC2 := Hid.mk cg2
                  have hg2s : g2 ≠ sb := by omega
                  clear v1 v2 v3 hst hmem hx hbig hGl e2b
                  cases e2a
                  go_wp2_with (first
                    | (go_at_call 15; refine GT.mono ?_; clear GT; rintro e w6 ⟨rfl, B6⟩; have FE := free13_any (XT.out.later B6) (by omega) xe HBG.out; rw [HV1.out, HV3.out.1, HV3.out.2] at FE; have d6 := old_cells HC2.out B6; have HB6 := Hid.mk B6; clear B6)
                    | (go_at_call 13; refine FE.mono ?_; clear FE; rintro e w7 ⟨rfl, H7, K7⟩; have HH7 := Hid.mk H7; have HK7 := Hid.mk K7; clear H7 K7))
                  go_roundw
                  case rel => exact ⟨j + 1, by go_num, by omega, ⟨⟨HH7.out.box, HH7.out.row, XT.out.ok, HH7.out.le, HH7.out.lo⟩⟩, ⟨(XR.out.later HB6.out).kx HK7.out hsm.2 hsm.2⟩, ⟨(XB.out.trans (HB6.out.mono XB.out.size)).trans (HK7.out.bel hlo.2 hlo.2 (Nat.le_trans XB.out.size HB6.out.size))⟩, ⟨Nat.le_trans XM.out (Nat.le_trans HB6.out.size HK7.out.size)⟩⟩
                  case measure => simp [intOf]; omega
                · have hje : ¬ (j : Int) < ((q + 1 : Nat) : Int) := by omega
                  go_wp2
                  refine ⟨⟨k + 1, p, q + 1, (some ⟨g1, 0, none⟩), (some ⟨g5, 0, none⟩), ca, c5, L, (G ++ [x]), (upd A i 0), (upd T i (T i + 1)), by go_num, by omega, by omega, rfl, rfl, by omega, by omega, HLl, HGs, XR, ⟨HI2.out.mono (by omega)⟩, ⟨XT.out.up (by omega)⟩, XB, XM⟩, by simp [intOf]; omega⟩
            · have e6 : fd n A T x = n := by have := fd_le n A T x; omega
              obtain ⟨e3, e4⟩ := fr_no hf
              have e5 : geE n A T x = 60 := by simp [geE, e6]
              rw [e3, e4, e5] at FE
              clear e3 e4 e5 e6 hx hmem hbig hf
              go_wp2_with (go_at_call 13; refine FE.mono ?_; clear FE; rintro e w3 ⟨rfl, H3, K3⟩; have HT5 : Hid (Tb w.heap.size w3 s sb n (1 + (k : Int)) A T) := ⟨⟨H3.box, H3.row, HI.out.ok, H3.le, H3.lo⟩⟩; have HR5 := Hid.mk (HR.out.kx K3 hsm.2 hsm.2); have HM5 : Hid (m ≤ w3.heap.size) := ⟨Nat.le_trans HM.out K3.size⟩; have HB6 := Hid.mk (HB.out.trans (K3.bel hlo.2 hlo.2 HB.out.size)); clear H3 K3)
              go_loopw [14] (fun cv wx => ∃ j : Nat, cv = .int .i64 j ∧ j ≤ q ∧ Hid (Tb w.heap.size wx s sb n (1 + (k : Int)) A T) ∧ Hid (RowsH wx m (.slice (some ⟨g1, 0, none⟩) p ca) (.slice gb (q) cb) p (q) L G) ∧ Hid (Below w.heap.size w wx) ∧ Hid (m ≤ wx.heap.size)) (fun cv _ => (q) - (intOf cv).toNat)
              case atStart => exact ⟨0, rfl, Nat.zero_le _, HT5, HR5, HB6, HM5⟩
              case round =>
                obtain ⟨j, rfl, hj, XT, XR, XB, XM⟩ := hrel
                clear HT5 HR5 HB6 HM5
                have hGl := HGl.out
                by_cases hjq : j < q
                · have hjq' : (j : Int) < ((q : Nat) : Int) := by omega
                  obtain ⟨g2, c2, e2, hg2, cg2⟩ := own_get XR.out.b hGl j hjq
                  have hmem : G.getD j 0 ∈ G := getD_mem (by rw [hGl]; exact hjq)
                  obtain ⟨xe, hx⟩ : ∃ xe, G.getD j 0 = xe := ⟨_, rfl⟩
                  rw [hx] at hmem cg2
                  simp only [Value.slice.injEq, true_and] at e2
                  obtain ⟨e2a, e2b⟩ := e2
                  have hst := HI.out.stale h1n.2 hmem
                  have hbig := HI.out.bigG h1n.2 (by omega) hmem
                  have GT := get_any XT.out xe hbig
                  have v1 : geE n A T xe = 60 := by simp [geE, hst]
                  have v2 : geV n A T xe = 0 := by simp [geV, hst]
                  have v3 : frA n A T xe = A ∧ frT n A T xe = T := fr_no (by omega)
                  rw [v1, v2] at GT
                  have HV1 := Hid.mk v1
                  have HV3 := Hid.mk v3
                  have HBG := Hid.mk hbig
                  have HC2 := Hid.mk cg2
                  have hg2s : g2 ≠ sb := by omega
                  clear v1 v2 v3 hst hmem hx hbig hGl e2b
                  cases e2a
                  go_wp2_with (first
                    | (go_at_call 15; refine GT.mono ?_; clear GT; rintro e w6 ⟨rfl, B6⟩; have FE := free13_any (XT.out.later B6) (by omega) xe HBG.out; rw [HV1.out, HV3.out.1, HV3.out.2] at FE; have d6 := old_cells HC2.out B6; have HB6 := Hid.mk B6; clear B6)
                    | (go_at_call 13; refine FE.mono ?_; clear FE; rintro e w7 ⟨rfl, H7, K7⟩; have HH7 := Hid.mk H7; have HK7 := Hid.mk K7; clear H7 K7))
                  go_roundw
                  case rel => exact ⟨j + 1, by go_num, by omega, ⟨⟨HH7.out.box, HH7.out.row, XT.out.ok, HH7.out.le, HH7.out.lo⟩⟩, ⟨(XR.out.later HB6.out).kx HK7.out hsm.2 hsm.2⟩, ⟨(XB.out.trans (HB6.out.mono XB.out.size)).trans (HK7.out.bel hlo.2 hlo.2 (Nat.le_trans XB.out.size HB6.out.size))⟩, ⟨Nat.le_trans XM.out (Nat.le_trans HB6.out.size HK7.out.size)⟩⟩
                  case measure => simp [intOf]; omega
                · have hje : ¬ (j : Int) < ((q : Nat) : Int) := by omega
                  go_wp2
                  refine ⟨⟨k + 1, p, q, (some ⟨g1, 0, none⟩), gb, ca, cb, L, G, A, T, by go_num, by omega, by omega, rfl, rfl, by omega, by omega, HLl, HGl, XR, ⟨HI.out.mono (by omega)⟩, ⟨XT.out.up (by omega)⟩, XB, XM⟩, by simp [intOf]; omega⟩
          · have q1' : ¬ k1 < (p : Int) := q1
            go_wp2
            go_loopw [14] (fun cv wx => ∃ j : Nat, cv = .int .i64 j ∧ j ≤ q ∧ Hid (Tb w.heap.size wx s sb n (1 + (k : Int)) A T) ∧ Hid (RowsH wx m (.slice ga p ca) (.slice gb (q) cb) p (q) L G) ∧ Hid (Below w.heap.size w wx) ∧ Hid (m ≤ wx.heap.size)) (fun cv _ => (q) - (intOf cv).toNat)
            case atStart => exact ⟨0, rfl, Nat.zero_le _, HT, HR, HB, HM⟩
            case round =>
              obtain ⟨j, rfl, hj, XT, XR, XB, XM⟩ := hrel
              clear HT HR HB HM
              have hGl := HGl.out
              by_cases hjq : j < q
              · have hjq' : (j : Int) < ((q : Nat) : Int) := by omega
                obtain ⟨g2, c2, e2, hg2, cg2⟩ := own_get XR.out.b hGl j hjq
                have hmem : G.getD j 0 ∈ G := getD_mem (by rw [hGl]; exact hjq)
                obtain ⟨xe, hx⟩ : ∃ xe, G.getD j 0 = xe := ⟨_, rfl⟩
                rw [hx] at hmem cg2
                simp only [Value.slice.injEq, true_and] at e2
                obtain ⟨e2a, e2b⟩ := e2
                have hst := HI.out.stale h1n.2 hmem
                have hbig := HI.out.bigG h1n.2 (by omega) hmem
                have GT := get_any XT.out xe hbig
                have v1 : geE n A T xe = 60 := by simp [geE, hst]
                have v2 : geV n A T xe = 0 := by simp [geV, hst]
                have v3 : frA n A T xe = A ∧ frT n A T xe = T := fr_no (by omega)
                rw [v1, v2] at GT
                have HV1 := Hid.mk v1
                have HV3 := Hid.mk v3
                have HBG := Hid.mk hbig
                have HC2 := Hid.mk cg2
                have hg2s : g2 ≠ sb := by omega
                clear v1 v2 v3 hst hmem hx hbig hGl e2b
                cases e2a
                go_wp2_with (first
                  | (go_at_call 15; refine GT.mono ?_; clear GT; rintro e w6 ⟨rfl, B6⟩; have FE := free13_any (XT.out.later B6) (by omega) xe HBG.out; rw [HV1.out, HV3.out.1, HV3.out.2] at FE; have d6 := old_cells HC2.out B6; have HB6 := Hid.mk B6; clear B6)
                  | (go_at_call 13; refine FE.mono ?_; clear FE; rintro e w7 ⟨rfl, H7, K7⟩; have HH7 := Hid.mk H7; have HK7 := Hid.mk K7; clear H7 K7))
                go_roundw
                case rel => exact ⟨j + 1, by go_num, by omega, ⟨⟨HH7.out.box, HH7.out.row, XT.out.ok, HH7.out.le, HH7.out.lo⟩⟩, ⟨(XR.out.later HB6.out).kx HK7.out hsm.2 hsm.2⟩, ⟨(XB.out.trans (HB6.out.mono XB.out.size)).trans (HK7.out.bel hlo.2 hlo.2 (Nat.le_trans XB.out.size HB6.out.size))⟩, ⟨Nat.le_trans XM.out (Nat.le_trans HB6.out.size HK7.out.size)⟩⟩
                case measure => simp [intOf]; omega
              · have hje : ¬ (j : Int) < ((q : Nat) : Int) := by omega
                go_wp2
                refine ⟨⟨k + 1, p, q, ga, gb, ca, cb, L, G, A, T, by go_num, by omega, by omega, rfl, rfl, by omega, by omega, HLl, HGl, XR, ⟨HI.out.mono (by omega)⟩, ⟨XT.out.up (by omega)⟩, XB, XM⟩, by simp [intOf]; omega⟩
        · have q0' : decide (k1 ≥ 0) = false := by simpa using q0
          go_wp2
          go_loopw [14] (fun cv wx => ∃ j : Nat, cv = .int .i64 j ∧ j ≤ q ∧ Hid (Tb w.heap.size wx s sb n (1 + (k : Int)) A T) ∧ Hid (RowsH wx m (.slice ga p ca) (.slice gb (q) cb) p (q) L G) ∧ Hid (Below w.heap.size w wx) ∧ Hid (m ≤ wx.heap.size)) (fun cv _ => (q) - (intOf cv).toNat)
          case atStart => exact ⟨0, rfl, Nat.zero_le _, HT, HR, HB, HM⟩
          case round =>
            obtain ⟨j, rfl, hj, XT, XR, XB, XM⟩ := hrel
            clear HT HR HB HM
            have hGl := HGl.out
            by_cases hjq : j < q
            · have hjq' : (j : Int) < ((q : Nat) : Int) := by omega
              obtain ⟨g2, c2, e2, hg2, cg2⟩ := own_get XR.out.b hGl j hjq
              have hmem : G.getD j 0 ∈ G := getD_mem (by rw [hGl]; exact hjq)
              obtain ⟨xe, hx⟩ : ∃ xe, G.getD j 0 = xe := ⟨_, rfl⟩
              rw [hx] at hmem cg2
              simp only [Value.slice.injEq, true_and] at e2
              obtain ⟨e2a, e2b⟩ := e2
              have hst := HI.out.stale h1n.2 hmem
              have hbig := HI.out.bigG h1n.2 (by omega) hmem
              have GT := get_any XT.out xe hbig
              have v1 : geE n A T xe = 60 := by simp [geE, hst]
              have v2 : geV n A T xe = 0 := by simp [geV, hst]
              have v3 : frA n A T xe = A ∧ frT n A T xe = T := fr_no (by omega)
              rw [v1, v2] at GT
              have HV1 := Hid.mk v1
              have HV3 := Hid.mk v3
              have HBG := Hid.mk hbig
              have HC2 := Hid.mk cg2
              have hg2s : g2 ≠ sb := by omega
              clear v1 v2 v3 hst hmem hx hbig hGl e2b
              cases e2a
              go_wp2_with (first
                | (go_at_call 15; refine GT.mono ?_; clear GT; rintro e w6 ⟨rfl, B6⟩; have FE := free13_any (XT.out.later B6) (by omega) xe HBG.out; rw [HV1.out, HV3.out.1, HV3.out.2] at FE; have d6 := old_cells HC2.out B6; have HB6 := Hid.mk B6; clear B6)
                | (go_at_call 13; refine FE.mono ?_; clear FE; rintro e w7 ⟨rfl, H7, K7⟩; have HH7 := Hid.mk H7; have HK7 := Hid.mk K7; clear H7 K7))
              go_roundw
              case rel => exact ⟨j + 1, by go_num, by omega, ⟨⟨HH7.out.box, HH7.out.row, XT.out.ok, HH7.out.le, HH7.out.lo⟩⟩, ⟨(XR.out.later HB6.out).kx HK7.out hsm.2 hsm.2⟩, ⟨(XB.out.trans (HB6.out.mono XB.out.size)).trans (HK7.out.bel hlo.2 hlo.2 (Nat.le_trans XB.out.size HB6.out.size))⟩, ⟨Nat.le_trans XM.out (Nat.le_trans HB6.out.size HK7.out.size)⟩⟩
              case measure => simp [intOf]; omega
            · have hje : ¬ (j : Int) < ((q : Nat) : Int) := by omega
              go_wp2
              refine ⟨⟨k + 1, p, q, ga, gb, ca, cb, L, G, A, T, by go_num, by omega, by omega, rfl, rfl, by omega, by omega, HLl, HGl, XR, ⟨HI.out.mono (by omega)⟩, ⟨XT.out.up (by omega)⟩, XB, XM⟩, by simp [intOf]; omega⟩
    · have hcond : (k : Int) < len → ¬ (k : Int) < 200 := fun q1 q2 => hgo ⟨by omega, by omega⟩
      have LN := len_any HT.out
      have hc := HI.out.c
      rw [HLl.out, HGl.out] at hc
      have hsub : IntKind.i64.wrap ((p : Int) - (q : Int)) = ((allL A n).length : Int) := by rw [IntKind.wrap_i64]; omega
      have hsub2 : (p : Int) - (q : Int) = ((allL A n).length : Int) := by omega
      generalize (allL A n).length = z at *
      clear hc
      by_cases qq : (k : Int) < len
      case' pos => have qq2 := hcond qq
      all_goals
        clear hcond hgo
        go_wp2_with (go_at_call 23; refine LN.mono ?_; clear LN; rintro e w8 ⟨rfl, B8⟩; have HB8 := Hid.mk (HB.out.trans (B8.mono HB.out.size)); clear B8)
        go_ret
        exact ⟨rfl, HB8.out⟩


set_option maxRecDepth 100000 in
theorem lifted (os : Os) (started : os.Started) (H : Type) (enc : TypeId × Value → H) :
    ReturnsInHanded {} Try.checked os 4 .any (Rows.stableOnceSpec.pre6 enc Try.prog Try.f4 Rows.stableOnceRow.domain false) (Rows.stableOnceSpec.post enc Try.prog Try.f4 false true false false) := by
  refine returnsInHanded_of_change (C := Try.checked) own started (by kernel_rfl) Try.func4
    (ChangeSpec.witness6 (enc := enc) (C := Try.checked) false ⟨#[], #[.int .u8 0, .slice none 0 0], []⟩ 8 (by kernel_rfl) (by kernel_rfl) (by kernel_rfl) (by kernel_rfl)) ?_
  intro W base args ds gs before hval0 hW hcnd _
  have hval : ∀ (j : Nat) t v, Try.f4.params[j]? = some t → args[j]? = some v → Value.okWide Try.prog W .any base t v := hval0
  have hW' := hW
  obtain ⟨p, q, hA0, hV, rfl, hfz, hnd⟩ := hW
  have hA : DataW.TrodAll enc Try.prog W 0 (fun _ => true) true Try.f4.params.toList args.toList ds p := hA0
  rw [Try.params4] at hA hval
  obtain ⟨v0, vs0, d0, ds0, p0, q0, hargs, rfl, rfl, h0, r0⟩ := trodAll_cons hA
  obtain ⟨v1, vs1, d1, ds1, p1, q1, rfl, rfl, rfl, h1, r1⟩ := trodAll_cons r0
  obtain ⟨rfl, rfl, rfl⟩ := trodAll_nil r1
  obtain rfl : args = #[v0, v1] := by cases args; simp_all
  obtain ⟨rfl, rfl⟩ := trodVars_none hV
  have t0 := h0
  have lt0 : ∀ x ∈ p0, x.block < W.heap.size := by obtain ⟨m, hm⟩ := t0; exact DataW.trod_lt m _ _ _ hm
  obtain ⟨a0, rfl, hd0, hp0, w0⟩ := open_int Try.underlying5 (hval 0 5 v0 rfl rfl) h0
  have t1 := h1
  have lt1 : ∀ x ∈ p1, x.block < W.heap.size := by obtain ⟨m, hm⟩ := t1; exact DataW.trod_lt m _ _ _ hm
  obtain ⟨ad1, len1, cap1, rfl⟩ := okWide_slice Try.underlying22 (hval 1 22 v1 rfl rfl)
  have w1 := open_acts h1
  clear hA0 hval0
  refine (walk a0 ad1 len1 cap1 W (bounds_u8 w0) w1).mono fun e W' ⟨he, bel⟩ => ?_
  subst he
  exact ⟨_, rfl, _, _, _, [], _, [], hW', trodAll_mk1 (shut_bool Try.underlying4 _), (trodAll_cons_mk (Below.trod laidOut (by kernel_rfl) (of_decide_eq_true (by kernel_rfl)) t0 bel lt0) (trodAll_cons_mk (Below.trod laidOut (by kernel_rfl) (of_decide_eq_true (by kernel_rfl)) t1 bel lt1) trodAll_mk0)), rfl, bel.frame _, fun h => by cases h⟩

theorem over : Rows.stableOnceRow.holds Try.pinned (OpenSpec.ofChange Rows.stableOnceSpec) :=
  OpenClaim.holds_of_wide 4 Try.f4 rfl rfl rfl rfl rfl rfl rfl ⟨rfl, rfl, rfl, rfl, rfl⟩ rfl rfl rfl rfl rfl (by kernel_rfl) Try.func4 (by kernel_rfl)
    (of_decide_eq_true (by kernel_rfl)) (by unfold Func.isWrapper; first | (rw [if_pos (by decide +kernel)]; kernel_rfl) | (rw [if_neg (by decide +kernel)]; exact ⟨rfl, rfl⟩))
    (fun os started H enc _ => lifted os started H enc)
end Go.Proofs.Ytejjobemafdlbaa.stableOnce

namespace Go.Proofs.Ytejjobemafdlbaa
theorem stableOnce_holds : Rows.StableOnceSaid := stableOnce.over
#print axioms stableOnce_holds
end Go.Proofs.Ytejjobemafdlbaa
