/-
  The statement StableDoes: every call is answered as the document says.
  Conditions: none on the input.
-/
import Derived.Test.YtejjobemafdlbaaSdc
import Derived.Test.YtejjobemafdlbaaSbm
import Derived.Test.YtejjobemafdlbaaSdx
namespace Go.Proofs.Ytejjobemafdlbaa.stableDoes
open Go.ChangeShapes Go.WideShapes Go.ChangeAt Go.RowKit
set_option linter.unusedVariables false

set_option maxRecDepth 100000 in
set_option maxHeartbeats 16000000 in
theorem walk (most : Int) (ad : Option Addr) (len cap : Nat) (w : World) (hmost : -9223372036854775808 ≤ most ∧ most ≤ 9223372036854775807) (hl0 : IsActs w ad len) :
    Calls Try.prog 3 #[.int .i64 most, .slice ad len cap] w fun e w' => e = .returned (.bool true) ∧ Below w.heap.size w w' := by
  have hm : len ≤ 9223372036854775807 := by have := hl0.1; unfold maxLen at this; exact this
  have HL := Hid.mk hl0
  clear hl0
  by_cases hv : 1 ≤ most ∧ most ≤ 256
  · obtain ⟨n, rfl⟩ : ∃ n : Nat, most = n := ⟨most.toNat, by omega⟩
    have h1n : 1 ≤ n ∧ n ≤ 256 := by omega
    have NW := new_any w n h1n
    clear hv hmost
    go_enter Try.func3, Try.ntmps3
    go_wp2_with (first
      | (go_at_call 8; refine NW.mono ?_; clear NW; rintro e w1 ⟨s, sb, rfl, H1, B1⟩; have RN := rnew_any w1 n h1n; have HH1 := Hid.mk H1; have HB1 := Hid.mk B1; clear H1 B1)
      | (go_at_call 9; refine RN.mono ?_; clear RN; rintro e w2 ⟨x, ab, fb, rfl, R2, B2⟩; have HH2 := Hid.mk (HH1.out.later B2); have HS1 := Hid.mk HH1.out.lt; have HRR2 := Hid.mk R2; have HB2 := Hid.mk (HB1.out.trans (B2.mono HB1.out.size)); have AW := awake_any w2; have hsz := B2.size; clear R2 B2)
      | (go_at_call 10; refine AW.mono ?_; clear AW; rintro e w3 ⟨rfl, B3⟩; have HH3 := Hid.mk (HH2.out.later B3); have HR3 := Hid.mk (HRR2.out.later B3); have HB3 := Hid.mk (HB2.out.trans (B3.mono HB2.out.size)); clear B3))
    obtain ⟨lo, hlo0⟩ : ∃ lo, w.heap.size = lo := ⟨_, rfl⟩
    have hb2 := HB3.out.size
    have hls : Hid (lo ≤ w1.heap.size) := ⟨by have := HB1.out.size; omega⟩
    obtain ⟨m, hm2⟩ : ∃ m, w3.heap.size = m := ⟨_, rfl⟩
    have hsm : s < m ∧ sb < m := by have := HH3.out.lt; omega
    have hxm : x < m ∧ ab < m ∧ fb < m := by have := HR3.out.lt; omega
    have hslo := HH3.out.lo
    have hxlo := HR3.out.lo
    have hne : s ≠ ab ∧ s ≠ fb ∧ sb ≠ ab ∧ sb ≠ fb ∧ x ≠ sb ∧ s ≠ x := by have := HS1.out; omega
    have HM3 : Hid (m ≤ w3.heap.size) := ⟨by omega⟩
    have HT3 : Hid (Tb lo w3 s sb n (1 + ((0 : Nat) : Int)) (fun _ => 0) (fun _ => 1)) := ⟨by rw [← hlo0]; exact HH3.out⟩
    have HX3 : Hid (Rt lo w3 x ab fb n (1 + ((0 : Nat) : Int)) (fun _ => 0) (fun _ => 1)) := ⟨by
      have h := HR3.out
      exact ⟨h.box, h.at', h.fr, h.ne, h.ok, h.le, by have := hls.out; omega⟩⟩
    have HL3 : Hid (([] : List Int).length = 0 ∧ ∀ z ∈ ([] : List Int), -9223372036854775808 ≤ z ∧ z ≤ 9223372036854775807) := ⟨rfl, fun z h => absurd h (by simp)⟩
    have HO3 : Hid (RowS w3 m 3 1 (.slice none 0 0) 0 (ints [])) := ⟨.inl ⟨rfl, rfl, none, rfl⟩⟩
    have hwm : lo ≤ m := by omega
    have HBB : Hid (Below lo w w3) := ⟨by rw [← hlo0]; exact HB3.out⟩
    have HLO : Hid (w.heap.size = lo) := ⟨hlo0⟩
    have hslo2 : lo ≤ sb := by omega
    have hxlo2 : lo ≤ ab ∧ lo ≤ fb := by have := hls.out; omega
    clear hlo0 hb2 hls hm2 hslo hxlo HH1 HB1 HH2 HS1 HRR2 HB2 HH3 HR3 HB3 hsz
    go_loopw [10, 9] (fun i v wr => ∃ (k p : Nat) (ga : Option Addr) (ca : Nat) (L : List Int) (A T : Nat → Int), i = .int .i64 k ∧ k ≤ len ∧ k ≤ 300 ∧ v = .slice ga p ca ∧ p ≤ k ∧ Hid (L.length = p ∧ ∀ z ∈ L, -9223372036854775808 ≤ z ∧ z ≤ 9223372036854775807) ∧ Hid (RowS wr m 3 1 (.slice ga p ca) p (ints L)) ∧ Hid (Tb lo wr s sb n (1 + (k : Int)) A T) ∧ Hid (Rt lo wr x ab fb n (1 + (k : Int)) A T) ∧ Hid (Below lo w wr) ∧ Hid (m ≤ wr.heap.size)) (fun i _ _ => len - (intOf i).toNat)
    case atStart => exact ⟨0, 0, none, 0, [], _, _, rfl, Nat.zero_le _, Nat.zero_le _, rfl, Nat.le_refl _, HL3, HO3, HT3, HX3, HBB, HM3⟩
    case round =>
      obtain ⟨k, p, ga, ca, L, A, T, rfl, hk, hk2, rfl, hp, HLL, HO, HT, HX, HB, HM⟩ := hrel
      clear HM3 HT3 HX3 HL3 HO3 HBB
      obtain ⟨wb, hwb⟩ : ∃ x, x = wr := ⟨_, rfl⟩
      rw [← hwb] at HO HT HX HB HM ⊢
      clear hwb
      by_cases hgo : k < len ∧ k < 300
      · obtain ⟨hlt, h300⟩ := hgo
        have hlt' : (k : Int) < len := by omega
        have h300' : (k : Int) < 300 := by omega
        obtain ⟨B, O, k0, k1, rfl, c0, c1, i0, i1⟩ := HL.out.2 k hlt
        have hBl : B < lo := by rw [← HLO.out]; exact World.block_lt_of_cell? _ _ c0
        have c0 : wb.cell? ⟨B, O + k * 2, none⟩ = some (.int .i64 k0) := (HB.out.cell (p := ⟨B, O + k * 2, none⟩) hBl).trans c0
        have c1 : wb.cell? ⟨B, O + k * 2 + 1, none⟩ = some (.int .i64 k1) := (HB.out.cell (p := ⟨B, O + k * 2 + 1, none⟩) hBl).trans c1
        have HC0 := Hid.mk c0
        unfold In64 at i0 i1
        obtain ⟨y, hy⟩ : ∃ y, wb.heap.size = y := ⟨_, rfl⟩
        have hym : m ≤ y := by rw [← hy]; exact HM.out
        go_upto_region 12 with fail
        have HW1 : Hid (Below wb.heap.size wb (wb.alloc (.cells #[.int .i64 k1] 3))) := ⟨go_bel1 _ _⟩
        have HYB : Hid ((wb.alloc (.cells #[.int .i64 k1] 3)).heap[y]? = some (.cells #[.int .i64 k1] 3 (0, 0))) := ⟨by rw [← hy]; exact heap_alloc_new _ _⟩
        have cy1 : (wb.alloc (.cells #[.int .i64 k1] 3)).cell? ⟨y, 0, none⟩ = some (.int .i64 k1) := by rw [Joins.cell_of_block HYB.out]; rfl
        have zy1 : (wb.alloc (.cells #[.int .i64 k1] 3)).frozen? ⟨y, 0, none⟩ = false := Joins.unfrozen_of_block HYB.out 0
        have c0 := old_cells c0 HW1.out
        have c1 := old_cells c1 HW1.out
        have HO1 := Hid.mk (HO.out.below HW1.out)
        have HYW : Hid (wb.heap.size = y) := ⟨hy⟩
        clear hy
        generalize wb.alloc (.cells #[.int .i64 k1] 3) = W1 at *
        go_cut [86] from 63 to 86 (fun v W => ∃ d : Bool, v = .bool d ∧ W = W1 ∧ Hid (d = true → 0 ≤ k1 ∧ k1 < (p : Int)))
        case first =>
          by_cases s0 : k0 = 2 ∨ k0 = 4
          · by_cases s1 : 0 ≤ k1
            · have q0' : decide (k1 ≥ 0) = true := by simpa using s1
              by_cases s2 : k1 < (p : Int)
              · rcases s0 with rfl | rfl
                all_goals
                  go_wp2
                  go_meet
                  exact ⟨true, rfl, rfl, ⟨fun _ => ⟨s1, s2⟩⟩⟩
              · have s2' : ¬ k1 < (p : Int) := s2
                rcases s0 with rfl | rfl
                all_goals
                  go_wp2
                  go_meet
                  exact ⟨false, rfl, rfl, ⟨fun e => by cases e⟩⟩
            · have q0' : decide (k1 ≥ 0) = false := by simpa using s1
              rcases s0 with rfl | rfl
              all_goals
                go_wp2
                go_meet
                exact ⟨false, rfl, rfl, ⟨fun e => by cases e⟩⟩
          · have s1 : ¬ k0 = 2 := fun e => s0 (.inl e)
            have s2 : ¬ k0 = 4 := fun e => s0 (.inr e)
            go_wp2
            go_meet
            exact ⟨false, rfl, rfl, ⟨fun e => by cases e⟩⟩
        case rest =>
          obtain ⟨d, rfl, hWc, HD⟩ := hcut
          rw [hWc]
          clear hWc
          go_upto_if 86 with fail
          go_cut [] from 87 to 90 (fun W => ∃ nn : Int, (-9223372036854775808 ≤ nn ∧ nn ≤ 9223372036854775807) ∧ W.cell? ⟨y, 0, none⟩ = some (.int .i64 nn) ∧ W.frozen? ⟨y, 0, none⟩ = false ∧ Hid (Below wb.heap.size wb W))
          case first =>
            cases d with
            | true =>
              obtain ⟨s1, s2⟩ := HD.out rfl
              obtain ⟨kk, rfl⟩ : ∃ kk : Nat, k1 = kk := ⟨k1.toNat, by omega⟩
              have hkp : kk < p := by omega
              obtain ⟨g1, c1', e1, -, cg1⟩ := HO1.out.get HLL.out.1 kk hkp
              have hmem : L.getD kk 0 ∈ L := getD_mem (by rw [HLL.out.1]; exact hkp)
              have HZB := Hid.mk (HLL.out.2 _ hmem)
              obtain ⟨z, hz⟩ : ∃ z, L.getD kk 0 = z := ⟨_, rfl⟩
              rw [hz] at cg1 HZB
              simp only [Value.slice.injEq, true_and] at e1
              obtain ⟨rfl, rfl⟩ := e1
              have hkp' : (kk : Int) < p := by omega
              have HF := Joins.block_setCell (i := 0) HYB.out (.int .i64 z)
              have HFF : Hid ((-9223372036854775808 ≤ z ∧ z ≤ 9223372036854775807) ∧ (W1.setCell ⟨y, 0, none⟩ (.int .i64 z)).cell? ⟨y, 0, none⟩ = some (.int .i64 z) ∧ (W1.setCell ⟨y, 0, none⟩ (.int .i64 z)).frozen? ⟨y, 0, none⟩ = false ∧ Hid (Below wb.heap.size wb (W1.setCell ⟨y, 0, none⟩ (.int .i64 z)))) := ⟨HZB.out, by rw [Joins.cell_of_block HF]; rfl, Joins.unfrozen_of_block HF 0, ⟨HW1.out.setCell (by have := HYW.out; rw [this]; exact Nat.le_refl _) _⟩⟩
              clear HF hz hmem
              go_wp2
              go_meet
              exact ⟨z, HFF.out⟩
            | false =>
              go_wp2
              go_meet
              exact ⟨k1, i1, cy1, zy1, HW1⟩
          case rest =>
            obtain ⟨nn, hnn, cy, zy, HBW⟩ := hcut
            have c0c := old_cells HC0.out HBW.out
            go_upto_block 2 with fail
            have HTc := Hid.mk (HT.out.later HBW.out)
            have HXc := Hid.mk (HX.out.later HBW.out)
            have HOc := Hid.mk (HO.out.below HBW.out)
            have HBc : Hid (Below lo w wc) := ⟨HB.out.trans (HBW.out.mono (Nat.le_trans hwm HM.out))⟩
            have hMc := Nat.le_trans HM.out HBW.out.size
            have hyn : y ≠ sb ∧ y ≠ ab ∧ y ≠ fb := by omega
            have hxn : (x ≠ sb ∧ x ≠ sb) ∧ (ab ≠ sb ∧ ab ≠ sb) ∧ (fb ≠ sb ∧ fb ≠ sb) := by omega
            have hsn : (s ≠ ab ∧ s ≠ fb) ∧ (sb ≠ ab ∧ sb ≠ fb) := by omega
            clear HT HX HO HB HW1 HYB HO1 cy1 zy1 c0c HD
            go_cut [9] from 96 to 198 (fun v W => ∃ (p' : Nat) (ga' : Option Addr) (ca' : Nat) (L' : List Int) (A' T' : Nat → Int), v = .slice ga' p' ca' ∧ p' ≤ k + 1 ∧ Hid (L'.length = p' ∧ ∀ z ∈ L', -9223372036854775808 ≤ z ∧ z ≤ 9223372036854775807) ∧ Hid (RowS W m 3 1 (.slice ga' p' ca') p' (ints L')) ∧ Hid (Tb lo W s sb n (1 + ((k + 1 : Nat) : Int)) A' T') ∧ Hid (Rt lo W x ab fb n (1 + ((k + 1 : Nat) : Int)) A' T') ∧ Hid (Below lo w W) ∧ Hid (m ≤ W.heap.size))
            case first =>
              by_cases h01 : k0 = 0 ∨ k0 = 1
              · have MK := make_any HTc.out (by omega) nn
                have HBIG := Hid.mk (mkH_big HTc.out.ok (by omega) h1n.2 nn)
                have HO2 := Hid.mk (rfl : mkA n A nn = mkA n A nn)
                have RMK := Hid.mk (fun (W : World) (h : Rt lo W x ab fb n (1 + (k : Int)) A T) => rmake_any h (by omega) nn)
                obtain ⟨hh, ehh⟩ : ∃ hh, mkH n A T nn = hh := ⟨_, rfl⟩
                obtain ⟨ee, eee⟩ : ∃ ee, mkE n A nn = ee := ⟨_, rfl⟩
                obtain ⟨A2, eA2⟩ : ∃ A2, mkA n A nn = A2 := ⟨_, rfl⟩
                rw [ehh, eee, eA2] at MK
                rw [ehh] at HBIG
                simp only [ehh, eee, eA2] at RMK
                have HC := Hid.mk cy
                clear ehh eee eA2 HO2
                obtain ⟨i0', hi, hz0, hz1, hz2⟩ := info_parts info3
                rcases h01 with rfl | rfl
                all_goals
                  go_wp2_with (first
                    | (go_at_call 11; refine MK.mono ?_; clear MK; rintro e w5 ⟨rfl, H5, K5⟩; have HH5 := Hid.mk H5; have HK5 := Hid.mk K5; have RM := RMK.out w5 (HXc.out.kx2 K5 hxn.1 hxn.2.1 hxn.2.2); have cy5 := cell_kx HC.out K5 hyn.1; have HO5 := Hid.mk (HOc.out.kx K5 hsm.2 hsm.2); have HB5 := Hid.mk (HBc.out.trans (K5.bel hslo2 hslo2 (Nat.le_trans hwm hMc))); have hM5 := Nat.le_trans hMc K5.size; clear H5 K5)
                    | (go_at_call 12; refine RM.mono ?_; clear RM; rintro e w6 ⟨rfl, R6, K6⟩; have HR6 := Hid.mk R6; have HT6 := Hid.mk (HH5.out.kx K6 hsn.1 hsn.2); have HO6 := Hid.mk (HO5.out.kx K6 hxm.2.1 hxm.2.2); have HB6 := Hid.mk (HB5.out.trans (K6.bel hxlo2.1 hxlo2.2 (Nat.le_trans hwm hM5))); have hM6 := Nat.le_trans hM5 K6.size; have HRl : Hid (RowS (w6.alloc (Obj.cells #[.int .i64 hh] 3)) m 3 1 (.slice ga p ca) p (ints L)) := ⟨HO6.out.below ((Below.refl _ _).alloc (Nat.le_refl _) _)⟩; clear R6 K6)
                    | (at_builtin; refine wpList_append_T rfl _ _ 31 rfl m 3 i0' (.int .i64 0) 1 8 Try.underlying31 hi hz0 hz1 hz2 rfl (by decide) (.slice ga p ca) p (ints L) rfl HRl.out (some ⟨w6.heap.size, 0, none⟩) 1 1 [.int .i64 hh] rfl rfl (fun _ => ⟨_, rfl, news_new w6 _⟩) (one_new _) (p + 1) rfl (ints (L ++ [hh])) (by simp [ints]) (by unfold maxLen; omega) (by omega) (by simp; omega) ?_; intro ga1 cap1 w7 hown7 hgr7; have HB7 := Hid.mk (row_below HO6.out (Below.refl m w6) hM6 hgr7); have HO7 := Hid.mk hown7; clear hown7 hgr7 HRl))
                  go_meet
                  exact ⟨p + 1, ga1, cap1, L ++ [hh], A2, T, rfl, by omega, ⟨by simp [HLL.out.1], fun z hz => by
                    rcases List.mem_append.1 hz with r | r
                    · exact HLL.out.2 z r
                    · simp at r; rw [r]; exact HBIG.out⟩, HO7, ⟨(HT6.out.old HB7.out hsm).up (by omega)⟩, ⟨(HR6.out.old HB7.out hxm).up (by omega)⟩, ⟨HB6.out.trans (HB7.out.mono hwm)⟩, ⟨Nat.le_trans hM6 HB7.out.size⟩⟩
              · have g0 : ¬ k0 = 0 := fun e => h01 (.inl e)
                have g1 : ¬ k0 = 1 := fun e => h01 (.inr e)
                by_cases h23 : k0 = 2 ∨ k0 = 3
                · have FE := free13_any (HTc.out.later (below_drew wc)) (by omega) nn hnn
                  have RFK := Hid.mk (fun (W : World) (h : Rt lo W x ab fb n (1 + (k : Int)) A T) => rfree_any h (by omega) nn)
                  obtain ⟨ee, eee⟩ : ∃ ee, geE n A T nn = ee := ⟨_, rfl⟩
                  obtain ⟨A2, eA2⟩ : ∃ A2, frA n A T nn = A2 := ⟨_, rfl⟩
                  obtain ⟨T2, eT2⟩ : ∃ T2, frT n A T nn = T2 := ⟨_, rfl⟩
                  rw [eee, eA2, eT2] at FE
                  simp only [eee, eA2, eT2] at RFK
                  have HC := Hid.mk cy
                  have HXd := Hid.mk (HXc.out.later (below_drew wc))
                  have HOd := Hid.mk (HOc.out.below (below_drew wc))
                  have HBd : Hid (Below lo w wc.drew) := ⟨HBc.out.trans ((below_drew wc).mono (Nat.le_trans hwm hMc))⟩
                  have hMd : m ≤ wc.drew.heap.size := hMc
                  clear eee eA2 eT2
                  rcases h23 with rfl | rfl
                  all_goals
                    go_wp2
                    go_region_held3 (fun W' => W'.cell? ⟨y, 0, none⟩ = some (.int .i64 nn)) (go_keep) (first
                      | (go_at_call 13; refine FE.mono ?_; clear FE; rintro e w5 ⟨rfl, H5, K5⟩; have HH5 := Hid.mk H5; have HK5 := Hid.mk K5; have RF := RFK.out w5 (HXd.out.kx2 K5 hxn.1 hxn.2.1 hxn.2.2); have cy5 : w5.cell? ⟨y, 0, none⟩ = some (.int .i64 nn) := cell_kx (w := wc.drew) HC.out K5 hyn.1; have HC5 := Hid.mk cy5; have HO5 := Hid.mk (HOd.out.kx K5 hsm.2 hsm.2); have HB5 := Hid.mk (HBd.out.trans (K5.bel hslo2 hslo2 (Nat.le_trans hwm hMd))); have hM5 := Nat.le_trans hMd K5.size; clear H5 K5)
                      | (go_at_call 14; refine RF.mono ?_; clear RF; rintro e w6 ⟨rfl, R6, K6⟩; have cy6 := cell_kx2 HC5.out K6 hyn.2.1 hyn.2.2; have HR6 := Hid.mk R6; have HT6 := Hid.mk (HH5.out.kx K6 hsn.1 hsn.2); have HO6 := Hid.mk (HO5.out.kx K6 hxm.2.1 hxm.2.2); have HB6 := Hid.mk (HB5.out.trans (K6.bel hxlo2.1 hxlo2.2 (Nat.le_trans hwm hM5))); have hM6 := Nat.le_trans hM5 K6.size; clear R6 K6))
                    go_wp2
                    go_meet
                    exact ⟨p, ga, ca, L, A2, T2, rfl, by omega, HLL, HO6, ⟨HT6.out.up (by omega)⟩, ⟨HR6.out.up (by omega)⟩, HB6, ⟨hM6⟩⟩
                · have g2 : ¬ k0 = 2 := fun e => h23 (.inl e)
                  have g3 : ¬ k0 = 3 := fun e => h23 (.inr e)
                  by_cases h4 : k0 = 4
                  · have GT := get_any HTc.out nn hnn
                    have RGK := Hid.mk (fun (W : World) (h : Rt lo W x ab fb n (1 + (k : Int)) A T) => rget_any h (by omega) nn)
                    obtain ⟨ee, eee⟩ : ∃ ee, geE n A T nn = ee := ⟨_, rfl⟩
                    obtain ⟨vv, evv⟩ : ∃ vv, geV n A T nn = vv := ⟨_, rfl⟩
                    rw [eee, evv] at GT
                    simp only [eee, evv] at RGK
                    have HC := Hid.mk cy
                    clear eee evv
                    subst h4
                    go_wp2_with (first
                      | (go_at_call 15; refine GT.mono ?_; clear GT; rintro e w5 ⟨rfl, B5⟩; have RG := RGK.out w5 (HXc.out.later B5); have cy5 := old_cells HC.out B5; have HB5 := Hid.mk B5; clear B5)
                      | (go_at_call 16; refine RG.mono ?_; clear RG; rintro e w6 ⟨rfl, hw⟩; rw [hw]; clear hw))
                    go_meet
                    exact ⟨p, ga, ca, L, A, T, rfl, by omega, HLL, ⟨HOc.out.below HB5.out⟩, ⟨(HTc.out.later HB5.out).up (by omega)⟩, ⟨(HXc.out.later HB5.out).up (by omega)⟩, ⟨HBc.out.trans (HB5.out.mono (Nat.le_trans hwm hMc))⟩, ⟨Nat.le_trans hMc HB5.out.size⟩⟩
                  · have g4 : ¬ k0 = 4 := h4
                    have MP := map_any HTc.out 18 y (fun z => byI z nn) (fun W a hW ha => turned18_any W y a nn (hW.trans cy) ha hnn) (World.block_lt_of_cell? _ _ cy)
                    have HC := Hid.mk cy
                    go_wp2_with (go_at_call 17; refine MP.mono ?_; clear MP; rintro e w5 ⟨rfl, H5, K5⟩; have HH5 := Hid.mk H5; have HX5 := Hid.mk (HXc.out.kx2 K5 hxn.1 hxn.2.1 hxn.2.2); have HC5 := Hid.mk (cell_kx HC.out K5 hyn.1); have HO5 := Hid.mk (HOc.out.kx K5 hsm.2 hsm.2); have HB5 := Hid.mk (HBc.out.trans (K5.bel hslo2 hslo2 (Nat.le_trans hwm hMc))); have hM5 := Nat.le_trans hMc K5.size; clear H5 K5)
                    have HX0 : Hid (Rt lo w5 x ab fb n (1 + (k : Int)) (part (fun z => byI z nn) A 0) T) := ⟨by rw [part_none]; exact HX5.out⟩
                    have HK0 : Hid (Kx ab fb w5 w5) := ⟨Kx.refl _ _ _⟩
                    go_loopw [20] (fun cv wx => ∃ j : Nat, cv = .int .i64 j ∧ j ≤ n ∧ Hid (Rt lo wx x ab fb n (1 + (k : Int)) (part (fun z => byI z nn) A j) T) ∧ Hid (Kx ab fb w5 wx)) (fun cv _ => n - (intOf cv).toNat)
                    case atStart => exact ⟨0, rfl, Nat.zero_le _, HX0, HK0⟩
                    case round =>
                      obtain ⟨j, rfl, hj, XR, XK⟩ := hrel
                      clear HX0 HK0
                      have xc := XR.out.c.1
                      by_cases hjn : j < n
                      · have hjn' : (j : Int) < n := by omega
                        have a0 := XR.out.c0 j hjn
                        have z0 := XR.out.z0 j
                        have okj := HTc.out.ok j hjn
                        have cyx := cell_kx2 HC5.out XK.out hyn.2.1 hyn.2.2
                        have yab1 : ¬ y = ab := hyn.2.1
                        have xab1 : ¬ x = ab := XR.out.nx.1
                        rw [part_at] at a0
                        have BY := fun V : World => by_any V (A j) nn (by omega) hnn
                        obtain ⟨aj, haj⟩ : ∃ aj, A j = aj := ⟨_, rfl⟩
                        obtain ⟨bj, hbj⟩ : ∃ bj, byI (A j) nn = bj := ⟨_, rfl⟩
                        rw [haj] at a0 okj hbj BY
                        rw [hbj] at BY
                        have HAB : Hid (A j = aj ∧ byI aj nn = bj) := ⟨haj, hbj⟩
                        clear haj hbj
                        have hsel : (aj > 0 ∧ bj ≥ 1 ∧ bj ≤ 524288 ∧ part (fun z => byI z nn) A (j + 1) = upd (part (fun z => byI z nn) A j) j bj) ∨ ((¬ aj > 0 ∨ (aj > 0 ∧ (¬ bj ≥ 1 ∨ (bj ≥ 1 ∧ ¬ bj ≤ 524288)))) ∧ part (fun z => byI z nn) A (j + 1) = part (fun z => byI z nn) A j) := by
                          by_cases r0 : aj > 0
                          · have hA0 : A j ≠ 0 := by rw [HAB.out.1]; omega
                            have pm := part_more (F := fun z => byI z nn) hA0
                            by_cases r1 : bj ≥ 1 ∧ bj ≤ 524288
                            · refine .inl ⟨r0, r1.1, r1.2, ?_⟩
                              rw [pm]
                              have e : trn (fun z => byI z nn) (A j) = bj := by
                                rw [HAB.out.1]
                                show (if isA (byI aj nn) = true then byI aj nn else aj) = bj
                                rw [HAB.out.2, if_pos (isA_iff.2 ⟨r1.1, r1.2⟩)]
                              rw [e]
                            · refine .inr ⟨.inr ⟨r0, by omega⟩, ?_⟩
                              rw [pm]
                              have e : trn (fun z => byI z nn) (A j) = A j := by
                                rw [HAB.out.1]
                                show (if isA (byI aj nn) = true then byI aj nn else aj) = aj
                                rw [HAB.out.2, if_neg (fun q => by have := isA_iff.1 q; omega)]
                              rw [e]
                              have := upd_self (part (fun z => byI z nn) A j) j
                              rw [part_at] at this
                              exact this
                          · exact .inr ⟨.inl r0, part_skip (by rw [HAB.out.1]; omega)⟩
                        rcases hsel with ⟨r0, r1, r2, hP⟩ | ⟨r0, hP⟩
                        · have HP := Hid.mk hP
                          clear hP
                          have r1' : decide (bj ≥ 1) = true := by simpa using r1
                          go_wp2
                          go_region_held3 (fun W' => W'.cell? ⟨x, 0, none⟩ = some (.slice (some ⟨ab, 0, none⟩) n n) ∧ W'.cell? ⟨ab, j, none⟩ = some (.int .i64 aj) ∧ W'.cell? ⟨y, 0, none⟩ = some (.int .i64 nn)) (go_keep) (first | (go_at_call 19; refine (BY _).mono ?_; rintro e w8 ⟨rfl, hw⟩; rw [hw]; clear hw))
                          go_wp2
                          go_roundw
                          case rel => exact ⟨j + 1, by go_num, by omega, ⟨by rw [HP.out]; exact (XR.out.later (below_drew _)).setA hjn bj _ (by rw [← HP.out]; exact okt_part HTc.out.ok _ _)⟩, ⟨(XK.out.trans (Kx.later _ _ (below_drew _))).trans (Kx.set _ _ _ (.inl rfl))⟩⟩
                          case measure => simp [intOf]; omega
                        · have HP := Hid.mk hP
                          clear hP
                          rcases r0 with r0 | ⟨r0, r1 | ⟨r1, r2⟩⟩
                          case' inr.inr.inl => have r1' : decide (bj ≥ 1) = false := by simpa using r1
                          case' inr.inr.inr => have r1' : decide (bj ≥ 1) = true := by simpa using r1
                          all_goals
                            go_wp2
                            go_region_held3 (fun W' => W'.cell? ⟨x, 0, none⟩ = some (.slice (some ⟨ab, 0, none⟩) n n) ∧ W'.cell? ⟨ab, j, none⟩ = some (.int .i64 aj) ∧ W'.cell? ⟨y, 0, none⟩ = some (.int .i64 nn)) (go_keep) (first | (go_at_call 19; refine (BY _).mono ?_; rintro e w8 ⟨rfl, hw⟩; rw [hw]; clear hw))
                            go_wp2
                            go_roundw
                            case rel => exact ⟨j + 1, by go_num, by omega, ⟨by rw [HP.out]; exact XR.out.later (by exact ⟨rfl, rfl, rfl, Nat.le_refl _, fun _ _ => rfl⟩)⟩, ⟨XK.out.trans (Kx.later _ _ (by exact ⟨rfl, rfl, rfl, Nat.le_refl _, fun _ _ => rfl⟩))⟩⟩
                            case measure => simp [intOf]; omega
                      · obtain rfl : j = n := by omega
                        have hje : ¬ (j : Int) < (j : Int) := by omega
                        go_wp2
                        go_meet
                        have hM7 := Nat.le_trans hM5 XK.out.size
                        refine ⟨p, ga, ca, L, mpA (fun z => byI z nn) A, T, rfl, by omega, HLL, ⟨HO5.out.kx XK.out hxm.2.1 hxm.2.2⟩, ⟨(HH5.out.kx XK.out hsn.1 hsn.2).up (by omega)⟩, ⟨?_⟩, ⟨HB5.out.trans (XK.out.bel hxlo2.1 hxlo2.2 (Nat.le_trans hwm hM5))⟩, ⟨hM7⟩⟩
                        have t := XR.out
                        obtain ⟨cur, r1, r2⟩ := t.at'
                        exact ⟨t.box, ⟨cur, r1, fun i hi => by rw [← part_all (fun z => byI z nn) A j i hi]; exact r2 i hi⟩, t.fr, t.ne, (HH5.out.ok).mono (by omega), t.le, t.lo⟩
            case rest =>
              obtain ⟨p', ga', ca', L', A', T', rfl, hp', HLL', HO', HT', HX', HB', HM'⟩ := hcut
              have AL := all_any HT'.out
              have RA := Hid.mk (fun (W : World) (h : Rt lo W x ab fb n (1 + ((k + 1 : Nat) : Int)) A' T') => rall_any h)
              have LNN := Hid.mk (fun (W : World) (h : Tb lo W s sb n (1 + ((k + 1 : Nat) : Int)) A' T') => len_any h)
              have hall := allL_le A' n
              obtain ⟨l, hl⟩ : ∃ l, allL A' n = l := ⟨_, rfl⟩
              rw [hl] at AL hall
              simp only [hl] at RA LNN
              have hMl : l.length ≤ 600000 := by omega
              obtain ⟨q, hq⟩ : ∃ q, l.length = q := ⟨_, rfl⟩
              have HQ := Hid.mk hq
              have HML := Hid.mk hMl
              clear hl hall hMl
              rw [hq] at AL
              simp only [hq] at RA LNN
              clear hq
              go_wp2_with (first
                | (go_at_call 22; refine RA2.mono ?_; clear RA2; rintro e w9 ⟨v4, rfl, R9, B9⟩; obtain ⟨ga4, ca4, hv4, _⟩ := R9.le; subst hv4; have HBf := Hid.mk (HB8.out.trans (B9.mono HB8.out.size)); clear R9 B9)
                | (go_at_call 23; refine LN.mono ?_; clear LN; rintro e w8 ⟨rfl, B8⟩; have RA2 := RA.out w8 (HX7.out.later B8); have HB8 := Hid.mk (HB7.out.trans (B8.mono HB7.out.size)); clear B8)
                | (go_at_call 20; refine SM.mono ?_; clear SM; rintro e w7 ⟨rfl, B7⟩; have LN := LNN.out w7 (HT6.out.later B7); have HX7 := Hid.mk (HX6.out.later B7); have HB7 := Hid.mk (HB6.out.trans (B7.mono HB6.out.size)); clear B7)
                | (go_at_call 22; refine RA1.mono ?_; clear RA1; rintro e w6 ⟨v2, rfl, R6, B6⟩; have SM := same_true (HS5.out.later B6) (sl_ofS (by rw [HQ.out]; exact R6)) HML.out; have HT6 := Hid.mk (HT5.out.later B6); have HX6 := Hid.mk (HX5.out.later B6); have HB6 := Hid.mk (HB5.out.trans (B6.mono HB5.out.size)); clear R6 B6)
                | (go_at_call 21; refine AL.mono ?_; clear AL; rintro e w5 ⟨v1, rfl, R5, B5⟩; have HS5 : Hid (Sl w5 v1 l) := ⟨sl_ofS (by rw [HQ.out]; exact R5)⟩; have HT5 := Hid.mk (HT'.out.later B5); have HX5 := Hid.mk (HX'.out.later B5); have RA1 := RA.out w5 HX5.out; have HB5 := Hid.mk B5; clear R5 B5))
              refine ⟨⟨k + 1, p', ga', ca', L', A', T', by go_num, by omega, by omega, rfl, hp', HLL', ⟨HO'.out.below HBf.out⟩, ⟨HT'.out.later HBf.out⟩, ⟨HX'.out.later HBf.out⟩, ⟨HB'.out.trans (HBf.out.mono (Nat.le_trans hwm HM'.out))⟩, ⟨Nat.le_trans HM'.out HBf.out.size⟩⟩, by simp [intOf]; omega⟩
      · have hcond : (k : Int) < len → ¬ (k : Int) < 300 := fun q1 q2 => hgo ⟨by omega, by omega⟩
        have HBF : Hid (Below w.heap.size w wb) := ⟨by rw [HLO.out]; exact HB.out⟩
        by_cases qq : (k : Int) < len
        case' pos => have qq2 := hcond qq
        all_goals
          clear hcond hgo
          go_wp2
          go_ret
          exact ⟨rfl, HBF.out⟩
  · have NW := new_no w most hv
    have RN := rnew_no w most hv
    have AW := awake_any w
    clear hv
    go_enter Try.func3, Try.ntmps3
    go_wp2_with (first
      | (go_at_call 8; refine NW.mono ?_; clear NW; rintro e w1 ⟨rfl, hw⟩; rw [hw]; clear hw)
      | (go_at_call 9; refine RN.mono ?_; clear RN; rintro e w1 ⟨rfl, hw⟩; rw [hw]; clear hw)
      | (go_at_call 10; refine AW.mono ?_; clear AW; rintro e w3 ⟨rfl, B3⟩))
    go_ret
    exact ⟨rfl, B3⟩


set_option maxRecDepth 100000 in
theorem lifted (os : Os) (started : os.Started) (H : Type) (enc : TypeId × Value → H) :
    ReturnsInHanded {} Try.checked os 3 .any (Rows.stableDoesSpec.pre6 enc Try.prog Try.f3 Rows.stableDoesRow.domain false) (Rows.stableDoesSpec.post enc Try.prog Try.f3 false true false false) := by
  refine returnsInHanded_of_change (C := Try.checked) own started (by kernel_rfl) Try.func3
    (ChangeSpec.witness6 (enc := enc) (C := Try.checked) false ⟨#[], #[.int .i64 0, .slice none 0 0], []⟩ 8 (by kernel_rfl) (by kernel_rfl) (by kernel_rfl) (by kernel_rfl)) ?_
  intro W base args ds gs before hval0 hW hcnd _
  have hval : ∀ (j : Nat) t v, Try.f3.params[j]? = some t → args[j]? = some v → Value.okWide Try.prog W .any base t v := hval0
  have hW' := hW
  obtain ⟨p, q, hA0, hV, rfl, hfz, hnd⟩ := hW
  have hA : DataW.TrodAll enc Try.prog W 0 (fun _ => true) true Try.f3.params.toList args.toList ds p := hA0
  rw [Try.params3] at hA hval
  obtain ⟨v0, vs0, d0, ds0, p0, q0, hargs, rfl, rfl, h0, r0⟩ := trodAll_cons hA
  obtain ⟨v1, vs1, d1, ds1, p1, q1, rfl, rfl, rfl, h1, r1⟩ := trodAll_cons r0
  obtain ⟨rfl, rfl, rfl⟩ := trodAll_nil r1
  obtain rfl : args = #[v0, v1] := by cases args; simp_all
  obtain ⟨rfl, rfl⟩ := trodVars_none hV
  have t0 := h0
  have lt0 : ∀ x ∈ p0, x.block < W.heap.size := by obtain ⟨m, hm⟩ := t0; exact DataW.trod_lt m _ _ _ hm
  obtain ⟨a0, rfl, hd0, hp0, w0⟩ := open_int Try.underlying3 (hval 0 3 v0 rfl rfl) h0
  have t1 := h1
  have lt1 : ∀ x ∈ p1, x.block < W.heap.size := by obtain ⟨m, hm⟩ := t1; exact DataW.trod_lt m _ _ _ hm
  obtain ⟨ad1, len1, cap1, rfl⟩ := okWide_slice Try.underlying22 (hval 1 22 v1 rfl rfl)
  have w1 := open_acts h1
  clear hA0 hval0
  refine (walk a0 ad1 len1 cap1 W (bounds_i64 w0) w1).mono fun e W' ⟨he, bel⟩ => ?_
  subst he
  exact ⟨_, rfl, _, _, _, [], _, [], hW', trodAll_mk1 (shut_bool Try.underlying4 _), (trodAll_cons_mk (Below.trod laidOut (by kernel_rfl) (of_decide_eq_true (by kernel_rfl)) t0 bel lt0) (trodAll_cons_mk (Below.trod laidOut (by kernel_rfl) (of_decide_eq_true (by kernel_rfl)) t1 bel lt1) trodAll_mk0)), rfl, bel.frame _, fun h => by cases h⟩

theorem over : Rows.stableDoesRow.holds Try.pinned (OpenSpec.ofChange Rows.stableDoesSpec) :=
  OpenClaim.holds_of_wide 3 Try.f3 rfl rfl rfl rfl rfl rfl rfl ⟨rfl, rfl, rfl, rfl, rfl⟩ rfl rfl rfl rfl rfl (by kernel_rfl) Try.func3 (by kernel_rfl)
    (of_decide_eq_true (by kernel_rfl)) (by unfold Func.isWrapper; first | (rw [if_pos (by decide +kernel)]; kernel_rfl) | (rw [if_neg (by decide +kernel)]; exact ⟨rfl, rfl⟩))
    (fun os started H enc _ => lifted os started H enc)
end Go.Proofs.Ytejjobemafdlbaa.stableDoes

namespace Go.Proofs.Ytejjobemafdlbaa
theorem stableDoes_holds : Rows.StableDoesSaid := stableDoes.over
#print axioms stableDoes_holds
end Go.Proofs.Ytejjobemafdlbaa
