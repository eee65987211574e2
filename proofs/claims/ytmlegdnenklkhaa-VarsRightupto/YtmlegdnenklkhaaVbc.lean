/- The document's Field. -/
import Derived.Test.YtmlegdnenklkhaaVbb
import Derived.Deep.CutRange
import Derived.BigQuiet
namespace Go.Proofs.Ytmlegdnenklkhaa
open Go.RowKit
set_option linter.unusedVariables false
set_option linter.unusedSimpArgs false

section
variable {w : World} (ga : Option Addr) (la ca : Nat) (k a xm : Int) (s : ByteArray) (g4 g5 g6 g7 : Option Addr) (n4 n5 n6 n7 c4 c5 c6 c7 : Nat) (kk : Int) (ks : ByteArray) (kl : Nat) (ak : Int) (an : ByteArray) (vs : List Nm) (bk : Int) (bs : Nm) (bl : Nat)
set_option maxRecDepth 100000 in
set_option maxHeartbeats 8000000 in
theorem rfield_any (HK : 0 < n6 → KidAt w g6 kk ks kl) (HA : 0 < n7 → AltAt w g7 ak an vs bk (str bs) bl) (h6 : n6 ≤ c6) (h7 : n7 ≤ c7) :
    Calls Try.prog 7 #[.agg (frm9 ga la ca k a xm s g4 g5 g6 g7 n4 n5 n6 n7 c4 c5 c6 c7)] w fun e w' => e = .returned (fldV (picks la k n6 n7 kk kl ak vs bk bs bl) an (lastI bs vs) ks) ∧ Below w.heap.size w w' := by
  have K2 : Below w.heap.size w ((w.alloc (.cells (frm9 ga la ca k a xm s g4 g5 g6 g7 n4 n5 n6 n7 c4 c5 c6 c7) 30)).alloc (.cells (exp8 k a xm s g4 g5 g6 g7 n4 n5 n6 n7 c4 c5 c6 c7) 28)) := (Joins.below_alloc1 w _).alloc (by simp) _
  have HK2 := Hid.mk K2
  by_cases q1 : la = 0
  · subst q1
    by_cases q2 : k = 6
    · by_cases q3 : n6 = 0
      · have e : picks 0 k n6 n7 kk kl ak vs bk bs bl = false := by simp [picks, q3]
        rw [e]
        have p2 : (k != 6) = false := by simp [q2]
        subst q3
        clear HK HA K2 e q2
        go_enter Try.func7, Try.ntmps7
        go_wp2
        ((try simp only [Exit.inBlock, Exit.then]); refine bodyPost_ret (results_tmp4 rfl _ _ _) rfl ?_)
        exact ⟨rfl, HK2.out⟩
      · by_cases q4 : n7 = 1
        · subst q2 q4
          obtain ⟨B, O, ka, km, h4, z4, h5, m5, z5, h6', m6, z6, h7', m7, z7, rfl, hk⟩ := HK (by omega)
          obtain ⟨B2, O2, aa, am, gv, cv, ya, ym, i4, y4, i5, l5, y5, i6, l6, y6, i7, l7, y7, rfl, SR, hcv, ha⟩ := HA (by omega)
          have u0 := hk 0 _ rfl
          have u1 := hk 1 _ rfl
          have u2 := hk 2 _ rfl
          have u3 := hk 3 _ rfl
          have u4 := hk 4 _ rfl
          have u5 := hk 5 _ rfl
          have u6 := hk 6 _ rfl
          have u7 := hk 7 _ rfl
          have t0 := ha 0 _ rfl
          have t1 := ha 1 _ rfl
          have t2 := ha 2 _ rfl
          have t3 := ha 3 _ rfl
          have t4 := ha 4 _ rfl
          have t5 := ha 5 _ rfl
          have t6 := ha 6 _ rfl
          have t7 := ha 7 _ rfl
          have t8 := ha 8 _ rfl
          have t9 := ha 9 _ rfl
          have t10 := ha 10 _ rfl
          have t11 := ha 11 _ rfl
          have t12 := ha 12 _ rfl
          rw [Nat.add_zero] at u0 t0
          have p3 : ((n6 : Int) == 0) = false := by simp; omega
          have p5 : (0 : Int) < n6 := by omega
          have p5b : ¬ (n6 : Int) ≤ 0 := by omega
          have p5c : 0 < n6 := by omega
          have p5e : ¬ n6 ≤ 0 := by omega
          have p5f : (1 : Int) ≤ n6 := by omega
          have p5g : ¬ (n6 : Int) < 1 := by omega
          have p5h : (0 : Int) ≤ n6 := by omega
          have HSR := Hid.mk (And.intro SR hcv)
          generalize hlv : vs.length = lv at *
          have XX : Bx ((w.alloc (.cells (frm9 ga 0 ca 6 a xm s g4 g5 (some ⟨B, O, none⟩) (some ⟨B2, O2, none⟩) n4 n5 n6 1 c4 c5 c6 c7) 30)).alloc (.cells (exp8 6 a xm s g4 g5 (some ⟨B, O, none⟩) (some ⟨B2, O2, none⟩) n4 n5 n6 1 c4 c5 c6 c7) 28)) (w.heap.size + 1) (exp8 6 a xm s g4 g5 (some ⟨B, O, none⟩) (some ⟨B2, O2, none⟩) n4 n5 n6 1 c4 c5 c6 c7) 28 := by
            have := heap_alloc_new (w.alloc (.cells (frm9 ga 0 ca 6 a xm s g4 g5 (some ⟨B, O, none⟩) (some ⟨B2, O2, none⟩) n4 n5 n6 1 c4 c5 c6 c7) 30)) (.cells (exp8 6 a xm s g4 g5 (some ⟨B, O, none⟩) (some ⟨B2, O2, none⟩) n4 n5 n6 1 c4 c5 c6 c7) 28)
            rwa [World.size_alloc] at this
          have v6 := XX.cell 6
          have v7 := XX.cell 7
          replace u0 := (K2.cell (World.block_lt_of_cell? _ _ u0)).trans u0
          replace u1 := (K2.cell (World.block_lt_of_cell? _ _ u1)).trans u1
          replace u2 := (K2.cell (World.block_lt_of_cell? _ _ u2)).trans u2
          replace u3 := (K2.cell (World.block_lt_of_cell? _ _ u3)).trans u3
          replace u4 := (K2.cell (World.block_lt_of_cell? _ _ u4)).trans u4
          replace u5 := (K2.cell (World.block_lt_of_cell? _ _ u5)).trans u5
          replace u6 := (K2.cell (World.block_lt_of_cell? _ _ u6)).trans u6
          replace u7 := (K2.cell (World.block_lt_of_cell? _ _ u7)).trans u7
          replace t0 := (K2.cell (World.block_lt_of_cell? _ _ t0)).trans t0
          replace t1 := (K2.cell (World.block_lt_of_cell? _ _ t1)).trans t1
          replace t2 := (K2.cell (World.block_lt_of_cell? _ _ t2)).trans t2
          replace t3 := (K2.cell (World.block_lt_of_cell? _ _ t3)).trans t3
          replace t4 := (K2.cell (World.block_lt_of_cell? _ _ t4)).trans t4
          replace t5 := (K2.cell (World.block_lt_of_cell? _ _ t5)).trans t5
          replace t6 := (K2.cell (World.block_lt_of_cell? _ _ t6)).trans t6
          replace t7 := (K2.cell (World.block_lt_of_cell? _ _ t7)).trans t7
          replace t8 := (K2.cell (World.block_lt_of_cell? _ _ t8)).trans t8
          replace t9 := (K2.cell (World.block_lt_of_cell? _ _ t9)).trans t9
          replace t10 := (K2.cell (World.block_lt_of_cell? _ _ t10)).trans t10
          replace t11 := (K2.cell (World.block_lt_of_cell? _ _ t11)).trans t11
          replace t12 := (K2.cell (World.block_lt_of_cell? _ _ t12)).trans t12
          have HP : picks 0 6 n6 1 kk kl ak vs bk bs bl = ((kk == 1 && decide (kl = 0)) && ak == 1 && (bk == 1 && decide (bl = 0)) && decide (0 ≤ lastI bs vs)) := by simp [picks, q3]
          have hge := (lastI_ge bs vs).1
          obtain ⟨li, hli⟩ : ∃ li, lastI bs vs = li := ⟨_, rfl⟩
          rw [HP]
          rw [hli] at hge ⊢
          have HLI := Hid.mk hli
          obtain ⟨rv, hrv⟩ : ∃ rv, fldV ((kk == 1 && decide (kl = 0)) && ak == 1 && (bk == 1 && decide (bl = 0)) && decide (0 ≤ li)) an li ks = rv := ⟨_, rfl⟩
          rw [hrv]
          have HRV := Hid.mk hrv
          clear SR hcv HK HA XX hk ha K2 HP hli hrv q3
          go_enter Try.func7, Try.ntmps7
          go_wp2
          generalize ((w.alloc (.cells (frm9 ga 0 ca 6 a xm s g4 g5 (some ⟨B, O, none⟩) (some ⟨B2, O2, none⟩) n4 n5 n6 1 c4 c5 c6 c7) 30)).alloc (.cells (exp8 6 a xm s g4 g5 (some ⟨B, O, none⟩) (some ⟨B2, O2, none⟩) n4 n5 n6 1 c4 c5 c6 c7) 28)) = w2 at *
          go_cut [7, 8] from 9 to 92 (fun u v wx => ∃ p q, u = ptr p ∧ v = ptr q ∧ Bx wx p #[.int .i64 kk, .int .i64 ka, .string ks, .int .i64 km, .slice h4 kl z4, .slice h5 m5 z5, .slice h6' m6 z6, .slice h7' m7 z7] 28 ∧ Bx wx q #[.int .i64 ak, .int .i64 aa, .string an, .int .i64 am, .slice gv lv cv, .int .i64 bk, .int .i64 ya, .string (str bs), .int .i64 ym, .slice i4 bl y4, .slice i5 l5 y5, .slice i6 l6 y6, .slice i7 l7 y7] 51 ∧ Below w.heap.size w wx)
          case first =>
            go_region_held3 (fun w' => w'.cell? ⟨w.heap.size + 1, 6, none⟩ = some (.slice (some ⟨B, O, none⟩) n6 c6) ∧ w'.cell? ⟨w.heap.size + 1, 7, none⟩ = some (.slice (some ⟨B2, O2, none⟩) 1 c7) ∧ w'.cell? ⟨B, O, none⟩ = some (.int .i64 kk) ∧ w'.cell? ⟨B, O + 1, none⟩ = some (.int .i64 ka) ∧ w'.cell? ⟨B, O + 2, none⟩ = some (.string ks) ∧ w'.cell? ⟨B, O + 3, none⟩ = some (.int .i64 km) ∧ w'.cell? ⟨B, O + 4, none⟩ = some (.slice h4 kl z4) ∧ w'.cell? ⟨B, O + 5, none⟩ = some (.slice h5 m5 z5) ∧ w'.cell? ⟨B, O + 6, none⟩ = some (.slice h6' m6 z6) ∧ w'.cell? ⟨B, O + 7, none⟩ = some (.slice h7' m7 z7) ∧ w'.cell? ⟨B2, O2, none⟩ = some (.int .i64 ak) ∧ w'.cell? ⟨B2, O2 + 1, none⟩ = some (.int .i64 aa) ∧ w'.cell? ⟨B2, O2 + 2, none⟩ = some (.string an) ∧ w'.cell? ⟨B2, O2 + 3, none⟩ = some (.int .i64 am) ∧ w'.cell? ⟨B2, O2 + 4, none⟩ = some (.slice gv lv cv) ∧ w'.cell? ⟨B2, O2 + 5, none⟩ = some (.int .i64 bk) ∧ w'.cell? ⟨B2, O2 + 6, none⟩ = some (.int .i64 ya) ∧ w'.cell? ⟨B2, O2 + 7, none⟩ = some (.string (str bs)) ∧ w'.cell? ⟨B2, O2 + 8, none⟩ = some (.int .i64 ym) ∧ w'.cell? ⟨B2, O2 + 9, none⟩ = some (.slice i4 bl y4) ∧ w'.cell? ⟨B2, O2 + 10, none⟩ = some (.slice i5 l5 y5) ∧ w'.cell? ⟨B2, O2 + 11, none⟩ = some (.slice i6 l6 y6) ∧ w'.cell? ⟨B2, O2 + 12, none⟩ = some (.slice i7 l7 y7)) (go_keep) (fail)
            all_goals go_wp2
            all_goals go_meet
            all_goals first
              | exact ⟨_, _, rfl, rfl, (by have := heap_alloc_new (w2.alloc (.cells #[.int .i64 ak, .int .i64 aa, .string an, .int .i64 am, .slice gv lv cv, .int .i64 bk, .int .i64 ya, .string (str bs), .int .i64 ym, .slice i4 bl y4, .slice i5 l5 y5, .slice i6 l6 y6, .slice i7 l7 y7] 51)) (.cells #[.int .i64 kk, .int .i64 ka, .string ks, .int .i64 km, .slice h4 kl z4, .slice h5 m5 z5, .slice h6' m6 z6, .slice h7' m7 z7] 28); rw [World.size_alloc] at this; exact this), (by exact ((Joins.below_alloc1 (w2.alloc (.cells #[.int .i64 ak, .int .i64 aa, .string an, .int .i64 am, .slice gv lv cv, .int .i64 bk, .int .i64 ya, .string (str bs), .int .i64 ym, .slice i4 bl y4, .slice i5 l5 y5, .slice i6 l6 y6, .slice i7 l7 y7] 51)) _).block _ (by simp)).trans (heap_alloc_new w2 (.cells #[.int .i64 ak, .int .i64 aa, .string an, .int .i64 am, .slice gv lv cv, .int .i64 bk, .int .i64 ya, .string (str bs), .int .i64 ym, .slice i4 bl y4, .slice i5 l5 y5, .slice i6 l6 y6, .slice i7 l7 y7] 51))), (by exact ((HK2.out.alloc HK2.out.size _).alloc (by simp; have := HK2.out.size; omega) _).drew)⟩
              | exact ⟨_, _, rfl, rfl, (by exact ((Joins.below_alloc1 (w2.alloc (.cells #[.int .i64 kk, .int .i64 ka, .string ks, .int .i64 km, .slice h4 kl z4, .slice h5 m5 z5, .slice h6' m6 z6, .slice h7' m7 z7] 28)) _).block _ (by simp)).trans (heap_alloc_new w2 (.cells #[.int .i64 kk, .int .i64 ka, .string ks, .int .i64 km, .slice h4 kl z4, .slice h5 m5 z5, .slice h6' m6 z6, .slice h7' m7 z7] 28))), (by have := heap_alloc_new (w2.alloc (.cells #[.int .i64 kk, .int .i64 ka, .string ks, .int .i64 km, .slice h4 kl z4, .slice h5 m5 z5, .slice h6' m6 z6, .slice h7' m7 z7] 28)) (.cells #[.int .i64 ak, .int .i64 aa, .string an, .int .i64 am, .slice gv lv cv, .int .i64 bk, .int .i64 ya, .string (str bs), .int .i64 ym, .slice i4 bl y4, .slice i5 l5 y5, .slice i6 l6 y6, .slice i7 l7 y7] 51); rw [World.size_alloc] at this; exact this), (by exact ((HK2.out.alloc HK2.out.size _).alloc (by simp; have := HK2.out.size; omega) _).drew)⟩
          case rest =>
            obtain ⟨pk, pa, rfl, rfl, XK, XA, BC⟩ := hcut
            clear v6 v7 u0 u1 u2 u3 u4 u5 u6 u7 t0 t1 t2 t3 t4 t5 t6 t7 t8 t9 t10 t11 t12 HK2
            have HBC := Hid.mk BC
            have HXA := Hid.mk (fun (W : World) (k : Below wc.heap.size wc W) => XA.later k)
            have HXK := Hid.mk (fun (W : World) (k : Below wc.heap.size wc W) => XK.later k)
            have HBW := Hid.mk (fun (W : World) (k : Below wc.heap.size wc W) => BC.trans (Joins.below_le k BC.size))
            have HL := Hid.mk (fun (W : World) (k : Below wc.heap.size wc W) => HSR.out.1.later (BC.trans (Joins.below_le k BC.size)))
            have k0 := XK.cell 0
            have k2 := XK.cell 2
            have k4 := XK.cell 4
            have a0 := XA.cell 0
            have a2 := XA.cell 2
            have a4 := XA.cell 4
            have a5 := XA.cell 5
            have a7 := XA.cell 7
            have a9 := XA.cell 9
            have hll : lv ≤ 9223372036854775807 := by rw [← hlv]; exact HSR.out.1.1
            have HLV := Hid.mk hlv
            have hcv := HSR.out.2
            clear hlv HSR XA XK BC
            cases b1 : (kk == 1)
            · have p7 : (kk != 1) = true := by rw [bne, b1]; rfl
              have HB1 := Hid.mk b1
              clear b1
              go_wp2
              ((try simp only [Exit.inBlock, Exit.then]); refine bodyPost_ret (results_tmp4 rfl _ _ _) rfl ?_)
              exact ⟨by rw [← HRV.out, HB1.out]; rfl, HBC.out⟩
            · have p7 : (kk != 1) = false := by rw [bne, b1]; rfl
              have HB1 := Hid.mk b1
              clear b1
              by_cases c1 : kl = 0
              · have HC1 : Hid (decide (kl = 0) = true) := ⟨by simp [c1]⟩
                have p8 : ¬ (0 : Int) < kl := by omega
                have p8b : ((kl : Int) > 0) = False := by simp [c1]
                cases b2 : (ak == 1)
                · have p9 : (ak != 1) = true := by rw [bne, b2]; rfl
                  have HB2 := Hid.mk b2
                  clear b2 c1
                  go_wp2
                  ((try simp only [Exit.inBlock, Exit.then]); refine bodyPost_ret (results_tmp4 rfl _ _ _) rfl ?_)
                  exact ⟨by rw [← HRV.out, HB1.out, HC1.out, HB2.out]; rfl, HBC.out⟩
                · have p9 : (ak != 1) = false := by rw [bne, b2]; rfl
                  have HB2 := Hid.mk b2
                  clear b2
                  cases b3 : (bk == 1)
                  · have p10 : (bk != 1) = true := by rw [bne, b3]; rfl
                    have HB3 := Hid.mk b3
                    clear b3 c1
                    go_wp2
                    ((try simp only [Exit.inBlock, Exit.then]); refine bodyPost_ret (results_tmp4 rfl _ _ _) rfl ?_)
                    exact ⟨by rw [← HRV.out, HB1.out, HC1.out, HB2.out, HB3.out]; rfl, HBC.out⟩
                  · have p10 : (bk != 1) = false := by rw [bne, b3]; rfl
                    have HB3 := Hid.mk b3
                    clear b3
                    by_cases c2 : bl = 0
                    · have HC2 : Hid (decide (bl = 0) = true) := ⟨by simp [c2]⟩
                      have p11 : ¬ (0 : Int) < bl := by omega
                      clear c1 c2
                      go_wp2
                      go_loopw [9, 10] (fun t c wr => ∃ i : Nat, c = .int .i64 i ∧ i ≤ lv ∧ ∃ at' : Int, t = .int .i64 at' ∧ Hid (lastI bs (vs.take i) = at') ∧ Hid (Below wc.heap.size wc wr)) (fun _ c _ => lv - (intOf c).toNat)
                      case atStart => exact ⟨0, rfl, Nat.zero_le _, -1, rfl, ⟨by rw [List.take_zero, lastI_nil]⟩, ⟨Below.refl _ _⟩⟩
                      case round =>
                        obtain ⟨i, rfl, hi, at', rfl, HT, HB⟩ := hrel
                        have f4 := (HXA.out _ HB.out).cell 4
                        have f7 := (HXA.out _ HB.out).cell 7
                        have f2 := (HXA.out _ HB.out).cell 2
                        have f2k := (HXK.out _ HB.out).cell 2
                        have HBE := Hid.mk (HBW.out _ HB.out)
                        by_cases hlt : i < lv
                        · have kl' : i < vs.length := by rw [HLV.out]; exact hlt
                          obtain ⟨B3, O3, rfl, hx⟩ := (HL.out _ HB.out).2 (by omega)
                          have c0 := hx i kl'
                          have hst := lastI_snoc bs (vs.take i) (vs[i]'kl')
                          rw [List.take_append_getElem kl', List.length_take, Nat.min_eq_left (by omega)] at hst
                          have qe := str_eqb (vs[i]'kl') bs
                          have hlt' : (i : Int) < lv := by omega
                          have hi0 : (0 : Int) ≤ i := by omega
                          have hle : (i : Int) ≤ lv := by omega
                          cases q : (vs[i]'kl' == bs)
                          · rw [if_neg (by simpa using q), HT.out] at hst
                            rw [q] at qe
                            have HK' := Hid.mk hst
                            clear hst hx q HL HXA HXK
                            generalize str (vs[i]'kl') = tt at *
                            go_wp2
                            go_quiet (fail)
                            all_goals go_wp2
                            all_goals exact ⟨⟨i + 1, by go_num, by omega, at', rfl, HK', ⟨below_drewN HB.out _⟩⟩, by simp [intOf]; omega⟩
                          · rw [if_pos (by simpa using q)] at hst
                            rw [q] at qe
                            have HK' := Hid.mk hst
                            clear hst hx q HL HXA HXK
                            generalize str (vs[i]'kl') = tt at *
                            go_wp2
                            go_quiet (fail)
                            all_goals go_wp2
                            all_goals exact ⟨⟨i + 1, by go_num, by omega, i, rfl, HK', ⟨below_drewN HB.out _⟩⟩, by simp [intOf]; omega⟩
                        · obtain rfl : i = lv := by omega
                          have ha : at' = li := by have := HT.out; rw [List.take_of_length_le (by rw [HLV.out]; omega), HLI.out] at this; exact this.symm
                          subst ha
                          clear HL HXA HXK HT HLI
                          by_cases b4 : 0 ≤ at'
                          · have p12 : ¬ at' < 0 := by omega
                            have HB4 : Hid (decide (0 ≤ at') = true) := ⟨by simp [b4]⟩
                            clear b4
                            go_wp2
                            go_quiet (fail)
                            all_goals go_wp2
                            all_goals ((try simp only [Exit.inBlock, Exit.then]); refine bodyPost_ret (results_tmp4 rfl _ _ _) rfl ?_)
                            all_goals exact ⟨by rw [← HRV.out, HB1.out, HC1.out, HB2.out, HB3.out, HC2.out, HB4.out]; rfl, below_drewN HBE.out _⟩
                          · have p12 : at' < 0 := by omega
                            have HB4 : Hid (decide (0 ≤ at') = false) := ⟨by simp [b4]⟩
                            clear b4
                            go_wp2
                            ((try simp only [Exit.inBlock, Exit.then]); refine bodyPost_ret (results_tmp4 rfl _ _ _) rfl ?_)
                            exact ⟨by rw [← HRV.out, HB1.out, HC1.out, HB2.out, HB3.out, HC2.out, HB4.out]; rfl, HBE.out⟩
                    · have HC2 : Hid (decide (bl = 0) = false) := ⟨by simp [c2]⟩
                      have p11 : (0 : Int) < bl := by omega
                      clear c1 c2
                      go_wp2
                      ((try simp only [Exit.inBlock, Exit.then]); refine bodyPost_ret (results_tmp4 rfl _ _ _) rfl ?_)
                      exact ⟨by rw [← HRV.out, HB1.out, HC1.out, HB2.out, HB3.out, HC2.out]; rfl, HBC.out⟩
              · have HC1 : Hid (decide (kl = 0) = false) := ⟨by simp [c1]⟩
                have p8 : (0 : Int) < kl := by omega
                clear c1
                go_wp2
                ((try simp only [Exit.inBlock, Exit.then]); refine bodyPost_ret (results_tmp4 rfl _ _ _) rfl ?_)
                exact ⟨by rw [← HRV.out, HB1.out, HC1.out]; rfl, HBC.out⟩
        · have e : picks 0 k n6 n7 kk kl ak vs bk bs bl = false := by simp [picks, q4]
          rw [e]
          have p2 : (k != 6) = false := by simp [q2]
          have p3 : ¬ (n6 : Int) < 1 := by omega
          have p4 : ((n7 : Int) != 1) = true := by simp; omega
          clear HK HA K2 e q2 q3 q4
          go_enter Try.func7, Try.ntmps7
          go_wp2
          ((try simp only [Exit.inBlock, Exit.then]); refine bodyPost_ret (results_tmp4 rfl _ _ _) rfl ?_)
          exact ⟨rfl, HK2.out⟩
    · have e : picks 0 k n6 n7 kk kl ak vs bk bs bl = false := by simp [picks, q2]
      rw [e]
      have p2 : (k != 6) = true := by simp [q2]
      clear HK HA K2 e q2
      go_enter Try.func7, Try.ntmps7
      go_wp2
      ((try simp only [Exit.inBlock, Exit.then]); refine bodyPost_ret (results_tmp4 rfl _ _ _) rfl ?_)
      exact ⟨rfl, HK2.out⟩
  · have e : picks la k n6 n7 kk kl ak vs bk bs bl = false := by simp [picks, q1]
    rw [e]
    have p1 : (0 : Int) < la := by omega
    clear HK HA K2 e q1
    go_enter Try.func7, Try.ntmps7
    go_wp2
    ((try simp only [Exit.inBlock, Exit.then]); refine bodyPost_ret (results_tmp4 rfl _ _ _) rfl ?_)
    exact ⟨rfl, HK2.out⟩
end
end Go.Proofs.Ytmlegdnenklkhaa
