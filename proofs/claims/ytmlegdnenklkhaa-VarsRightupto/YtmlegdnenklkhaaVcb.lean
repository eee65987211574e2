/- VarsRight, of a program in memory. -/
import Derived.Test.YtmlegdnenklkhaaVca
namespace Go.Proofs.Ytmlegdnenklkhaa
open Go.RowKit
set_option linter.unusedVariables false
set_option linter.unusedSimpArgs false

theorem nodup_take {l : List Nm} (h : l.Nodup) {k : Nat} (hk : k < l.length) : (l.take k).contains (l[k]'hk) = false := by
  rw [Bool.eq_false_iff]
  intro c
  rw [List.contains_iff_mem] at c
  obtain ⟨i, hi, e⟩ := List.mem_iff_getElem.1 c
  rw [List.length_take] at hi
  rw [List.getElem_take] at e
  exact absurd (List.getElem_inj (h₀ := by omega) (h₁ := hk) h |>.1 e) (by omega)
set_option maxRecDepth 100000 in
set_option maxHeartbeats 8000000 in
theorem right_any (v : Value) (p : Pg) (w : World) (I : isPV w (fun g => g < w.heap.size) p v) (hw : wtP p ≤ 1048576) :
    Calls Try.prog 5 #[v] w fun e w' => e = .returned (.bool true) ∧ Below w.heap.size w w' := by
  obtain ⟨vd, vb, xb, rfl, ID, IB, IBS⟩ := id I
  have HIB := Hid.mk (And.intro IB IBS)
  obtain ⟨gd, cd, rfl, -, -⟩ := ID
  obtain ⟨gb, cb, rfl, hcb, -⟩ := IB
  have hwb : wtBs p.binds ≤ 1048576 := by unfold wtP at hw; omega
  have hnm := nm_wBs p.binds
  have K1 := Joins.below_alloc1 w (.cells #[.slice gd p.datas.length cd, .slice gb p.binds.length cb] 41)
  have X1 : Bx (w.alloc (.cells #[.slice gd p.datas.length cd, .slice gb p.binds.length cb] 41)) w.heap.size #[.slice gd p.datas.length cd, .slice gb p.binds.length cb] 41 := heap_alloc_new w _
  have C1 := check_V (pv_lift I K1) (by omega)
  have HAW := Hid.mk (fun (W : World) => awake_any W)
  have NZ := Hid.mk (nz_check prN tA p)
  have HF := Hid.mk (rfl : checkP prN tA p = checkP prN tA p)
  have RF := Hid.mk (fun (h : checkP prN tA p = none) (nm : Nm) (a : Int) (l : List Nm) (x : E) (hb : B.mk nm a l x ∈ p.binds) => right_free h hb)
  have HOK := Hid.mk (fun (nm : Nm) (a : Int) (l : List Nm) (x : E) (hb : B.mk nm a l x ∈ p.binds) => show okE x ∧ (∀ s ∈ l, s.length ≤ maxLen) ∧ coE x ≤ 1000000000 ∧ l.length ≤ 1000000000 by
    have h1 := wtBs_mem hb
    have h2 := ok_B (.mk nm a l x) (by omega)
    simp only [okB] at h2
    simp only [wtB] at h1
    have h3 := co_wE x
    have h4 := wtN_len l
    exact ⟨h2.2.2, h2.2.1, by omega, by omega⟩)
  have HL : Hid (p.binds.length ≤ 1000000000) := ⟨by omega⟩
  have y0 := X1.cell 0
  have y1 := X1.cell 1
  have HX := Hid.mk X1
  have HK1 := Hid.mk K1
  generalize hF : checkP prN tA p = F at *
  cases F with
  | some r =>
    obtain ⟨ra, rc⟩ := r
    have rc0 : (rc != 0) = true := by have := NZ.out ra rc rfl; simpa using this
    simp only [atF, erF] at C1
    generalize p.datas.length = ld at *
    generalize p.binds.length = lb at *
    clear I K1 X1 HIB RF HOK hF HF NZ IBS hw hwb hnm hcb
    go_enter Try.func5, Try.ntmps5
    go_wp2_with (first
      | (go_at_call 8; have zz := HB3; refine (HAW.out _).mono ?_; rintro e w4 ⟨rfl, B4⟩; have HB4 := Hid.mk (HB3.out.trans (Joins.below_le B4 HB3.out.size)); clear B4)
      | (go_at_call 8; have zz := HB2; refine (HAW.out _).mono ?_; rintro e w3 ⟨rfl, B3⟩; have HB3 := Hid.mk (HB2.out.trans (Joins.below_le B3 HB2.out.size)); clear B3)
      | (go_at_call 13; refine C1.mono ?_; rintro e w2 ⟨rfl, B2⟩; have HB2 := Hid.mk (HK1.out.trans (Joins.below_le B2 HK1.out.size)); clear B2))
    go_ret
    exact ⟨rfl, HB4.out⟩
  | none =>
    simp only [atF, erF] at C1
    have BN := Hid.mk (fun (W : World) (b : Below w.heap.size w W) => bnames_any (w := W) (ok := fun g => g < W.heap.size) p.binds _ xb (HIB.out.1.keeps (keeps_below b (fun g hg => Nat.lt_of_lt_of_le hg b.size))) (isBs_keeps (keeps_below b (fun g hg => Nat.lt_of_lt_of_le hg b.size)) _ _ HIB.out.2))
    have HBX := Hid.mk (fun (W : World) (b : Below (w.alloc (.cells #[.slice gd p.datas.length cd, .slice gb p.binds.length cb] 41)).heap.size (w.alloc (.cells #[.slice gd p.datas.length cd, .slice gb p.binds.length cb] 41)) W) => X1.later b)
    have HLI := Hid.mk (fun (W : World) (b : Below (w.alloc (.cells #[.slice gd p.datas.length cd, .slice gb p.binds.length cb] 41)).heap.size (w.alloc (.cells #[.slice gd p.datas.length cd, .slice gb p.binds.length cb] 41)) W) => show Below w.heap.size w W from K1.trans (Joins.below_le b K1.size))
    replace RF := Hid.mk (RF.out rfl)
    obtain ⟨names, hnames⟩ : ∃ ns, p.binds.map nameB' = ns := ⟨_, rfl⟩
    have HNL : Hid (names.length ≤ 1000000000) := ⟨by rw [← hnames, List.length_map]; exact HL.out⟩
    rw [hnames] at BN RF
    clear I K1 X1 hF HF NZ IBS hw hwb hnm hnames
    generalize hlb : p.binds.length = lb at *
    have HLB := Hid.mk hlb
    clear hlb
    generalize p.datas.length = ld at *
    go_enter Try.func5, Try.ntmps5
    go_wp2_with (first
      | (go_at_call 14; refine (BN.out _ (HLI.out _ B3.out)).mono ?_; rintro e w4 ⟨all, rfl, b4, N4⟩; have B4 := Hid.mk (B3.out.trans (Joins.below_le b4 B3.out.size)); obtain ⟨gA, cA, rfl⟩ := N4.form; have HN4 := Hid.mk N4; have x1 := (HBX.out _ B4.out).cell 1; clear b4 N4)
      | (go_at_call 8; have zz := B2; refine (HAW.out _).mono ?_; rintro e w3 ⟨rfl, b3⟩; have B3 := Hid.mk (B2.out.trans (Joins.below_le b3 B2.out.size)); have z1 := (HBX.out _ B3.out).cell 1; clear b3)
      | (go_at_call 13; refine C1.mono ?_; rintro e w2 ⟨rfl, b2⟩; have B2 := Hid.mk b2; clear b2))
    have HN5 := Hid.mk (fun (W : World) (b : Below w4.heap.size w4 W) => HN4.out.below b)
    have HBT := Hid.mk (fun (W : World) (b : Below w4.heap.size w4 W) => B4.out.trans (Joins.below_le b B4.out.size))
    generalize hna : names.length = na at *
    have HNA := Hid.mk hna
    clear hna HN4 HAW C1 BN HX HK1 y0 y1 z1
    go_loopw [6] (fun c wr => ∃ i : Nat, c = .int .i64 i ∧ i ≤ lb ∧ Hid (Below w4.heap.size w4 wr)) (fun c _ => lb - (intOf c).toNat)
    case atStart => exact ⟨0, rfl, Nat.zero_le _, ⟨Below.refl _ _⟩⟩
    case round =>
      obtain ⟨i, rfl, hi, HW⟩ := hrel
      have x1' := (HBX.out _ (HBT.out _ HW.out)).cell 1
      have bw := HLI.out _ (HBT.out _ HW.out)
      by_cases hlt : i < lb
      · have kl : i < p.binds.length := by rw [HLB.out]; exact hlt
        have kp : Keeps (fun g => g < w.heap.size) (fun g => g < wr.heap.size) w wr := keeps_below bw (fun g hg => Nat.lt_of_lt_of_le hg bw.size)
        obtain ⟨ga', cap', e, _, hx⟩ := HIB.out.1.keeps kp
        simp only [Value.slice.injEq] at e
        obtain ⟨rfl, _, rfl⟩ := e
        obtain ⟨g, off, rfl, hg, hx⟩ := hx (by omega)
        obtain ⟨d, hd, hgd⟩ := isBs_get p.binds xb (isBs_keeps kp _ _ HIB.out.2) i kl
        have hmem := List.getElem_mem kl
        generalize p.binds[i]'kl = bj at *
        obtain ⟨nm, na', l, x⟩ := bj
        simp only [isB] at hd
        obtain ⟨va, dx, rfl, IA, IX⟩ := hd
        obtain ⟨okx, okl, hco, hll⟩ := HOK.out nm na' l x hmem
        have C := free_any l x wr va dx IA IX okx okl hco
        have hin := RF.out nm na' l x hmem
        have hnd := freeF_nodup l x
        have hco' : coE x ≤ 1000000000 := hco
        obtain ⟨xk, xa, xm, xs, h4, h5, h6, h7, m4, m5, m6, m7, z4, z5, z6, z7, rfl⟩ := isE_eight IX
        obtain ⟨ga, ca, rfl, hca, -⟩ := IA
        have bl : ∀ (j : Nat) (u : Value), (bnd11 (str nm) na' ga l.length ca xk xa xm xs h4 h5 h6 h7 m4 m5 m6 m7 z4 z5 z6 z7)[j]? = some u → wr.cell? ⟨g, off + i * 11 + j, none⟩ = some u := fun j u hj => by
          have h0 := hx _ _ (hgd j u (by simpa using hj))
          rwa [← Nat.add_assoc] at h0
        have d2 := bl 2 _ rfl
        have d3 := bl 3 _ rfl
        have d4 := bl 4 _ rfl
        have d5 := bl 5 _ rfl
        have d6 := bl 6 _ rfl
        have d7 := bl 7 _ rfl
        have d8 := bl 8 _ rfl
        have d9 := bl 9 _ rfl
        have d10 := bl 10 _ rfl
        have hlt' : (i : Int) < lb := by omega
        have hi0 : (0 : Int) ≤ i := by omega
        have HIN := Hid.mk (And.intro hin (And.intro hnd (show (freeF l x).length ≤ coE x → (freeF l x).length ≤ 1000000000 from fun h => Nat.le_trans h hco')))
        generalize freeF l x = fl at *
        generalize coE x = cx at *
        generalize l.length = nl at *
        clear hx hgd bl kp bw IX okx okl hco hco' hll hmem hin hnd RF HOK
        go_wp2_with (go_at_call 11; refine C.mono ?_; rintro e w7 ⟨r, rfl, b7, R7, L7⟩; obtain ⟨gr, cr, rfl, hcr, hr⟩ := id R7; have B7 := Hid.mk (HW.out.trans (Joins.below_le b7 HW.out.size)); have HR7 := Hid.mk R7; clear b7 R7 hr C)
        generalize hnf : fl.length = nf at *
        have HNF := Hid.mk hnf
        clear hnf
        go_loopw [8] (fun c ws => ∃ k : Nat, c = .int .i64 k ∧ k ≤ nf ∧ Hid (Below w7.heap.size w7 ws)) (fun c _ => nf - (intOf c).toNat)
        case atStart => exact ⟨0, rfl, Nat.zero_le _, ⟨Below.refl _ _⟩⟩
        case round =>
          obtain ⟨k, rfl, hk, HS⟩ := hrel
          by_cases hlt2 : k < nf
          · have klf : k < fl.length := by rw [HNF.out]; exact hlt2
            have RS := HR7.out.keeps (keeps_below (ok' := fun g => g < wr.heap.size) HS.out (fun g hg => Nat.lt_of_lt_of_le hg.2 HS.out.size))
            rw [← HNF.out] at RS
            have HC2 := Hid.mk (fun (W : World) (b : Below wr.heap.size wr W) => has15_any (w := W) (ok := fun g => g < wr.heap.size) (fl.take k) (.slice gr k cr) ((take_row RS (by omega)).keeps (keeps_below b (fun _ h => h))) (fl[k]'klf))
            rw [nodup_take HIN.out.2.1 klf] at HC2
            have bq := B7.out.trans (Joins.below_le HS.out B7.out.size)
            have HC1 := Hid.mk (fun (W : World) (b : Below wr.heap.size wr W) => has15_any (w := W) (ok := fun _ => True) names (.slice gA na cA) ((HN5.out W (bq.trans (Joins.below_le b bq.size))).row (by rw [HNA.out]; exact HNL.out) (fun _ _ => trivial)) (fl[k]'klf))
            rw [HIN.out.1 _ (List.getElem_mem klf)] at HC1
            have HBQ := Hid.mk HS.out
            obtain ⟨gr', cr', e, _, hx⟩ := RS
            simp only [Value.slice.injEq] at e
            obtain ⟨rfl, _, rfl⟩ := e
            obtain ⟨g3, off3, rfl, _, hx⟩ := hx (by omega)
            have c0 := hx k _ (strC_get fl k klf)
            have hk0 : (0 : Int) ≤ k := by omega
            have hk1 : (k : Int) < nf := by omega
            have hk2 : (k : Int) ≤ nf := by omega
            have hk3 : (k : Int) ≤ cr := by omega
            have hk4 : ¬ (nf : Int) ≤ k := by omega
            generalize str (fl[k]'klf) = t at *
            clear hx bq HR7 HIN HS
            go_wp2
            go_region_held3 (fun w' => w'.cell? ⟨g3, off3 + k, none⟩ = some (.string t)) (go_keep) (first
              | (go_at_call_of 15 (Value.slice gA na cA); refine (HC1.out _ (Below.refl _ _).drew).mono ?_; rintro e w9 ⟨rfl, rfl⟩)
              | (go_at_call 15; refine (HC2.out _ (Below.refl _ _).drew).mono ?_; rintro e w9 ⟨rfl, rfl⟩))
            all_goals go_wp2
            all_goals exact ⟨⟨k + 1, by go_num, by omega, ⟨HBQ.out.drew⟩⟩, by simp [intOf]; omega⟩
          · obtain rfl : k = nf := by omega
            have HE := Hid.mk (B7.out.trans (Joins.below_le HS.out B7.out.size))
            clear HR7 HS
            go_wp2
            exact ⟨⟨i + 1, by go_num, by omega, HE⟩, by simp [intOf]; omega⟩
      · obtain rfl : i = lb := by omega
        have HE := Hid.mk bw
        clear bw HIB
        go_wp2
        go_ret
        exact ⟨rfl, HE.out⟩
end Go.Proofs.Ytmlegdnenklkhaa
