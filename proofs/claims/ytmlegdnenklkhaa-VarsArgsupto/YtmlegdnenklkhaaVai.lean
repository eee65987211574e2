/- Package vars' reader: every expression. -/
import Derived.Test.YtmlegdnenklkhaaVah
namespace Go.Proofs.Ytmlegdnenklkhaa
open Go.RowKit
open Go.Maps (Keyed string_keyed)
set_option linter.unusedVariables false
set_option linter.unusedSimpArgs false

set_option maxRecDepth 100000 in
set_option maxHeartbeats 8000000 in
theorem vexp_any (k a xm : Int) (s : Nm) (ts : List Atm) (bs : List B) (ks : List E) (al : List A) (HB : ∀ x ∈ bs, RB x) (HK : ∀ x ∈ ks, RE x) (HA : ∀ x ∈ al, RA x) : RE (.mk k a s xm ts bs ks al) := by
  intro w b p q n bd fr v d h I ok hn
  simp only [isE] at I
  obtain ⟨vt, vb, vk, va, xb, xk, xa, rfl, IT, R5, IB, R6, IK, R7, IA⟩ := I
  simp only [okE] at ok
  simp only [coE] at hn ⊢
  rw [fvE.eq_1]
  have HT := Hid.mk IT
  have H5 := Hid.mk R5
  have H6 := Hid.mk R6
  have H7 := Hid.mk R7
  obtain ⟨g4, c4, rfl, hc4, _⟩ := IT
  obtain ⟨g5, c5, rfl, hc5, _⟩ := R5
  obtain ⟨g6, c6, rfl, hc6, _⟩ := R6
  obtain ⟨g7, c7, rfl, hc7, _⟩ := R7
  have K1 := Joins.below_alloc1 w (.cells #[.int .i64 k, .int .i64 a, .string (str s), .int .i64 xm, .slice g4 ts.length c4, .slice g5 bs.length c5, .slice g6 ks.length c6, .slice g7 al.length c7] 28)
  have F1 : Fe b p q v.ownBlock v.ownBlock w (w.alloc (.cells #[.int .i64 k, .int .i64 a, .string (str s), .int .i64 xm, .slice g4 ts.length c4, .slice g5 bs.length c5, .slice g6 ks.length c6, .slice g7 al.length c7] 28)) := Fe.of_below K1
  have R1 := h.later K1
  have X1 : Bx (w.alloc (.cells #[.int .i64 k, .int .i64 a, .string (str s), .int .i64 xm, .slice g4 ts.length c4, .slice g5 bs.length c5, .slice g6 ks.length c6, .slice g7 al.length c7] 28)) w.heap.size #[.int .i64 k, .int .i64 a, .string (str s), .int .i64 xm, .slice g4 ts.length c4, .slice g5 bs.length c5, .slice g6 ks.length c6, .slice g7 al.length c7] 28 := heap_alloc_new w _
  have Q1 : Qk b p q v.ownBlock (w.alloc (.cells #[.int .i64 k, .int .i64 a, .string (str s), .int .i64 xm, .slice g4 ts.length c4, .slice g5 bs.length c5, .slice g6 ks.length c6, .slice g7 al.length c7] 28)).heap.size w.heap.size := h.new (Nat.le_refl _) (by simp)
  have HX := Hid.mk (And.intro X1 Q1)
  have HF1 := Hid.mk F1
  have HR1 := Hid.mk R1
  have y0 := X1.cell 0
  by_cases k1 : k = 1
  · rw [if_pos k1]
    have C1 := vname_any R1 s ok.1 (by omega)
    have C2 := Hid.mk (fun (W : World) (vW : Value) (FW : Fe b p q v.ownBlock vW.ownBlock w W) (RW : Rs W b p q (n + 1) bd (putN (scD bd) s fr) vW) => vatoms_any RW ts _ (HT.out.keeps FW.keeps) ok.2.1 (by omega))
    have q1 : (k == 1) = true := by rw [k1]; rfl
    have y2 := X1.cell 2
    have HN := Hid.mk hn
    generalize fvT (scD bd) ts (putN (scD bd) s fr) = fr2 at *
    generalize ts.length = l4 at *
    generalize bs.length = l5 at *
    generalize ks.length = l6 at *
    generalize al.length = l7 at *
    clear h IB IK IA ok HB HK HA hn K1 F1 X1 Q1 k1 R1 HT H5 H6 H7
    go_enter Try.func26, Try.ntmps26
    go_wp2_with (first
      | (go_at_call 32; refine (C2.out _ _ HF8.out HR8.out).mono ?_; intro e w9 H9; obtain ⟨v9, rfl, F9, R9⟩ := H9; have HF9 := Hid.mk (HF8.out.trans F9); have HR9 := Hid.mk R9; clear F9 R9)
      | (go_at_call 31; refine C1.mono ?_; intro e w8 H8; obtain ⟨v8, rfl, F8, R8⟩ := H8; have z4 := (HX.out.1.fe F8 HX.out.2).cell 4; have HF8 := Hid.mk (HF1.out.trans F8); have HR8 := Hid.mk R8; clear F8 R8))
    go_end0
    exact ⟨v9, rfl, HF9.out, HR9.out.mono (by omega)⟩
  · rw [if_neg k1]
    have q1 : (k == 1) = false := beq_eq_false_iff_ne.2 k1
    by_cases k23 : k = 2 ∨ k = 3
    · have ef : (if k = 2 then fvT (scD bd) ts fr else if k = 3 then fvT (scD bd) ts fr else if k = 5 then fvK (fun x => scD bd x || (bs.map nameB').contains x) ks (fvBs (fun x => scD bd x || (bs.map nameB').contains x) bs fr) else if k = 6 then fvAs (scD bd) al (fvK (scD bd) ks fr) else fr) = fvT (scD bd) ts fr := by
        rcases k23 with e | e
        · rw [if_pos e]
        · rw [if_neg (by omega), if_pos e]
      rw [ef]
      have C2 := vatoms_any R1 ts _ (HT.out.keeps F1.keeps) ok.2.1 (by omega)
      have y4 := X1.cell 4
      have q23 : (k == 2) = true ∨ ((k == 2) = false ∧ (k == 3) = true) := by
        rcases k23 with e | e
        · left; rw [e]; rfl
        · right; rw [e]; exact ⟨rfl, rfl⟩
      generalize fvT (scD bd) ts fr = fr2 at *
      generalize ts.length = l4 at *
      generalize bs.length = l5 at *
      generalize ks.length = l6 at *
      generalize al.length = l7 at *
      clear h IB IK IA ok HB HK HA K1 F1 X1 Q1 k1 R1 HT H5 H6 H7 k23 ef HX
      rcases q23 with q2 | ⟨q2, q3⟩
      all_goals go_enter Try.func26, Try.ntmps26
      all_goals go_wp2_with (go_at_call 32; refine C2.mono ?_; intro e w9 H9; obtain ⟨v9, rfl, F9, R9⟩ := H9; have HF9 := Hid.mk (HF1.out.trans F9); have HR9 := Hid.mk R9; clear F9 R9)
      all_goals go_end0
      all_goals exact ⟨v9, rfl, HF9.out, HR9.out.mono (by omega)⟩
    · have n2 : k ≠ 2 := fun e => k23 (.inl e)
      have n3 : k ≠ 3 := fun e => k23 (.inr e)
      rw [if_neg n2, if_neg n3]
      have q2 : (k == 2) = false := beq_eq_false_iff_ne.2 n2
      have q3 : (k == 3) = false := beq_eq_false_iff_ne.2 n3
      by_cases k5 : k = 5
      · rw [if_pos k5]
        have C := vlet_any bs ks HB HK R1 k a xm (str s) g4 g7 ts.length al.length c4 c7 _ _ xb xk (H5.out.keeps F1.keeps) (isBs_keeps F1.keeps _ _ IB) (H6.out.keeps F1.keeps) (isEs_keeps F1.keeps _ _ IK) ok.2.2.1 ok.2.2.2.1 (by omega)
        have q5 : (k == 5) = true := by rw [k5]; rfl
        have y1 := X1.cell 1
        have y2 := X1.cell 2
        have y3 := X1.cell 3
        have y4 := X1.cell 4
        have y5 := X1.cell 5
        have y6 := X1.cell 6
        have y7 := X1.cell 7
        generalize fvK (fun x => scD bd x || (bs.map nameB').contains x) ks (fvBs (fun x => scD bd x || (bs.map nameB').contains x) bs fr) = fr2 at *
        generalize ts.length = l4 at *
        generalize bs.length = l5 at *
        generalize ks.length = l6 at *
        generalize al.length = l7 at *
        clear h IB IK IA ok HB HK HA K1 F1 X1 Q1 k1 R1 HT H5 H6 H7 k23 n2 n3 k5 HX
        go_enter Try.func26, Try.ntmps26
        go_wp2_with (go_at_call 33; refine C.mono ?_; intro e w9 H9; obtain ⟨v9, rfl, F9, R9⟩ := H9; have HF9 := Hid.mk (HF1.out.trans F9); have HR9 := Hid.mk R9; clear F9 R9)
        go_end0
        exact ⟨v9, rfl, HF9.out, HR9.out.mono (by omega)⟩
      · rw [if_neg k5]
        have q5 : (k == 5) = false := beq_eq_false_iff_ne.2 k5
        by_cases k6 : k = 6
        · rw [if_pos k6]
          have C1 := vfirst_any ks HK R1 _ xk (H6.out.keeps F1.keeps) (isEs_keeps F1.keeps _ _ IK) ok.2.2.2.1 (by omega)
          have C2 := Hid.mk (fun (W : World) (vW : Value) (FW : Fe b p q v.ownBlock vW.ownBlock w W) (RW : Rs W b p q (n + coEs ks) bd (fvK (scD bd) ks fr) vW) => valts_any al HA RW _ xa (H7.out.keeps FW.keeps) (isAs_keeps FW.keeps _ _ IA) ok.2.2.2.2 (by omega))
          have q6 : (k == 6) = true := by rw [k6]; rfl
          have y6 := X1.cell 6
          generalize fvAs (scD bd) al (fvK (scD bd) ks fr) = fr2 at *
          generalize ts.length = l4 at *
          generalize bs.length = l5 at *
          generalize ks.length = l6 at *
          generalize al.length = l7 at *
          clear h IB IK IA ok HB HK HA K1 F1 X1 Q1 k1 R1 HT H5 H6 H7 k23 n2 n3 k5 k6
          go_enter Try.func26, Try.ntmps26
          go_wp2_with (first
            | (go_at_call 35; refine (C2.out _ _ HF8.out HR8.out).mono ?_; intro e w9 H9; obtain ⟨v9, rfl, F9, R9⟩ := H9; have HF9 := Hid.mk (HF8.out.trans F9); have HR9 := Hid.mk R9; clear F9 R9)
            | (go_at_call 34; refine C1.mono ?_; intro e w8 H8; obtain ⟨v8, rfl, F8, R8⟩ := H8; have z7 := (HX.out.1.fe F8 HX.out.2).cell 7; have HF8 := Hid.mk (HF1.out.trans F8); have HR8 := Hid.mk R8; clear F8 R8))
          go_end0
          exact ⟨v9, rfl, HF9.out, HR9.out.mono (by omega)⟩
        · rw [if_neg k6]
          have q6 : (k == 6) = false := beq_eq_false_iff_ne.2 k6
          generalize ts.length = l4 at *
          generalize bs.length = l5 at *
          generalize ks.length = l6 at *
          generalize al.length = l7 at *
          clear h IB IK IA ok HB HK HA K1 F1 X1 Q1 k1 R1 HT H5 H6 H7 k23 n2 n3 k5 k6 HX
          go_enter Try.func26, Try.ntmps26
          go_wp2
          go_end0
          exact ⟨v, rfl, HF1.out, HR1.out.mono (by omega)⟩
mutual
theorem RE_all : ∀ x : E, RE x
  | .mk k a s xm ts bs ks al => vexp_any k a xm s ts bs ks al (RBs_all bs) (REs_all ks) (RAs_all al)
theorem RBs_all : ∀ l : List B, ∀ x ∈ l, RB x
  | [], x, h => by cases h
  | .mk n a l y :: r, x, h => by
    rcases List.mem_cons.1 h with e | e
    · rw [e]; exact RE_all y
    · exact RBs_all r x e
theorem REs_all : ∀ l : List E, ∀ x ∈ l, RE x
  | [], x, h => by cases h
  | y :: r, x, h => by
    rcases List.mem_cons.1 h with e | e
    · rw [e]; exact RE_all y
    · exact REs_all r x e
theorem RAs_all : ∀ l : List A, ∀ x ∈ l, RA x
  | [], x, h => by cases h
  | .mk k a n m vs y :: r, x, h => by
    rcases List.mem_cons.1 h with e | e
    · rw [e]; exact RE_all y
    · exact RAs_all r x e
end
end Go.Proofs.Ytmlegdnenklkhaa
