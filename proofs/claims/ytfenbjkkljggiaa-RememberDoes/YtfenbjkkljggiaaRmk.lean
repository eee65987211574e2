/- The document's Put. -/
import Derived.Test.YtfenbjkkljggiaaRmj
namespace Go.Proofs.Ytfenbjkkljggiaa
open Go.RowKit
set_option linter.unusedVariables false
set_option linter.unusedSimpArgs false

theorem fold_take (x : Int) (r : List Int) (k : Nat) (h : k < r.length) : (r.take (k + 1)).foldl (stepP x) ([], false) = stepP x ((r.take k).foldl (stepP x) ([], false)) r[k] := by
  rw [List.take_succ_eq_append_getElem h, List.foldl_append]; rfl
set_option maxRecDepth 100000 in
set_option maxHeartbeats 4000000 in
theorem rput_any {lo : Nat} {w : World} {x ob n : Nat} {V : Nat → Value} {L : Nat → List Int} (h : Rs lo w x ob n V L) (gen at' : Int) :
    Calls Try.prog 21 #[pv x, .int .i64 gen, .int .i64 at'] w fun e w' => e = .returned (.int .i64 (flt n gen at')) ∧ ∃ V', Rs lo w' x ob n V' (putS n L gen at') ∧ Kp XR lo w w' := by
  have FT := rwrong_any h gen at'
  unfold putS
  by_cases hf : flt n gen at' = 0
  · obtain ⟨hi', ha⟩ := flt_zero hf
    obtain ⟨q0, q1⟩ := isl_yes hi'
    obtain ⟨i, rfl⟩ : ∃ i : Nat, gen = i := ⟨gen.toNat, by omega⟩
    have hin : i < n := by omega
    rw [if_pos hf, Int.toNat_natCast]
    rw [hf] at FT ⊢
    have c0 := h.c0
    have c1 := h.c1 i hin
    have hgd := h.gd i hin
    have LS := less_any (h.rows i hin) (by have := hgd.len; omega) at'
    obtain ⟨v, hv⟩ : ∃ v, V i = v := ⟨_, rfl⟩
    rw [hv] at c1 LS
    have hll := (hgd.les at').len
    have HH := Hid.mk h
    have HA := Hid.mk ha
    have HPI := Hid.mk (put_is (L i) at')
    have HGP := Hid.mk (hgd.put ha)
    generalize les (L i) at' = r at *
    obtain ⟨m, hm⟩ : ∃ m, r.length = m := ⟨_, rfl⟩
    have HM := Hid.mk hm
    rw [hm] at hll
    clear h ha hf hi' hv hgd
    obtain ⟨i0, hi, hz0, hz1, hz2⟩ := info_parts info3
    go_enter Try.func21, Try.ntmps21
    go_wp2_with (first
      | (go_at_call 29; refine FT.mono ?_; rintro e w0 ⟨rfl, hw⟩; rw [hw]; clear hw FT)
      | (go_at_call 30; refine LS.mono ?_; rintro e w1 ⟨v1, rfl, S1, B1⟩; have HS1 := Hid.mk S1; have BW := Hid.mk B1; clear S1 B1 LS))
    obtain ⟨ga0, ca0, hv1, hcs⟩ := sl_form HS1.out
    rw [hm] at hv1 hcs
    subst hv1
    have HCS := Hid.mk hcs
    clear hcs hm
    go_loopw [11, 8, 9] (fun iv o d wr => ∃ (k q : Nat) (ga : Option Addr) (cap : Nat) (st : List Int × Bool), k ≤ m ∧ iv = .int .i64 (k : Int) ∧ o = .slice ga q cap ∧ d = .bool st.2 ∧ q ≤ k + 1 ∧ (st.2 = false → q ≤ k) ∧ Hid (RowS wr w1.heap.size 3 1 (.slice ga q cap) q (ints st.1)) ∧ Hid (st.1.length = q ∧ st = (r.take k).foldl (stepP at') ([], false)) ∧ Hid (Below w1.heap.size w1 wr)) (fun iv _ _ _ => m - (RowKit.intOf iv).toNat)
    case atStart => exact ⟨0, 0, none, 0, ([], false), Nat.zero_le _, rfl, rfl, rfl, by omega, fun _ => Nat.le_refl _, ⟨.inl ⟨rfl, rfl, _, rfl⟩⟩, ⟨rfl, rfl⟩, ⟨Below.refl _ _⟩⟩
    case round =>
      obtain ⟨k, q, ga, cap, st, hk, rfl, rfl, rfl, hq, hqf0, HR, HY, HB⟩ := hrel
      have HQF := Hid.mk hqf0
      clear hqf0
      by_cases hlt : k < m
      · obtain ⟨g, rfl, ck⟩ := HCS.out k hlt
        have ck0 := Hid.mk ck
        have ck := old_cells ck HB.out
        have hlt' : (k : Int) < m := by omega
        have hl : k < r.length := by rw [HM.out]; exact hlt
        have hz0' : r.getD k 0 = r[k] := by simp [List.getD_eq_getElem?_getD, List.getElem?_eq_getElem hl]
        have HT := Hid.mk (fold_take at' r k hl)
        rw [hz0'] at ck ck0
        obtain ⟨z, hz⟩ : ∃ z, r[k] = z := ⟨_, rfl⟩
        rw [hz] at ck ck0 HT
        clear hz hz0' hl
        have hT1 : (r.take (k + 1)).foldl (stepP at') ([], false) = stepP at' st z := by rw [HT.out, ← HY.out.2]
        have HT1 := Hid.mk hT1
        clear hT1 HT
        cases hd : st.2 with
        | true =>
          have HT2 : Hid ((st.1 ++ [z], st.2) = (r.take (k + 1)).foldl (stepP at') ([], false)) := ⟨by rw [HT1.out]; simp [stepP, hd]⟩
          have HRl : Hid (RowS (wr.alloc (Obj.cells #[.int .i64 z] 3)) w1.heap.size 3 1 (.slice ga q cap) q (ints st.1)) := ⟨HR.out.below ((Below.refl _ _).alloc (Nat.le_refl _) _)⟩
          go_wp2_with (at_builtin; refine wpList_append_T rfl _ _ 36 rfl w1.heap.size 3 i0 (.int .i64 0) 1 8 Try.underlying36 hi hz0 hz1 hz2 rfl (by decide) (.slice ga q cap) (q) (ints (st.1)) rfl HRl.out (some ⟨wr.heap.size, 0, none⟩) 1 1 [.int .i64 z] rfl rfl (fun _ => ⟨_, rfl, news_new wr z⟩) (one_new z) (q + 1) rfl (ints (st.1 ++ [z])) (by simp [ints]) (by unfold maxLen; omega) (by omega) (by have := HB.out.size; simp; omega) ?_; intro ga1 cap1 w5 hown5 hgr5; have HB5 := Hid.mk (row_below HR.out HB.out HB.out.size hgr5); have HO5 := Hid.mk hown5; clear hown5 hgr5 HRl)
          go_roundw
          case rel => exact ⟨k + 1, q + 1, ga1, cap1, (st.1 ++ [z], st.2), by omega, by go_num, by first | rfl | go_num, by first | rfl | simp [hd], by omega, fun q' => by have := HQF.out q'; omega, HO5, ⟨by simp [HY.out.1], HT2.out⟩, HB5⟩
          case measure => simp [RowKit.intOf]; omega
        | false =>
          by_cases hzx : at' < z
          · have hgt : z > at' := hzx
            have HT2 : Hid ((st.1 ++ [at'] ++ [z], true) = (r.take (k + 1)).foldl (stepP at') ([], false)) := ⟨by rw [HT1.out]; simp [stepP, hd, hzx]⟩
            have HRl : Hid (RowS (wr.alloc (Obj.cells #[.int .i64 at'] 3)) w1.heap.size 3 1 (.slice ga q cap) q (ints st.1)) := ⟨HR.out.below ((Below.refl _ _).alloc (Nat.le_refl _) _)⟩
            go_wp2_with (first
              | (at_builtin; refine wpList_append_T rfl _ _ 36 rfl w1.heap.size 3 i0 (.int .i64 0) 1 8 Try.underlying36 hi hz0 hz1 hz2 rfl (by decide) (.slice ga q cap) (q) (ints (st.1)) rfl HRl.out (some ⟨wr.heap.size, 0, none⟩) 1 1 [.int .i64 at'] rfl rfl (fun _ => ⟨_, rfl, news_new wr at'⟩) (one_new at') (q + 1) rfl (ints (st.1 ++ [at'])) (by simp [ints]) (by unfold maxLen; omega) (by omega) (by have := HB.out.size; simp; omega) ?_; intro ga1 cap1 w5 hown5 hgr5; have HB5 := Hid.mk (row_below HR.out HB.out HB.out.size hgr5); have HO5 := Hid.mk hown5; have ck5 := old_cells ck0.out HB5.out; have HO5l : Hid (RowS (w5.alloc (Obj.cells #[.int .i64 z] 3)) w1.heap.size 3 1 (.slice ga1 (q + 1) cap1) (q + 1) (ints (st.1 ++ [at']))) := ⟨HO5.out.below ((Below.refl _ _).alloc (Nat.le_refl _) _)⟩; clear hown5 hgr5 HRl)
              | (at_builtin; refine wpList_append_T rfl _ _ 36 rfl w1.heap.size 3 i0 (.int .i64 0) 1 8 Try.underlying36 hi hz0 hz1 hz2 rfl (by decide) (.slice ga1 (q + 1) cap1) (q + 1) (ints (st.1 ++ [at'])) rfl HO5l.out (some ⟨w5.heap.size, 0, none⟩) 1 1 [.int .i64 z] rfl rfl (fun _ => ⟨_, rfl, news_new w5 z⟩) (one_new z) (q + 1 + 1) rfl (ints (st.1 ++ [at'] ++ [z])) (by simp [ints]) (by unfold maxLen; omega) (by omega) (by have := HB5.out.size; simp; omega) ?_; intro ga2 cap2 w6 hown6 hgr6; have HB6 := Hid.mk (row_below HO5.out HB5.out HB5.out.size hgr6); have HO6 := Hid.mk hown6; clear hown6 hgr6 HO5l))
            go_roundw
            case rel => exact ⟨k + 1, q + 1 + 1, ga2, cap2, (st.1 ++ [at'] ++ [z], true), by omega, by go_num, by first | rfl | go_num, rfl, by have := HQF.out hd; omega, fun q' => (by cases q'), HO6, ⟨by simp [HY.out.1], HT2.out⟩, HB6⟩
            case measure => simp [RowKit.intOf]; omega
          · have hgt : ¬ z > at' := hzx
            have HT2 : Hid ((st.1 ++ [z], st.2) = (r.take (k + 1)).foldl (stepP at') ([], false)) := ⟨by rw [HT1.out]; simp [stepP, hzx]⟩
            have HRl : Hid (RowS (wr.alloc (Obj.cells #[.int .i64 z] 3)) w1.heap.size 3 1 (.slice ga q cap) q (ints st.1)) := ⟨HR.out.below ((Below.refl _ _).alloc (Nat.le_refl _) _)⟩
            go_wp2_with (at_builtin; refine wpList_append_T rfl _ _ 36 rfl w1.heap.size 3 i0 (.int .i64 0) 1 8 Try.underlying36 hi hz0 hz1 hz2 rfl (by decide) (.slice ga q cap) (q) (ints (st.1)) rfl HRl.out (some ⟨wr.heap.size, 0, none⟩) 1 1 [.int .i64 z] rfl rfl (fun _ => ⟨_, rfl, news_new wr z⟩) (one_new z) (q + 1) rfl (ints (st.1 ++ [z])) (by simp [ints]) (by unfold maxLen; omega) (by omega) (by have := HB.out.size; simp; omega) ?_; intro ga1 cap1 w5 hown5 hgr5; have HB5 := Hid.mk (row_below HR.out HB.out HB.out.size hgr5); have HO5 := Hid.mk hown5; clear hown5 hgr5 HRl)
            go_roundw
            case rel => exact ⟨k + 1, q + 1, ga1, cap1, (st.1 ++ [z], st.2), by omega, by go_num, by first | rfl | go_num, by first | rfl | simp [hd], by omega, fun q' => by have := HQF.out q'; omega, HO5, ⟨by simp [HY.out.1], HT2.out⟩, HB5⟩
            case measure => simp [RowKit.intOf]; omega
      · obtain rfl : k = m := by omega
        have hlt' : ¬ (k : Int) < (k : Int) := by omega
        have hend : st = r.foldl (stepP at') ([], false) := by
          have := HY.out.2
          rwa [List.take_of_length_le (by rw [HM.out]; exact Nat.le_refl _)] at this
        have HE := Hid.mk (show finP at' st = putL (L i) at' by rw [hend]; exact HPI.out)
        clear hend
        cases hd : st.2 with
        | true =>
          have HR5 := Hid.mk (HH.out.later (BW.out.trans (HB.out.mono BW.out.size)))
          have d0 := HR5.out.c0
          have d1 := HR5.out.c1 i hin
          have dz := HR5.out.z i
          go_wp2
          go_ret
          have S5 : Sl wr (.slice ga q cap) (putL (L i) at') := by
            rw [← HE.out, show finP at' st = st.1 by simp [finP, hd]]
            exact sl_ofS (by rw [HY.out.1]; exact HR.out)
          have SW := HH.out.swap hin (BW.out.trans (HB.out.mono BW.out.size)) S5 HGP.out
          exact ⟨rfl, ⟨_, SW.1⟩, SW.2⟩
        | false =>
          have HRl : Hid (RowS (wr.alloc (Obj.cells #[.int .i64 at'] 3)) w1.heap.size 3 1 (.slice ga q cap) q (ints st.1)) := ⟨HR.out.below ((Below.refl _ _).alloc (Nat.le_refl _) _)⟩
          go_wp2_with (at_builtin; refine wpList_append_T rfl _ _ 36 rfl w1.heap.size 3 i0 (.int .i64 0) 1 8 Try.underlying36 hi hz0 hz1 hz2 rfl (by decide) (.slice ga q cap) (q) (ints (st.1)) rfl HRl.out (some ⟨wr.heap.size, 0, none⟩) 1 1 [.int .i64 at'] rfl rfl (fun _ => ⟨_, rfl, news_new wr at'⟩) (one_new at') (q + 1) rfl (ints (st.1 ++ [at'])) (by simp [ints]) (by unfold maxLen; omega) (by omega) (by have := HB.out.size; simp; omega) ?_; intro ga1 cap1 w5 hown5 hgr5; have HB5 := Hid.mk (row_below HR.out HB.out HB.out.size hgr5); have HO5 := Hid.mk hown5; have HR5 := Hid.mk (HH.out.later (BW.out.trans (HB5.out.mono BW.out.size))); have d0 := HR5.out.c0; have d1 := HR5.out.c1 i hin; have dz := HR5.out.z i; clear hown5 hgr5 HRl)
          go_ret
          have S5 : Sl w5 (.slice ga1 (q + 1) cap1) (putL (L i) at') := by
            rw [← HE.out, show finP at' st = st.1 ++ [at'] by simp [finP, hd]]
            exact sl_ofS (by rw [List.length_append, HY.out.1]; exact HO5.out)
          have SW := HH.out.swap hin (BW.out.trans (HB5.out.mono BW.out.size)) S5 HGP.out
          exact ⟨rfl, ⟨_, SW.1⟩, SW.2⟩
  · rw [if_neg hf]
    have hb : (flt n gen at' != 0) = true := by simpa using hf
    generalize flt n gen at' = e' at *
    clear hf
    go_enter Try.func21, Try.ntmps21
    go_wp2_with (go_at_call 29; refine FT.mono ?_; rintro e w1 ⟨rfl, hw⟩; rw [hw]; clear hw)
    go_ret
    exact ⟨rfl, _, h, Kp.refl _ _ _⟩
end Go.Proofs.Ytfenbjkkljggiaa
