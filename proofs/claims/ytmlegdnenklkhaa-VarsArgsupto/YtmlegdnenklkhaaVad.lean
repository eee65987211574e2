/- Package vars' reader: what is read with some more names bound around it. -/
import Derived.Test.YtmlegdnenklkhaaVac
namespace Go.Proofs.Ytmlegdnenklkhaa
open Go.RowKit
open Go.Maps (Keyed string_keyed)
set_option linter.unusedVariables false
set_option linter.unusedSimpArgs false

section
variable {w w' : World} {b p q n : Nat} {bd : Nm → Nat} {fr : List Nm} {v : Value}
set_option maxHeartbeats 2000000 in
theorem around43 (h : Rs w b p q n bd fr v) (l : List Nm) (vl : Value) (R : IsRow w (Qk b p q v.ownBlock w.heap.size) (strC l) l.length vl) (hl : ∀ s ∈ l, s.length ≤ maxLen) (m : Nat) (hn : n + l.length + m + l.length ≤ 1000000000) (u0 u1 : Value) (fr' : List Nm)
    (C : ∀ (W : World) (vW : Value), Fe b p q v.ownBlock vW.ownBlock w W → Rs W b p q (n + l.length) (plus bd l) fr vW → Calls Try.prog 43 #[u0, u1] W (Out W b p q (n + l.length + m) (plus bd l) fr' vW)) :
    Calls Try.prog 42 #[ptr b, .func (.func 43) #[] #[u0, u1], vl] w (Out w b p q (n + l.length + m + l.length) bd fr' v) := by
  have HR := Hid.mk R
  obtain ⟨ga, cap, rfl, hc, hx⟩ := R
  have HL := Hid.mk hl
  obtain ⟨k, hk⟩ : ∃ k, l.length = k := ⟨_, rfl⟩
  have HN := Hid.mk hk
  rw [hk] at hc hn HR C ⊢
  have HC := Hid.mk C
  have H0 := Hid.mk h
  clear hx hl hk h C
  go_enter Try.func42, Try.ntmps42
  go_wp2
  go_loopw [12] (fun c wr => ∃ i : Nat, c = .int .i64 i ∧ i ≤ k ∧ Hid (Fe b p q v.ownBlock v.ownBlock w wr) ∧ Hid (Rs wr b p q (n + i) (plus bd (l.take i)) fr v)) (fun c _ => k - (intOf c).toNat)
  case atStart => exact ⟨0, rfl, Nat.zero_le _, ⟨Fe.refl _ _ _ _ _⟩, ⟨by rw [List.take_zero, plus_nil]; exact H0.out⟩⟩
  case round =>
    obtain ⟨i, rfl, hi, FW, RW⟩ := hrel
    by_cases hlt : i < k
    · have kl : i < l.length := by rw [HN.out]; exact hlt
      obtain ⟨ga', cap', e, _, hx⟩ := HR.out.keeps FW.out.keeps
      simp only [Value.slice.injEq] at e
      obtain ⟨rfl, _, rfl⟩ := e
      obtain ⟨g, off, rfl, hg, hx⟩ := hx (by omega)
      have c0 := hx i _ (strC_get l i kl)
      have hs : (l[i]'kl).length ≤ maxLen := HL.out _ (List.getElem_mem kl)
      have c1 : wr.cell? ⟨b, 0, none⟩ = some (.map (some p)) := RW.out.cell 0
      obtain ⟨gm, ⟨D, hD, q1⟩, q2⟩ := RW.out.bs
      have hat0 := (q1 (l[i]'kl)).2
      rw [(q2 _).1] at hat0
      have H := Hid.mk hat0
      have HQ := Hid.mk q1
      have HQ2 := Hid.mk q2
      have hlt' : (i : Int) < k := by omega
      have HP := Hid.mk (plus_take bd l i kl)
      generalize l[i]'kl = s at *
      clear q1 q2 hat0 hx H0 HR HC
      go_wp2_with (first
        | (at_lookup; refine wpList_lookup_own_int _ rfl _ _ 66 rfl 9 3 .i64 law9 Try.underlying66 Try.underlying3 (zero3 _) p (n + i) D rfl hD _ _ rfl (key_str hs) ?_; intro c hat hwc; have HCC : Hid (c = (plus bd (l.take i) s : Int)) := ⟨by have := hat.symm.trans H.out; cases this; rfl⟩; clear hat)
        | (at_mapUpdate; refine wpList_mapUpdate_own _ rfl _ _ _ 66 rfl 9 3 law9 Try.underlying66 _ p (n + i) _ rfl hD (by unfold maxLen; omega) _ _ _ rfl rfl (key_str hs) _ [] (plainElem_int Try.underlying3 (wrap64_wf _)) ?_; intro w1 hown1 hgrow1))
      have e := HP.out s
      rw [if_pos rfl] at e
      have l1 := (HQ2.out s).2
      have M1 : Mb w1 p (n + i + 1) (plus bd (l.take (i + 1))) := Mb.put HQ.out HQ2.out hD.isMap hown1 (fun x hx => by rw [HP.out x, if_neg hx]) (by rw [HCC.out, e]; unfold wrap64; omega) (by omega)
      exact ⟨⟨i + 1, by go_num, by omega, ⟨FW.out.trans (Fe.of_map (.inl rfl) hgrow1)⟩, ⟨RW.out.bound M1 hgrow1⟩⟩, by simp [intOf]; omega⟩
    · obtain rfl : i = k := by omega
      have RW1 : Rs wr b p q (n + i) (plus bd l) fr v := by
        have := RW.out
        rwa [List.take_of_length_le (by rw [HN.out]; omega)] at this
      have CW := HC.out wr v FW.out RW1
      clear RW1 RW H0 HC
      go_wp2_with (go_at_call 43; refine CW.mono ?_; intro e w8 H8; obtain ⟨v8, rfl, F8, R8⟩ := H8; have HF := Hid.mk (FW.out.trans F8); have HRR := Hid.mk R8; clear F8 R8 CW)
      have HR2 := Hid.mk (HR.out.keeps HF.out.keeps)
      clear FW HR
      go_loopw [28] (fun c wt => ∃ j : Nat, c = .int .i64 j ∧ j ≤ i ∧ Hid (Fe b p q v8.ownBlock v8.ownBlock w8 wt) ∧ Hid (Rs wt b p q (n + i + m + j) (plus bd (l.drop j)) fr' v8)) (fun c _ => i - (intOf c).toNat)
      case atStart => exact ⟨0, rfl, Nat.zero_le _, ⟨Fe.refl _ _ _ _ _⟩, ⟨by rw [List.drop_zero]; exact HRR.out⟩⟩
      case round =>
        obtain ⟨j, rfl, hj, FW, RW⟩ := hrel
        by_cases hlt : j < i
        · have kl : j < l.length := by rw [HN.out]; exact hlt
          obtain ⟨ga', cap', e, _, hx⟩ := HR2.out.keeps FW.out.keeps
          simp only [Value.slice.injEq] at e
          obtain ⟨rfl, _, rfl⟩ := e
          obtain ⟨g, off, rfl, hg, hx⟩ := hx (by omega)
          have c0 := hx j _ (strC_get l j kl)
          have hs : (l[j]'kl).length ≤ maxLen := HL.out _ (List.getElem_mem kl)
          have c1 := RW.out.cell 0
          obtain ⟨gm, ⟨D, hD, q1⟩, q2⟩ := RW.out.bs
          have hat0 := (q1 (l[j]'kl)).2
          rw [(q2 _).1] at hat0
          have H := Hid.mk hat0
          have HQ := Hid.mk q1
          have HQ2 := Hid.mk q2
          have hlt' : (j : Int) < i := by omega
          have HP := Hid.mk (plus_drop bd l j kl)
          generalize l[j]'kl = s at *
          clear q1 q2 hat0 hx HR2 HRR
          go_wp2_with (first
            | (at_lookup; refine wpList_lookup_own_int _ rfl _ _ 66 rfl 9 3 .i64 law9 Try.underlying66 Try.underlying3 (zero3 _) p (n + i + m + j) D rfl hD _ _ rfl (key_str hs) ?_; intro c hat hwc; have HCC : Hid (c = (plus bd (l.drop j) s : Int)) := ⟨by have := hat.symm.trans H.out; cases this; rfl⟩; clear hat)
            | (at_mapUpdate; refine wpList_mapUpdate_own _ rfl _ _ _ 66 rfl 9 3 law9 Try.underlying66 _ p (n + i + m + j) _ rfl hD (by unfold maxLen; omega) _ _ _ rfl rfl (key_str hs) _ [] (plainElem_int Try.underlying3 (wrap64_wf _)) ?_; intro w1 hown1 hgrow1))
          have e := HP.out s
          rw [if_pos rfl] at e
          have l1 := (HQ2.out s).2
          have M1 : Mb w1 p (n + i + m + j + 1) (plus bd (l.drop (j + 1))) := Mb.put HQ.out HQ2.out hD.isMap hown1 (fun x hx => by rw [HP.out x, if_neg hx]) (by rw [HCC.out, e]; unfold wrap64; omega) (by omega)
          exact ⟨⟨j + 1, by go_num, by omega, ⟨FW.out.trans (Fe.of_map (.inl rfl) hgrow1)⟩, ⟨RW.out.bound M1 hgrow1⟩⟩, by simp [intOf]; omega⟩
        · obtain rfl : j = i := by omega
          have RW1 := RW.out
          rw [List.drop_eq_nil_of_le (by rw [HN.out]; omega), plus_nil] at RW1
          have HE := Hid.mk RW1
          clear RW1 RW HR2 HRR
          go_wp2
          go_end0
          exact ⟨v8, rfl, HF.out.trans FW.out, HE.out⟩
set_option maxHeartbeats 2000000 in
theorem around44 (h : Rs w b p q n bd fr v) (l : List Nm) (vl : Value) (R : IsRow w (Qk b p q v.ownBlock w.heap.size) (strC l) l.length vl) (hl : ∀ s ∈ l, s.length ≤ maxLen) (m : Nat) (hn : n + l.length + m + l.length ≤ 1000000000) (u0 u1 : Value) (fr' : List Nm)
    (C : ∀ (W : World) (vW : Value), Fe b p q v.ownBlock vW.ownBlock w W → Rs W b p q (n + l.length) (plus bd l) fr vW → Calls Try.prog 44 #[u0, u1] W (Out W b p q (n + l.length + m) (plus bd l) fr' vW)) :
    Calls Try.prog 42 #[ptr b, .func (.func 44) #[] #[u0, u1], vl] w (Out w b p q (n + l.length + m + l.length) bd fr' v) := by
  have HR := Hid.mk R
  obtain ⟨ga, cap, rfl, hc, hx⟩ := R
  have HL := Hid.mk hl
  obtain ⟨k, hk⟩ : ∃ k, l.length = k := ⟨_, rfl⟩
  have HN := Hid.mk hk
  rw [hk] at hc hn HR C ⊢
  have HC := Hid.mk C
  have H0 := Hid.mk h
  clear hx hl hk h C
  go_enter Try.func42, Try.ntmps42
  go_wp2
  go_loopw [12] (fun c wr => ∃ i : Nat, c = .int .i64 i ∧ i ≤ k ∧ Hid (Fe b p q v.ownBlock v.ownBlock w wr) ∧ Hid (Rs wr b p q (n + i) (plus bd (l.take i)) fr v)) (fun c _ => k - (intOf c).toNat)
  case atStart => exact ⟨0, rfl, Nat.zero_le _, ⟨Fe.refl _ _ _ _ _⟩, ⟨by rw [List.take_zero, plus_nil]; exact H0.out⟩⟩
  case round =>
    obtain ⟨i, rfl, hi, FW, RW⟩ := hrel
    by_cases hlt : i < k
    · have kl : i < l.length := by rw [HN.out]; exact hlt
      obtain ⟨ga', cap', e, _, hx⟩ := HR.out.keeps FW.out.keeps
      simp only [Value.slice.injEq] at e
      obtain ⟨rfl, _, rfl⟩ := e
      obtain ⟨g, off, rfl, hg, hx⟩ := hx (by omega)
      have c0 := hx i _ (strC_get l i kl)
      have hs : (l[i]'kl).length ≤ maxLen := HL.out _ (List.getElem_mem kl)
      have c1 : wr.cell? ⟨b, 0, none⟩ = some (.map (some p)) := RW.out.cell 0
      obtain ⟨gm, ⟨D, hD, q1⟩, q2⟩ := RW.out.bs
      have hat0 := (q1 (l[i]'kl)).2
      rw [(q2 _).1] at hat0
      have H := Hid.mk hat0
      have HQ := Hid.mk q1
      have HQ2 := Hid.mk q2
      have hlt' : (i : Int) < k := by omega
      have HP := Hid.mk (plus_take bd l i kl)
      generalize l[i]'kl = s at *
      clear q1 q2 hat0 hx H0 HR HC
      go_wp2_with (first
        | (at_lookup; refine wpList_lookup_own_int _ rfl _ _ 66 rfl 9 3 .i64 law9 Try.underlying66 Try.underlying3 (zero3 _) p (n + i) D rfl hD _ _ rfl (key_str hs) ?_; intro c hat hwc; have HCC : Hid (c = (plus bd (l.take i) s : Int)) := ⟨by have := hat.symm.trans H.out; cases this; rfl⟩; clear hat)
        | (at_mapUpdate; refine wpList_mapUpdate_own _ rfl _ _ _ 66 rfl 9 3 law9 Try.underlying66 _ p (n + i) _ rfl hD (by unfold maxLen; omega) _ _ _ rfl rfl (key_str hs) _ [] (plainElem_int Try.underlying3 (wrap64_wf _)) ?_; intro w1 hown1 hgrow1))
      have e := HP.out s
      rw [if_pos rfl] at e
      have l1 := (HQ2.out s).2
      have M1 : Mb w1 p (n + i + 1) (plus bd (l.take (i + 1))) := Mb.put HQ.out HQ2.out hD.isMap hown1 (fun x hx => by rw [HP.out x, if_neg hx]) (by rw [HCC.out, e]; unfold wrap64; omega) (by omega)
      exact ⟨⟨i + 1, by go_num, by omega, ⟨FW.out.trans (Fe.of_map (.inl rfl) hgrow1)⟩, ⟨RW.out.bound M1 hgrow1⟩⟩, by simp [intOf]; omega⟩
    · obtain rfl : i = k := by omega
      have RW1 : Rs wr b p q (n + i) (plus bd l) fr v := by
        have := RW.out
        rwa [List.take_of_length_le (by rw [HN.out]; omega)] at this
      have CW := HC.out wr v FW.out RW1
      clear RW1 RW H0 HC
      go_wp2_with (go_at_call 44; refine CW.mono ?_; intro e w8 H8; obtain ⟨v8, rfl, F8, R8⟩ := H8; have HF := Hid.mk (FW.out.trans F8); have HRR := Hid.mk R8; clear F8 R8 CW)
      have HR2 := Hid.mk (HR.out.keeps HF.out.keeps)
      clear FW HR
      go_loopw [28] (fun c wt => ∃ j : Nat, c = .int .i64 j ∧ j ≤ i ∧ Hid (Fe b p q v8.ownBlock v8.ownBlock w8 wt) ∧ Hid (Rs wt b p q (n + i + m + j) (plus bd (l.drop j)) fr' v8)) (fun c _ => i - (intOf c).toNat)
      case atStart => exact ⟨0, rfl, Nat.zero_le _, ⟨Fe.refl _ _ _ _ _⟩, ⟨by rw [List.drop_zero]; exact HRR.out⟩⟩
      case round =>
        obtain ⟨j, rfl, hj, FW, RW⟩ := hrel
        by_cases hlt : j < i
        · have kl : j < l.length := by rw [HN.out]; exact hlt
          obtain ⟨ga', cap', e, _, hx⟩ := HR2.out.keeps FW.out.keeps
          simp only [Value.slice.injEq] at e
          obtain ⟨rfl, _, rfl⟩ := e
          obtain ⟨g, off, rfl, hg, hx⟩ := hx (by omega)
          have c0 := hx j _ (strC_get l j kl)
          have hs : (l[j]'kl).length ≤ maxLen := HL.out _ (List.getElem_mem kl)
          have c1 := RW.out.cell 0
          obtain ⟨gm, ⟨D, hD, q1⟩, q2⟩ := RW.out.bs
          have hat0 := (q1 (l[j]'kl)).2
          rw [(q2 _).1] at hat0
          have H := Hid.mk hat0
          have HQ := Hid.mk q1
          have HQ2 := Hid.mk q2
          have hlt' : (j : Int) < i := by omega
          have HP := Hid.mk (plus_drop bd l j kl)
          generalize l[j]'kl = s at *
          clear q1 q2 hat0 hx HR2 HRR
          go_wp2_with (first
            | (at_lookup; refine wpList_lookup_own_int _ rfl _ _ 66 rfl 9 3 .i64 law9 Try.underlying66 Try.underlying3 (zero3 _) p (n + i + m + j) D rfl hD _ _ rfl (key_str hs) ?_; intro c hat hwc; have HCC : Hid (c = (plus bd (l.drop j) s : Int)) := ⟨by have := hat.symm.trans H.out; cases this; rfl⟩; clear hat)
            | (at_mapUpdate; refine wpList_mapUpdate_own _ rfl _ _ _ 66 rfl 9 3 law9 Try.underlying66 _ p (n + i + m + j) _ rfl hD (by unfold maxLen; omega) _ _ _ rfl rfl (key_str hs) _ [] (plainElem_int Try.underlying3 (wrap64_wf _)) ?_; intro w1 hown1 hgrow1))
          have e := HP.out s
          rw [if_pos rfl] at e
          have l1 := (HQ2.out s).2
          have M1 : Mb w1 p (n + i + m + j + 1) (plus bd (l.drop (j + 1))) := Mb.put HQ.out HQ2.out hD.isMap hown1 (fun x hx => by rw [HP.out x, if_neg hx]) (by rw [HCC.out, e]; unfold wrap64; omega) (by omega)
          exact ⟨⟨j + 1, by go_num, by omega, ⟨FW.out.trans (Fe.of_map (.inl rfl) hgrow1)⟩, ⟨RW.out.bound M1 hgrow1⟩⟩, by simp [intOf]; omega⟩
        · obtain rfl : j = i := by omega
          have RW1 := RW.out
          rw [List.drop_eq_nil_of_le (by rw [HN.out]; omega), plus_nil] at RW1
          have HE := Hid.mk RW1
          clear RW1 RW HR2 HRR
          go_wp2
          go_end0
          exact ⟨v8, rfl, HF.out.trans FW.out, HE.out⟩
set_option maxHeartbeats 2000000 in
theorem around46 (h : Rs w b p q n bd fr v) (l : List Nm) (vl : Value) (R : IsRow w (Qk b p q v.ownBlock w.heap.size) (strC l) l.length vl) (hl : ∀ s ∈ l, s.length ≤ maxLen) (m : Nat) (hn : n + l.length + m + l.length ≤ 1000000000) (u0 u1 : Value) (fr' : List Nm)
    (C : ∀ (W : World) (vW : Value), Fe b p q v.ownBlock vW.ownBlock w W → Rs W b p q (n + l.length) (plus bd l) fr vW → Calls Try.prog 46 #[u0, u1] W (Out W b p q (n + l.length + m) (plus bd l) fr' vW)) :
    Calls Try.prog 42 #[ptr b, .func (.func 46) #[] #[u0, u1], vl] w (Out w b p q (n + l.length + m + l.length) bd fr' v) := by
  have HR := Hid.mk R
  obtain ⟨ga, cap, rfl, hc, hx⟩ := R
  have HL := Hid.mk hl
  obtain ⟨k, hk⟩ : ∃ k, l.length = k := ⟨_, rfl⟩
  have HN := Hid.mk hk
  rw [hk] at hc hn HR C ⊢
  have HC := Hid.mk C
  have H0 := Hid.mk h
  clear hx hl hk h C
  go_enter Try.func42, Try.ntmps42
  go_wp2
  go_loopw [12] (fun c wr => ∃ i : Nat, c = .int .i64 i ∧ i ≤ k ∧ Hid (Fe b p q v.ownBlock v.ownBlock w wr) ∧ Hid (Rs wr b p q (n + i) (plus bd (l.take i)) fr v)) (fun c _ => k - (intOf c).toNat)
  case atStart => exact ⟨0, rfl, Nat.zero_le _, ⟨Fe.refl _ _ _ _ _⟩, ⟨by rw [List.take_zero, plus_nil]; exact H0.out⟩⟩
  case round =>
    obtain ⟨i, rfl, hi, FW, RW⟩ := hrel
    by_cases hlt : i < k
    · have kl : i < l.length := by rw [HN.out]; exact hlt
      obtain ⟨ga', cap', e, _, hx⟩ := HR.out.keeps FW.out.keeps
      simp only [Value.slice.injEq] at e
      obtain ⟨rfl, _, rfl⟩ := e
      obtain ⟨g, off, rfl, hg, hx⟩ := hx (by omega)
      have c0 := hx i _ (strC_get l i kl)
      have hs : (l[i]'kl).length ≤ maxLen := HL.out _ (List.getElem_mem kl)
      have c1 : wr.cell? ⟨b, 0, none⟩ = some (.map (some p)) := RW.out.cell 0
      obtain ⟨gm, ⟨D, hD, q1⟩, q2⟩ := RW.out.bs
      have hat0 := (q1 (l[i]'kl)).2
      rw [(q2 _).1] at hat0
      have H := Hid.mk hat0
      have HQ := Hid.mk q1
      have HQ2 := Hid.mk q2
      have hlt' : (i : Int) < k := by omega
      have HP := Hid.mk (plus_take bd l i kl)
      generalize l[i]'kl = s at *
      clear q1 q2 hat0 hx H0 HR HC
      go_wp2_with (first
        | (at_lookup; refine wpList_lookup_own_int _ rfl _ _ 66 rfl 9 3 .i64 law9 Try.underlying66 Try.underlying3 (zero3 _) p (n + i) D rfl hD _ _ rfl (key_str hs) ?_; intro c hat hwc; have HCC : Hid (c = (plus bd (l.take i) s : Int)) := ⟨by have := hat.symm.trans H.out; cases this; rfl⟩; clear hat)
        | (at_mapUpdate; refine wpList_mapUpdate_own _ rfl _ _ _ 66 rfl 9 3 law9 Try.underlying66 _ p (n + i) _ rfl hD (by unfold maxLen; omega) _ _ _ rfl rfl (key_str hs) _ [] (plainElem_int Try.underlying3 (wrap64_wf _)) ?_; intro w1 hown1 hgrow1))
      have e := HP.out s
      rw [if_pos rfl] at e
      have l1 := (HQ2.out s).2
      have M1 : Mb w1 p (n + i + 1) (plus bd (l.take (i + 1))) := Mb.put HQ.out HQ2.out hD.isMap hown1 (fun x hx => by rw [HP.out x, if_neg hx]) (by rw [HCC.out, e]; unfold wrap64; omega) (by omega)
      exact ⟨⟨i + 1, by go_num, by omega, ⟨FW.out.trans (Fe.of_map (.inl rfl) hgrow1)⟩, ⟨RW.out.bound M1 hgrow1⟩⟩, by simp [intOf]; omega⟩
    · obtain rfl : i = k := by omega
      have RW1 : Rs wr b p q (n + i) (plus bd l) fr v := by
        have := RW.out
        rwa [List.take_of_length_le (by rw [HN.out]; omega)] at this
      have CW := HC.out wr v FW.out RW1
      clear RW1 RW H0 HC
      go_wp2_with (go_at_call 46; refine CW.mono ?_; intro e w8 H8; obtain ⟨v8, rfl, F8, R8⟩ := H8; have HF := Hid.mk (FW.out.trans F8); have HRR := Hid.mk R8; clear F8 R8 CW)
      have HR2 := Hid.mk (HR.out.keeps HF.out.keeps)
      clear FW HR
      go_loopw [28] (fun c wt => ∃ j : Nat, c = .int .i64 j ∧ j ≤ i ∧ Hid (Fe b p q v8.ownBlock v8.ownBlock w8 wt) ∧ Hid (Rs wt b p q (n + i + m + j) (plus bd (l.drop j)) fr' v8)) (fun c _ => i - (intOf c).toNat)
      case atStart => exact ⟨0, rfl, Nat.zero_le _, ⟨Fe.refl _ _ _ _ _⟩, ⟨by rw [List.drop_zero]; exact HRR.out⟩⟩
      case round =>
        obtain ⟨j, rfl, hj, FW, RW⟩ := hrel
        by_cases hlt : j < i
        · have kl : j < l.length := by rw [HN.out]; exact hlt
          obtain ⟨ga', cap', e, _, hx⟩ := HR2.out.keeps FW.out.keeps
          simp only [Value.slice.injEq] at e
          obtain ⟨rfl, _, rfl⟩ := e
          obtain ⟨g, off, rfl, hg, hx⟩ := hx (by omega)
          have c0 := hx j _ (strC_get l j kl)
          have hs : (l[j]'kl).length ≤ maxLen := HL.out _ (List.getElem_mem kl)
          have c1 := RW.out.cell 0
          obtain ⟨gm, ⟨D, hD, q1⟩, q2⟩ := RW.out.bs
          have hat0 := (q1 (l[j]'kl)).2
          rw [(q2 _).1] at hat0
          have H := Hid.mk hat0
          have HQ := Hid.mk q1
          have HQ2 := Hid.mk q2
          have hlt' : (j : Int) < i := by omega
          have HP := Hid.mk (plus_drop bd l j kl)
          generalize l[j]'kl = s at *
          clear q1 q2 hat0 hx HR2 HRR
          go_wp2_with (first
            | (at_lookup; refine wpList_lookup_own_int _ rfl _ _ 66 rfl 9 3 .i64 law9 Try.underlying66 Try.underlying3 (zero3 _) p (n + i + m + j) D rfl hD _ _ rfl (key_str hs) ?_; intro c hat hwc; have HCC : Hid (c = (plus bd (l.drop j) s : Int)) := ⟨by have := hat.symm.trans H.out; cases this; rfl⟩; clear hat)
            | (at_mapUpdate; refine wpList_mapUpdate_own _ rfl _ _ _ 66 rfl 9 3 law9 Try.underlying66 _ p (n + i + m + j) _ rfl hD (by unfold maxLen; omega) _ _ _ rfl rfl (key_str hs) _ [] (plainElem_int Try.underlying3 (wrap64_wf _)) ?_; intro w1 hown1 hgrow1))
          have e := HP.out s
          rw [if_pos rfl] at e
          have l1 := (HQ2.out s).2
          have M1 : Mb w1 p (n + i + m + j + 1) (plus bd (l.drop (j + 1))) := Mb.put HQ.out HQ2.out hD.isMap hown1 (fun x hx => by rw [HP.out x, if_neg hx]) (by rw [HCC.out, e]; unfold wrap64; omega) (by omega)
          exact ⟨⟨j + 1, by go_num, by omega, ⟨FW.out.trans (Fe.of_map (.inl rfl) hgrow1)⟩, ⟨RW.out.bound M1 hgrow1⟩⟩, by simp [intOf]; omega⟩
        · obtain rfl : j = i := by omega
          have RW1 := RW.out
          rw [List.drop_eq_nil_of_le (by rw [HN.out]; omega), plus_nil] at RW1
          have HE := Hid.mk RW1
          clear RW1 RW HR2 HRR
          go_wp2
          go_end0
          exact ⟨v8, rfl, HF.out.trans FW.out, HE.out⟩
end
end Go.Proofs.Ytmlegdnenklkhaa
