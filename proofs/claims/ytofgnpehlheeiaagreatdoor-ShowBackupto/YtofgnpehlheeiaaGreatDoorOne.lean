/- The document's own words, signs and numbers. -/
import Derived.Test.YtofgnpehlheeiaaGreatDoorNumber
namespace Go.Proofs.YtofgnpehlheeiaaGreatDoor
open Go.RowKit
set_option linter.unusedVariables false

theorem reserved_any (t : ByteArray) (w : World) : Calls Tryz.prog 47 #[.string t] w fun e w' => e = .returned (.bool (resv t.data.toList)) ∧ w' = w := by
  rw [← ByteArray.toList_eq]
  by_cases h0 : t.toList = [108, 101, 116]
  · rw [show resv t.toList = true by rw [h0]; rfl]
    go_enter Tryz.func47, Tryz.ntmps47
    go_wp2
    go_ret
    exact ⟨rfl, rfl⟩
  by_cases h1 : t.toList = [105, 110]
  · rw [show resv t.toList = true by rw [h1]; rfl]
    go_enter Tryz.func47, Tryz.ntmps47
    go_wp2
    go_ret
    exact ⟨rfl, rfl⟩
  by_cases h2 : t.toList = [99, 97, 115, 101]
  · rw [show resv t.toList = true by rw [h2]; rfl]
    go_enter Tryz.func47, Tryz.ntmps47
    go_wp2
    go_ret
    exact ⟨rfl, rfl⟩
  by_cases h3 : t.toList = [111, 102]
  · rw [show resv t.toList = true by rw [h3]; rfl]
    go_enter Tryz.func47, Tryz.ntmps47
    go_wp2
    go_ret
    exact ⟨rfl, rfl⟩
  by_cases h4 : t.toList = [100, 97, 116, 97]
  · rw [show resv t.toList = true by rw [h4]; rfl]
    go_enter Tryz.func47, Tryz.ntmps47
    go_wp2
    go_ret
    exact ⟨rfl, rfl⟩
  rw [show resv t.toList = false by simp [resv, h0, h1, h2, h3, h4]]
  have z0 : (t.toList == [108, 101, 116]) = false := by simp [h0]
  have z1 : (t.toList == [105, 110]) = false := by simp [h1]
  have z2 : (t.toList == [99, 97, 115, 101]) = false := by simp [h2]
  have z3 : (t.toList == [111, 102]) = false := by simp [h3]
  have z4 : (t.toList == [100, 97, 116, 97]) = false := by simp [h4]
  clear h0 h1 h2 h3 h4
  go_enter Tryz.func47, Tryz.ntmps47
  go_wp2
  go_ret
  exact ⟨rfl, rfl⟩
theorem rsign_any (t : ByteArray) (w : World) : Calls Tryz.prog 51 #[.string t] w fun e w' => e = .returned (.bool (signB t.data.toList)) ∧ w' = w := by
  rw [← ByteArray.toList_eq]
  by_cases h0 : t.toList = [45, 62]
  · rw [show signB t.toList = true by rw [h0]; rfl]
    go_enter Tryz.func51, Tryz.ntmps51
    go_wp2
    go_ret
    exact ⟨rfl, rfl⟩
  by_cases h1 : t.toList = [61]
  · rw [show signB t.toList = true by rw [h1]; rfl]
    go_enter Tryz.func51, Tryz.ntmps51
    go_wp2
    go_ret
    exact ⟨rfl, rfl⟩
  by_cases h2 : t.toList = [92]
  · rw [show signB t.toList = true by rw [h2]; rfl]
    go_enter Tryz.func51, Tryz.ntmps51
    go_wp2
    go_ret
    exact ⟨rfl, rfl⟩
  by_cases h3 : t.toList = [123]
  · rw [show signB t.toList = true by rw [h3]; rfl]
    go_enter Tryz.func51, Tryz.ntmps51
    go_wp2
    go_ret
    exact ⟨rfl, rfl⟩
  by_cases h4 : t.toList = [125]
  · rw [show signB t.toList = true by rw [h4]; rfl]
    go_enter Tryz.func51, Tryz.ntmps51
    go_wp2
    go_ret
    exact ⟨rfl, rfl⟩
  by_cases h5 : t.toList = [59]
  · rw [show signB t.toList = true by rw [h5]; rfl]
    go_enter Tryz.func51, Tryz.ntmps51
    go_wp2
    go_ret
    exact ⟨rfl, rfl⟩
  by_cases h6 : t.toList = [40]
  · rw [show signB t.toList = true by rw [h6]; rfl]
    go_enter Tryz.func51, Tryz.ntmps51
    go_wp2
    go_ret
    exact ⟨rfl, rfl⟩
  by_cases h7 : t.toList = [41]
  · rw [show signB t.toList = true by rw [h7]; rfl]
    go_enter Tryz.func51, Tryz.ntmps51
    go_wp2
    go_ret
    exact ⟨rfl, rfl⟩
  rw [show signB t.toList = false by simp [signB, h0, h1, h2, h3, h4, h5, h6, h7]]
  have z0 : (t.toList == [45, 62]) = false := by simp [h0]
  have z1 : (t.toList == [61]) = false := by simp [h1]
  have z2 : (t.toList == [92]) = false := by simp [h2]
  have z3 : (t.toList == [123]) = false := by simp [h3]
  have z4 : (t.toList == [125]) = false := by simp [h4]
  have z5 : (t.toList == [59]) = false := by simp [h5]
  have z6 : (t.toList == [40]) = false := by simp [h6]
  have z7 : (t.toList == [41]) = false := by simp [h7]
  clear h0 h1 h2 h3 h4 h5 h6 h7
  go_enter Tryz.func51, Tryz.ntmps51
  go_wp2
  go_ret
  exact ⟨rfl, rfl⟩

theorem get_of_list {t : ByteArray} {c : UInt8} {D : List UInt8} (h : t.data.toList = c :: D) (i : Nat) (hi : i < t.size) (h1 : 1 ≤ i) : t[i]'hi ∈ D := by
  obtain ⟨j, rfl⟩ : ∃ j, i = j + 1 := ⟨i - 1, by omega⟩
  have hl : t.data.toList.length = t.size := size_list t
  have e : t[j + 1]'hi = t.data.toList[j + 1]'(by rw [hl]; exact hi) := rfl
  rw [e]
  simp only [h]
  rw [List.getElem_cons_succ]
  exact List.getElem_mem _
theorem get_zero {t : ByteArray} {c : UInt8} {D : List UInt8} (h : t.data.toList = c :: D) (hi : 0 < t.size) : t[0]'hi = c := by
  have hl : t.data.toList.length = t.size := size_list t
  have e : t[0]'hi = t.data.toList[0]'(by rw [hl]; exact hi) := rfl
  rw [e]
  simp only [h]
  rfl
theorem number_any (t : ByteArray) (c : UInt8) (D : List UInt8) (h : t.data.toList = c :: D) (hD : ∀ d ∈ D, dg d.toNat = true) (hc : dg c.toNat = true ∨ (c.toNat = 45 ∧ D ≠ [])) (hs : t.size ≤ 281474976710656) :
    (∃ v, numOf (c :: D) = some v ∧ ∀ w, Calls Tryz.prog 50 #[.string t] w fun e w' => e = .returned (.tuple #[.int .i64 v, .bool true]) ∧ w' = w) ∨
    (numOf (c :: D) = none ∧ ∀ w, Calls Tryz.prog 50 #[.string t] w fun e w' => (∃ x, e = .returned (.tuple #[.int .i64 x, .bool false])) ∧ w' = w) := by
  have hl : t.data.toList.length = t.size := size_list t
  have h0 : 0 < t.size := by rw [← hl, h]; simp
  have hz := get_zero h h0
  rcases hc with hc | ⟨hc, hn⟩
  · have hb := dg_bounds hc
    have hall : ∀ d ∈ c :: D, dg d.toNat = true := fun d hd => by
      rcases List.mem_cons.1 hd with rfl | hd
      · exact hc
      · exact hD d hd
    have Q := fun w => number_pos t h0 hs (by rw [hz]; omega) (fun i hi _ => by
      rcases Nat.eq_zero_or_pos i with rfl | hp
      · rw [hz]; exact hb
      · exact dg_bounds (hD _ (get_of_list h i hi hp))) w
    rw [List.drop_zero, h] at Q
    rw [numOf_pos hall]
    by_cases hv : valN 0 (c :: D) < 9223372036854775808
    · exact .inl ⟨_, by rw [if_pos hv], fun w => (Q w).mono fun e w' ⟨⟨x, he, hx⟩, hw⟩ => ⟨by rw [he, hx hv, decide_eq_true hv], hw⟩⟩
    · exact .inr ⟨by rw [if_neg hv], fun w => (Q w).mono fun e w' ⟨⟨x, he, hx⟩, hw⟩ => ⟨⟨x, by rw [he, decide_eq_false hv]⟩, hw⟩⟩
  · have h1 : 1 < t.size := by
      rw [← hl, h, List.length_cons]
      have : D.length ≠ 0 := fun q => hn (List.eq_nil_of_length_eq_zero q)
      omega
    have Q := fun w => number_neg t h0 hs (by rw [hz]; omega) h1 (fun i hi hp => dg_bounds (hD _ (get_of_list h i hi hp))) w
    rw [h, List.drop_succ_cons, List.drop_zero] at Q
    rw [numOf_neg hc hn hD]
    by_cases hv : valN 0 D ≤ 9223372036854775808
    · exact .inl ⟨_, by rw [if_pos hv], fun w => (Q w).mono fun e w' ⟨⟨x, he, hx⟩, hw⟩ => ⟨by rw [he, hx hv, decide_eq_true hv], hw⟩⟩
    · exact .inr ⟨by rw [if_neg hv], fun w => (Q w).mono fun e w' ⟨⟨x, he, hx⟩, hw⟩ => ⟨⟨x, by rw [he, decide_eq_false hv]⟩, hw⟩⟩

end Go.Proofs.YtofgnpehlheeiaaGreatDoor
