/- The document's own number. -/
import Derived.Test.YtofgnpehlheeiaaGreatDoorReads
import Derived.Test.YtofgnpehlheeiaaGreatDoorBack
namespace Go.Proofs.YtofgnpehlheeiaaGreatDoor
open Go.RowKit
set_option linter.unusedVariables false

theorem val_step (s : ByteArray) (k n : Nat) (h : k < s.size) : valN n (s.data.toList.drop k) = valN (n * 10 + ((s[k]'h).toNat - 48)) (s.data.toList.drop (k + 1)) := by
  rw [get_list s k h, valN_cons]
theorem val_end (s : ByteArray) (n : Nat) : valN n (s.data.toList.drop s.size) = n := by
  rw [List.drop_eq_nil_of_le (by simp)]; rfl

set_option maxHeartbeats 4000000 in
theorem number_neg (s : ByteArray) (h0 : 0 < s.size) (hs : s.size ≤ 281474976710656) (hc : ((s[0]'h0).toNat : Int) = 45) (hr : 1 < s.size) (hd : ∀ (i : Nat) (hi : i < s.size), 1 ≤ i → 48 ≤ (s[i]'hi).toNat ∧ (s[i]'hi).toNat ≤ 57) (w : World) :
    Calls Tryz.prog 50 #[.string s] w fun e w' => (∃ x, e = .returned (.tuple #[.int .i64 x, .bool (decide (valN 0 (s.data.toList.drop 1) ≤ 9223372036854775808))]) ∧ (valN 0 (s.data.toList.drop 1) ≤ 9223372036854775808 → x = -(valN 0 (s.data.toList.drop 1) : Int))) ∧ w' = w := by
  obtain ⟨V, hV⟩ : ∃ V, valN 0 (s.data.toList.drop 1) = V := ⟨_, rfl⟩
  have HV : Hid (valN 0 (s.data.toList.drop 1) = V) := ⟨hV⟩
  rw [hV]
  have HD : Hid (∀ (i : Nat) (hi : i < s.size), 1 ≤ i → 48 ≤ (s[i]'hi).toNat ∧ (s[i]'hi).toNat ≤ 57) := ⟨hd⟩
  clear hV hd
  go_enter Tryz.func50, Tryz.ntmps50
  go_wp2
  go_loopw [4, 6] (fun c u wr => ∃ (k n : Nat), c = .int .i64 k ∧ u = .int .u64 n ∧ 1 ≤ k ∧ k ≤ s.size ∧ n ≤ 9223372036854775808 ∧ Hid (valN n (s.data.toList.drop k) = V) ∧ w = wr) (fun c _ _ => s.size - (intOf c).toNat)
  case atStart => exact ⟨1, 0, rfl, rfl, Nat.le_refl _, by omega, by omega, HV, rfl⟩
  case round =>
    obtain ⟨k, n, rfl, rfl, hk1, hk2, hn, HK, rfl⟩ := hrel
    by_cases hlt : k < s.size
    · obtain ⟨d1, d2⟩ := HD.out k hlt hk1
      have hst := HK.out
      rw [val_step s k n hlt] at hst
      obtain ⟨d, hd'⟩ : ∃ d : Nat, (s[k]'hlt).toNat = d + 48 := ⟨(s[k]'hlt).toNat - 48, by omega⟩
      rw [hd', Nat.add_sub_cancel] at hst
      have hge := valN_ge (s.data.toList.drop (k + 1)) (n * 10 + d)
      have d3 : d ≤ 9 := by omega
      have HS : Hid (valN (n * 10 + d) (s.data.toList.drop (k + 1)) = V) := ⟨hst⟩
      by_cases hb : (9223372036854775808 - (d : Int)) / 10 < n
      · have hbig : 9223372036854775808 < V := by rw [← hst]; omega
        have HB : Hid (9223372036854775808 < V) := ⟨hbig⟩
        clear HK hst hge hbig HV d1 d2
        go_wp2
        refine bodyPost_ret (v := .tuple #[.int .i64 0, .bool false]) (by simp [results, Tryz.results50, go_sem]) rfl ⟨⟨_, by rw [decide_eq_false (by have := HB.out; omega)], fun q => absurd q (by have := HB.out; omega)⟩, rfl⟩
      · have hb2 : n * 10 + d ≤ 9223372036854775808 := by omega
        clear HK hst hge HV d1 d2
        go_wp2
        go_roundw
        case rel => exact ⟨k + 1, n * 10 + d, by go_num, by go_num, by omega, by omega, hb2, HS, by first | rfl | trivial⟩
        case measure => simp [intOf]; omega
    · obtain rfl : k = s.size := by omega
      have h1 := HK.out
      rw [val_end] at h1
      subst h1
      clear HK
      by_cases hv : n = 9223372036854775808
      · subst hv
        clear hn HV
        go_wp2
        refine bodyPost_ret (v := .tuple #[.int .i64 (-9223372036854775808), .bool true]) (by simp [results, Tryz.results50, go_sem]) rfl ⟨⟨_, rfl, fun _ => rfl⟩, rfl⟩
      · have hv2 : (n : Int) < 9223372036854775808 := by omega
        have hv3 : ((n : Int) == 9223372036854775808) = false := by
          rw [beq_eq_false_iff_ne]; omega
        have HN : Hid (n ≤ 9223372036854775808) := ⟨hn⟩
        clear hv hn
        go_wp2
        refine bodyPost_ret (v := .tuple #[.int .i64 (-(n : Int)), .bool true]) (by simp [results, Tryz.results50, go_sem]) rfl ⟨⟨_, by rw [decide_eq_true HN.out], fun _ => rfl⟩, rfl⟩


set_option maxHeartbeats 4000000 in
theorem number_pos (s : ByteArray) (h0 : 0 < s.size) (hs : s.size ≤ 281474976710656) (hc : ¬ ((s[0]'h0).toNat : Int) = 45) (hd : ∀ (i : Nat) (hi : i < s.size), 0 ≤ i → 48 ≤ (s[i]'hi).toNat ∧ (s[i]'hi).toNat ≤ 57) (w : World) :
    Calls Tryz.prog 50 #[.string s] w fun e w' => (∃ x, e = .returned (.tuple #[.int .i64 x, .bool (decide (valN 0 (s.data.toList.drop 0) < 9223372036854775808))]) ∧ (valN 0 (s.data.toList.drop 0) < 9223372036854775808 → x = (valN 0 (s.data.toList.drop 0) : Int))) ∧ w' = w := by
  obtain ⟨V, hV⟩ : ∃ V, valN 0 (s.data.toList.drop 0) = V := ⟨_, rfl⟩
  have HV : Hid (valN 0 (s.data.toList.drop 0) = V) := ⟨hV⟩
  rw [hV]
  have HD : Hid (∀ (i : Nat) (hi : i < s.size), 0 ≤ i → 48 ≤ (s[i]'hi).toNat ∧ (s[i]'hi).toNat ≤ 57) := ⟨hd⟩
  clear hV hd
  go_enter Tryz.func50, Tryz.ntmps50
  go_wp2
  go_loopw [4, 6] (fun c u wr => ∃ (k n : Nat), c = .int .i64 k ∧ u = .int .u64 n ∧ 0 ≤ k ∧ k ≤ s.size ∧ n ≤ 9223372036854775808 ∧ Hid (valN n (s.data.toList.drop k) = V) ∧ w = wr) (fun c _ _ => s.size - (intOf c).toNat)
  case atStart => exact ⟨0, 0, rfl, rfl, Nat.le_refl _, by omega, by omega, HV, rfl⟩
  case round =>
    obtain ⟨k, n, rfl, rfl, hk1, hk2, hn, HK, rfl⟩ := hrel
    by_cases hlt : k < s.size
    · obtain ⟨d1, d2⟩ := HD.out k hlt hk1
      have hst := HK.out
      rw [val_step s k n hlt] at hst
      obtain ⟨d, hd'⟩ : ∃ d : Nat, (s[k]'hlt).toNat = d + 48 := ⟨(s[k]'hlt).toNat - 48, by omega⟩
      rw [hd', Nat.add_sub_cancel] at hst
      have hge := valN_ge (s.data.toList.drop (k + 1)) (n * 10 + d)
      have d3 : d ≤ 9 := by omega
      have HS : Hid (valN (n * 10 + d) (s.data.toList.drop (k + 1)) = V) := ⟨hst⟩
      by_cases hb : (9223372036854775808 - (d : Int)) / 10 < n
      · have hbig : 9223372036854775808 < V := by rw [← hst]; omega
        have HB : Hid (9223372036854775808 < V) := ⟨hbig⟩
        clear HK hst hge hbig HV d1 d2
        go_wp2
        refine bodyPost_ret (v := .tuple #[.int .i64 0, .bool false]) (by simp [results, Tryz.results50, go_sem]) rfl ⟨⟨_, by rw [decide_eq_false (by have := HB.out; omega)], fun q => absurd q (by have := HB.out; omega)⟩, rfl⟩
      · have hb2 : n * 10 + d ≤ 9223372036854775808 := by omega
        clear HK hst hge HV d1 d2
        go_wp2
        go_roundw
        case rel => exact ⟨k + 1, n * 10 + d, by go_num, by go_num, by omega, by omega, hb2, HS, by first | rfl | trivial⟩
        case measure => simp [intOf]; omega
    · obtain rfl : k = s.size := by omega
      have h1 := HK.out
      rw [val_end] at h1
      subst h1
      clear HK
      by_cases hv : n < 9223372036854775808
      · have hv' : (n : Int) < 9223372036854775808 := by omega
        go_wp2
        refine bodyPost_ret (v := .tuple #[.int .i64 (n : Int), .bool true]) (by simp [results, Tryz.results50, go_sem]) rfl ⟨⟨_, by rw [decide_eq_true hv], fun _ => rfl⟩, rfl⟩
      · have hv' : ¬ (n : Int) < 9223372036854775808 := by omega
        have HE : Hid (¬ n < 9223372036854775808) := ⟨hv⟩
        clear hv
        go_wp2
        refine bodyPost_ret (v := .tuple #[.int .i64 (wrap64 n), .bool false]) (by simp [results, Tryz.results50, go_sem]) rfl ⟨⟨_, by rw [decide_eq_false HE.out], fun q => absurd q HE.out⟩, rfl⟩


end Go.Proofs.YtofgnpehlheeiaaGreatDoor
