/- The document's own walk over blanks and remarks. -/
import Derived.Test.YtoedeedoecdajaaDoorRun
namespace Go.Proofs.YtoedeedoecdajaaDoor
open Go.RowKit
set_option linter.unusedVariables false

set_option maxHeartbeats 2000000 in
theorem skip_any (s : ByteArray) (i : Nat) (hi : i ≤ s.size) (hs : s.size ≤ 9223372036854775806) (w : World) :
    Calls Tryd.prog 25 #[.string s, .int .i64 i] w fun e w' => e = .returned (.int .i64 ((i + skipN false (s.data.toList.drop i) : Nat) : Int)) ∧ w' = w := by
  obtain ⟨r, hr⟩ : ∃ r : Nat, i + skipN false (s.data.toList.drop i) = r := ⟨_, rfl⟩
  have HR : Hid (i + skipN false (s.data.toList.drop i) = r) := ⟨hr⟩
  rw [hr]
  clear hr
  go_enter Tryd.func25, Tryd.ntmps25
  go_wp2
  go_loopw [1] (fun c wr => ∃ k : Nat, c = .int .i64 k ∧ k ≤ s.size ∧ Hid (k + skipN false (s.data.toList.drop k) = r) ∧ w = wr) (fun c _ => s.size - (intOf c).toNat)
  case atStart => exact ⟨i, rfl, hi, HR, rfl⟩
  case round =>
    obtain ⟨k, rfl, hk2, HK, rfl⟩ := hrel
    by_cases hlt : k < s.size
    · have A := rblank_any ((s[k]'hlt).toNat) w
      obtain ⟨a, ha⟩ : ∃ a, bl ((s[k]'hlt).toNat) = a := ⟨_, rfl⟩
      rw [ha] at A
      cases a
      · by_cases h1 : ((s[k]'hlt).toNat : Int) = 45
        · by_cases h2 : k + 1 < s.size
          · have z1 : (k : Int) + 1 < s.size := by omega
            have z2 : (0 : Int) ≤ (k : Int) + 1 := by omega
            have z3 : ((k : Int) + 1).toNat = k + 1 := by omega
            by_cases h3 : ((s[k + 1]'h2).toNat : Int) = 45
            · have HE : Hid (skipN false (s.data.toList.drop k) = skipN true (s.data.toList.drop k)) := ⟨by rw [skip_rem s k h2 h1 h3, skip_in s k hlt (by omega)]⟩
              clear ha
              have Hb : Hid (((s[k]'hlt).toNat : Int) = 45) := ⟨h1⟩
              rw [h1] at A
              go_wp2_with (go_at_call 39; refine A.mono ?_; rintro e w1 ⟨rfl, hw⟩; subst w1)
              clear A h1 h3
              go_loopw [1] (fun c wr => ∃ j : Nat, c = .int .i64 j ∧ k ≤ j ∧ j ≤ s.size ∧ Hid (j + skipN true (s.data.toList.drop j) = r) ∧ w = wr) (fun c _ => s.size - (intOf c).toNat)
              case atStart => exact ⟨k, rfl, Nat.le_refl _, by omega, ⟨by rw [← HE.out]; exact HK.out⟩, rfl⟩
              case round =>
                obtain ⟨j, rfl, hj1, hj2, HJ, rfl⟩ := hrel
                by_cases hjl : j < s.size
                · by_cases h4 : ((s[j]'hjl).toNat : Int) = 10
                  · have HO : Hid (j + skipN false (s.data.toList.drop j) = r) := ⟨by rw [← skip_out s j hjl h4]; exact HJ.out⟩
                    have hkj : k < j := by
                      rcases Nat.lt_or_ge k j with q | q
                      · exact q
                      · obtain rfl : k = j := by omega
                        have := Hb.out; omega
                    go_wp2
                    go_roundw
                    case rel => exact ⟨j, rfl, hj2, HO, by first | rfl | trivial⟩
                    case measure => simp [intOf]; omega
                  · have HO : Hid ((j + 1) + skipN true (s.data.toList.drop (j + 1)) = r) := ⟨by have := HJ.out; rw [skip_in s j hjl h4] at this; omega⟩
                    go_wp2
                    go_roundw
                    case rel => exact ⟨j + 1, by go_num, by omega, by omega, HO, by first | rfl | trivial⟩
                    case measure => simp [intOf]; omega
                · obtain rfl : j = s.size := by omega
                  have HO : Hid (s.size + skipN false (s.data.toList.drop s.size) = r) := ⟨by have := HJ.out; rw [skip_end] at this; rw [skip_end]; exact this⟩
                  go_wp2
                  go_roundw
                  case rel => exact ⟨s.size, rfl, Nat.le_refl _, HO, by first | rfl | trivial⟩
                  case measure => simp [intOf]; omega
            · have HE : Hid (skipN false (s.data.toList.drop k) = 0) := ⟨skip_none s k hlt ha (by rintro ⟨_, _, q⟩; exact h3 q)⟩
              clear ha
              rw [h1] at A
              go_wp2_with (go_at_call 39; refine A.mono ?_; rintro e w1 ⟨rfl, hw⟩; subst w1)
              go_ret
              exact ⟨retInt (by have := HK.out; rw [HE.out] at this; omega), rfl⟩
          · have HE : Hid (skipN false (s.data.toList.drop k) = 0) := ⟨skip_none s k hlt ha (by rintro ⟨_, q, _⟩; exact h2 q)⟩
            clear ha
            have z1 : ¬ (k : Int) + 1 < s.size := by omega
            rw [h1] at A
            go_wp2_with (go_at_call 39; refine A.mono ?_; rintro e w1 ⟨rfl, hw⟩; subst w1)
            go_ret
            exact ⟨retInt (by have := HK.out; rw [HE.out] at this; omega), rfl⟩
        · have HE : Hid (skipN false (s.data.toList.drop k) = 0) := ⟨skip_none s k hlt ha (by rintro ⟨q, _⟩; exact h1 q)⟩
          clear ha
          go_wp2_with (go_at_call 39; refine A.mono ?_; rintro e w1 ⟨rfl, hw⟩; subst w1)
          go_ret
          exact ⟨retInt (by have := HK.out; rw [HE.out] at this; omega), rfl⟩
      · have HE : Hid ((k + 1) + skipN false (s.data.toList.drop (k + 1)) = r) := ⟨by have := HK.out; rw [skip_blank s k hlt ha] at this; omega⟩
        clear ha
        go_wp2_with (go_at_call 39; refine A.mono ?_; rintro e w1 ⟨rfl, hw⟩; subst w1)
        go_roundw
        case rel => exact ⟨k + 1, by go_num, by omega, HE, by first | rfl | trivial⟩
        case measure => simp [intOf]; omega
    · obtain rfl : k = s.size := by omega
      have h1 := HK.out
      rw [skip_end] at h1
      simp at h1
      subst h1
      go_wp2
      go_ret
      exact ⟨rfl, rfl⟩

end Go.Proofs.YtoedeedoecdajaaDoor
