/- The document's own run; blanks and remarks byte by byte. -/
import Derived.Test.YtoedeedoecdajaaDoorPast
namespace Go.Proofs.YtoedeedoecdajaaDoor
open Go.RowKit
set_option linter.unusedVariables false

set_option maxHeartbeats 2000000 in
theorem run_any (s : ByteArray) (i : Nat) (hi : i ≤ s.size) (hs : s.size ≤ 9223372036854775806) (w : World) :
    Calls Tryd.prog 40 #[.string s, .int .i64 i] w fun e w' => e = .returned (.int .i64 ((i + runN rn (s.data.toList.drop i) : Nat) : Int)) ∧ w' = w := by
  obtain ⟨r, hr⟩ : ∃ r : Nat, i + runN rn (s.data.toList.drop i) = r := ⟨_, rfl⟩
  have HR : Hid (i + runN rn (s.data.toList.drop i) = r) := ⟨hr⟩
  rw [hr]
  clear hr
  go_enter Tryd.func40, Tryd.ntmps40
  go_wp2
  go_loopw [1] (fun c wr => ∃ k : Nat, c = .int .i64 k ∧ k ≤ s.size ∧ Hid (k + runN rn (s.data.toList.drop k) = r) ∧ w = wr) (fun c _ => s.size - (intOf c).toNat)
  case atStart => exact ⟨i, rfl, hi, HR, rfl⟩
  case round =>
    obtain ⟨k, rfl, hk2, HK, rfl⟩ := hrel
    by_cases hlt : k < s.size
    · obtain ⟨x, hx⟩ : ∃ x : Int, ((s[k]'hlt).toNat : Int) = x := ⟨_, rfl⟩
      have A := rsmall_any ((s[k]'hlt).toNat) w
      have B := rlarge_any ((s[k]'hlt).toNat) w
      have C := rdigit_any ((s[k]'hlt).toNat) w
      have E := run_step rn s k hlt
      rw [rn_split] at E
      obtain ⟨a, ha⟩ : ∃ a, sm ((s[k]'hlt).toNat) = a := ⟨_, rfl⟩
      obtain ⟨b, hb⟩ : ∃ a, gr ((s[k]'hlt).toNat) = a := ⟨_, rfl⟩
      obtain ⟨c, hc⟩ : ∃ a, dg ((s[k]'hlt).toNat) = a := ⟨_, rfl⟩
      rw [ha] at A E
      rw [hb] at B E
      rw [hc] at C E
      clear ha hb hc hx
      by_cases h95 : ((s[k]'hlt).toNat : Int) = 95
      · have HE : Hid (runN rn (s.data.toList.drop k) = if (a || (b || (c || true))) then runN rn (s.data.toList.drop (k + 1)) + 1 else 0) := ⟨by rw [E, decide_eq_true h95]⟩
        clear E
        rw [h95] at A B C
        cases a
        · cases b
          · cases c
            · go_wp2_with (first | (go_at_call 41; refine A.mono ?_; rintro e w1 ⟨rfl, hw⟩; subst hw) | (go_at_call 43; refine B.mono ?_; rintro e w1 ⟨rfl, hw⟩; subst hw) | (go_at_call 44; refine C.mono ?_; rintro e w1 ⟨rfl, hw⟩; subst hw))
              go_roundw
              case rel => exact ⟨k + 1, by go_num, by omega, ⟨by have h1 := HK.out; rw [HE.out] at h1; simp at h1; omega⟩, by first | rfl | trivial⟩
              case measure => simp [intOf]; omega
            · go_wp2_with (first | (go_at_call 41; refine A.mono ?_; rintro e w1 ⟨rfl, hw⟩; subst hw) | (go_at_call 43; refine B.mono ?_; rintro e w1 ⟨rfl, hw⟩; subst hw) | (go_at_call 44; refine C.mono ?_; rintro e w1 ⟨rfl, hw⟩; subst hw))
              go_roundw
              case rel => exact ⟨k + 1, by go_num, by omega, ⟨by have h1 := HK.out; rw [HE.out] at h1; simp at h1; omega⟩, by first | rfl | trivial⟩
              case measure => simp [intOf]; omega
          · go_wp2_with (first | (go_at_call 41; refine A.mono ?_; rintro e w1 ⟨rfl, hw⟩; subst hw) | (go_at_call 43; refine B.mono ?_; rintro e w1 ⟨rfl, hw⟩; subst hw) | (go_at_call 44; refine C.mono ?_; rintro e w1 ⟨rfl, hw⟩; subst hw))
            go_roundw
            case rel => exact ⟨k + 1, by go_num, by omega, ⟨by have h1 := HK.out; rw [HE.out] at h1; simp at h1; omega⟩, by first | rfl | trivial⟩
            case measure => simp [intOf]; omega
        · go_wp2_with (first | (go_at_call 41; refine A.mono ?_; rintro e w1 ⟨rfl, hw⟩; subst hw) | (go_at_call 43; refine B.mono ?_; rintro e w1 ⟨rfl, hw⟩; subst hw) | (go_at_call 44; refine C.mono ?_; rintro e w1 ⟨rfl, hw⟩; subst hw))
          go_roundw
          case rel => exact ⟨k + 1, by go_num, by omega, ⟨by have h1 := HK.out; rw [HE.out] at h1; simp at h1; omega⟩, by first | rfl | trivial⟩
          case measure => simp [intOf]; omega
      · have HE : Hid (runN rn (s.data.toList.drop k) = if (a || (b || (c || false))) then runN rn (s.data.toList.drop (k + 1)) + 1 else 0) := ⟨by rw [E, decide_eq_false h95]⟩
        clear E
        cases a
        · cases b
          · cases c
            · go_wp2_with (first | (go_at_call 41; refine A.mono ?_; rintro e w1 ⟨rfl, hw⟩; subst hw) | (go_at_call 43; refine B.mono ?_; rintro e w1 ⟨rfl, hw⟩; subst hw) | (go_at_call 44; refine C.mono ?_; rintro e w1 ⟨rfl, hw⟩; subst hw))
              go_ret
              have h1 := HK.out
              rw [HE.out] at h1
              simp at h1
              exact ⟨by rw [← h1]; rfl, rfl⟩
            · go_wp2_with (first | (go_at_call 41; refine A.mono ?_; rintro e w1 ⟨rfl, hw⟩; subst hw) | (go_at_call 43; refine B.mono ?_; rintro e w1 ⟨rfl, hw⟩; subst hw) | (go_at_call 44; refine C.mono ?_; rintro e w1 ⟨rfl, hw⟩; subst hw))
              go_roundw
              case rel => exact ⟨k + 1, by go_num, by omega, ⟨by have h1 := HK.out; rw [HE.out] at h1; simp at h1; omega⟩, by first | rfl | trivial⟩
              case measure => simp [intOf]; omega
          · go_wp2_with (first | (go_at_call 41; refine A.mono ?_; rintro e w1 ⟨rfl, hw⟩; subst hw) | (go_at_call 43; refine B.mono ?_; rintro e w1 ⟨rfl, hw⟩; subst hw) | (go_at_call 44; refine C.mono ?_; rintro e w1 ⟨rfl, hw⟩; subst hw))
            go_roundw
            case rel => exact ⟨k + 1, by go_num, by omega, ⟨by have h1 := HK.out; rw [HE.out] at h1; simp at h1; omega⟩, by first | rfl | trivial⟩
            case measure => simp [intOf]; omega
        · go_wp2_with (first | (go_at_call 41; refine A.mono ?_; rintro e w1 ⟨rfl, hw⟩; subst hw) | (go_at_call 43; refine B.mono ?_; rintro e w1 ⟨rfl, hw⟩; subst hw) | (go_at_call 44; refine C.mono ?_; rintro e w1 ⟨rfl, hw⟩; subst hw))
          go_roundw
          case rel => exact ⟨k + 1, by go_num, by omega, ⟨by have h1 := HK.out; rw [HE.out] at h1; simp at h1; omega⟩, by first | rfl | trivial⟩
          case measure => simp [intOf]; omega
    · obtain rfl : k = s.size := by omega
      have h1 := HK.out
      rw [List.drop_eq_nil_of_le (by simp)] at h1
      simp [runN] at h1
      subst h1
      go_wp2
      go_ret
      exact ⟨rfl, rfl⟩

theorem skip_blank (s : ByteArray) (k : Nat) (h : k < s.size) (hb : bl ((s[k]'h).toNat) = true) : skipN false (s.data.toList.drop k) = skipN false (s.data.toList.drop (k + 1)) + 1 := by
  rw [get_list s k h, skipN, if_pos hb]
theorem head_of (s : ByteArray) (k : Nat) (h : k < s.size) : (s.data.toList.drop k).head?.map (·.toNat) = some (s[k]'h).toNat := by
  rw [get_list s k h]; rfl
theorem head_none (s : ByteArray) (k : Nat) (h : ¬ k < s.size) : (s.data.toList.drop k).head?.map (·.toNat) = none := by
  rw [List.drop_eq_nil_of_le (by simp; omega)]; rfl
theorem skip_rem (s : ByteArray) (k : Nat) (h : k + 1 < s.size) (h1 : ((s[k]'(by omega)).toNat : Int) = 45) (h2 : ((s[k + 1]'h).toNat : Int) = 45) : skipN false (s.data.toList.drop k) = skipN true (s.data.toList.drop (k + 1)) + 1 := by
  have e1 : (s[k]'(by omega)).toNat = 45 := by omega
  have e2 : (s[k + 1]'h).toNat = 45 := by omega
  rw [get_list s k (by omega), skipN, if_neg (by rw [e1]; decide), if_pos ⟨e1, by rw [head_of s (k + 1) h, e2]⟩]
theorem skip_none (s : ByteArray) (k : Nat) (h : k < s.size) (hb : bl ((s[k]'h).toNat) = false) (hn : ¬ (((s[k]'h).toNat : Int) = 45 ∧ ∃ h2 : k + 1 < s.size, ((s[k + 1]'h2).toNat : Int) = 45)) : skipN false (s.data.toList.drop k) = 0 := by
  rw [get_list s k h, skipN, if_neg (by rw [hb]; decide), if_neg]
  rintro ⟨e1, e2⟩
  by_cases h2 : k + 1 < s.size
  · rw [head_of s (k + 1) h2] at e2
    injection e2 with e2
    exact hn ⟨by omega, h2, by omega⟩
  · rw [head_none s (k + 1) h2] at e2
    cases e2
theorem skip_in (s : ByteArray) (k : Nat) (h : k < s.size) (h1 : ¬ ((s[k]'h).toNat : Int) = 10) : skipN true (s.data.toList.drop k) = skipN true (s.data.toList.drop (k + 1)) + 1 := by
  rw [get_list s k h, skipN, if_neg (by omega)]
theorem skip_out (s : ByteArray) (k : Nat) (h : k < s.size) (h1 : ((s[k]'h).toNat : Int) = 10) : skipN true (s.data.toList.drop k) = skipN false (s.data.toList.drop k) := by
  rw [skip_blank s k h (by rw [h1]; decide), get_list s k h, skipN, if_pos (by omega)]
theorem skip_end (b : Bool) (s : ByteArray) : skipN b (s.data.toList.drop s.size) = 0 := by
  rw [List.drop_eq_nil_of_le (by simp)]; cases b <;> rfl

end Go.Proofs.YtoedeedoecdajaaDoor
