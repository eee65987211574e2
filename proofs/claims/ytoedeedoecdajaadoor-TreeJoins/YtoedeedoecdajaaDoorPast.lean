/- The contracts of the functions that go past bytes of a kind, blanks and remarks. -/
import Derived.Test.YtoedeedoecdajaaDoorChars
import Derived.Below
namespace Go.Proofs.YtoedeedoecdajaaDoor
open Go.RowKit
set_option linter.unusedVariables false

structure Hid (p : Prop) : Prop where
  out : p
def intOf : Value → Int
  | .int _ n => n
  | _ => 0

theorem get_list (s : ByteArray) (k : Nat) (h : k < s.size) : s.data.toList.drop k = s[k]'h :: s.data.toList.drop (k + 1) := by
  have h' : k < s.data.toList.length := by simpa using h
  rw [List.drop_eq_getElem_cons h']
  rfl
theorem run_step (p : Int → Bool) (s : ByteArray) (k : Nat) (h : k < s.size) : runN p (s.data.toList.drop k) = if p ((s[k]'h).toNat) then runN p (s.data.toList.drop (k + 1)) + 1 else 0 := by
  rw [get_list s k h]
  rfl

set_option maxHeartbeats 1000000 in
theorem past39 (s : ByteArray) (i : Nat) (hi : i ≤ s.size) (hs : s.size ≤ 9223372036854775806) (w : World) :
    Calls Tryd.prog 60 #[.string s, .int .i64 i, .func (.func 61) #[] #[]] w fun e w' => e = .returned (.int .i64 ((i + runN rn (s.data.toList.drop i) : Nat) : Int)) ∧ w' = w := by
  obtain ⟨r, hr⟩ : ∃ r : Nat, i + runN rn (s.data.toList.drop i) = r := ⟨_, rfl⟩
  have HR : Hid (i + runN rn (s.data.toList.drop i) = r) := ⟨hr⟩
  rw [hr]
  clear hr
  go_enter Tryd.func60, Tryd.ntmps60
  go_wp2
  go_loopw [1] (fun c wr => ∃ k : Nat, c = .int .i64 k ∧ k ≤ s.size ∧ Hid (k + runN rn (s.data.toList.drop k) = r) ∧ w = wr) (fun c _ => s.size - (intOf c).toNat)
  case atStart => exact ⟨i, rfl, hi, HR, rfl⟩
  case round =>
    obtain ⟨k, rfl, hk2, HK, rfl⟩ := hrel
    by_cases hlt : k < s.size
    · have Q := isInRun_any ((s[k]'hlt).toNat) w
      have E := run_step rn s k hlt
      obtain ⟨b, hb⟩ : ∃ b, rn ((s[k]'hlt).toNat) = b := ⟨_, rfl⟩
      rw [hb] at Q E
      clear hb
      have HE : Hid (runN rn (s.data.toList.drop k) = if b then runN rn (s.data.toList.drop (k + 1)) + 1 else 0) := ⟨E⟩
      clear E
      cases b
      · go_wp2_with (go_at_call 61; refine Q.mono ?_; rintro e w1 ⟨rfl, hw⟩; subst hw)
        go_ret
        have h1 := HK.out
        rw [HE.out] at h1
        simp at h1
        exact ⟨by rw [← h1]; rfl, rfl⟩
      · go_wp2_with (go_at_call 61; refine Q.mono ?_; rintro e w1 ⟨rfl, hw⟩; subst hw)
        go_roundw
        case rel => exact ⟨k + 1, by go_num, by omega, ⟨by have h1 := HK.out; rw [HE.out] at h1; simp at h1; omega⟩, by first | rfl | trivial⟩
        case measure => simp [intOf]; omega
    · obtain rfl : k = s.size := by omega
      have h1 := HK.out
      rw [List.drop_eq_nil_of_le (by simp)] at h1
      simp [runN] at h1
      subst h1
      go_wp2
      go_ret
      exact ⟨rfl, rfl⟩

set_option maxHeartbeats 1000000 in
theorem past43 (s : ByteArray) (i : Nat) (hi : i ≤ s.size) (hs : s.size ≤ 9223372036854775806) (w : World) :
    Calls Tryd.prog 60 #[.string s, .int .i64 i, .func (.func 65) #[] #[]] w fun e w' => e = .returned (.int .i64 ((i + runN dg (s.data.toList.drop i) : Nat) : Int)) ∧ w' = w := by
  obtain ⟨r, hr⟩ : ∃ r : Nat, i + runN dg (s.data.toList.drop i) = r := ⟨_, rfl⟩
  have HR : Hid (i + runN dg (s.data.toList.drop i) = r) := ⟨hr⟩
  rw [hr]
  clear hr
  go_enter Tryd.func60, Tryd.ntmps60
  go_wp2
  go_loopw [1] (fun c wr => ∃ k : Nat, c = .int .i64 k ∧ k ≤ s.size ∧ Hid (k + runN dg (s.data.toList.drop k) = r) ∧ w = wr) (fun c _ => s.size - (intOf c).toNat)
  case atStart => exact ⟨i, rfl, hi, HR, rfl⟩
  case round =>
    obtain ⟨k, rfl, hk2, HK, rfl⟩ := hrel
    by_cases hlt : k < s.size
    · have Q := isDigit_any ((s[k]'hlt).toNat) w
      have E := run_step dg s k hlt
      obtain ⟨b, hb⟩ : ∃ b, dg ((s[k]'hlt).toNat) = b := ⟨_, rfl⟩
      rw [hb] at Q E
      clear hb
      have HE : Hid (runN dg (s.data.toList.drop k) = if b then runN dg (s.data.toList.drop (k + 1)) + 1 else 0) := ⟨E⟩
      clear E
      cases b
      · go_wp2_with (go_at_call 65; refine Q.mono ?_; rintro e w1 ⟨rfl, hw⟩; subst hw)
        go_ret
        have h1 := HK.out
        rw [HE.out] at h1
        simp at h1
        exact ⟨by rw [← h1]; rfl, rfl⟩
      · go_wp2_with (go_at_call 65; refine Q.mono ?_; rintro e w1 ⟨rfl, hw⟩; subst hw)
        go_roundw
        case rel => exact ⟨k + 1, by go_num, by omega, ⟨by have h1 := HK.out; rw [HE.out] at h1; simp at h1; omega⟩, by first | rfl | trivial⟩
        case measure => simp [intOf]; omega
    · obtain rfl : k = s.size := by omega
      have h1 := HK.out
      rw [List.drop_eq_nil_of_le (by simp)] at h1
      simp [runN] at h1
      subst h1
      go_wp2
      go_ret
      exact ⟨rfl, rfl⟩

end Go.Proofs.YtoedeedoecdajaaDoor
