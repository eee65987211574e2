/- The document's own run; blanks and remarks byte by byte. -/
import Derived.Test.YtofgnpehlheeiaaDoorPast
namespace Go.Proofs.YtofgnpehlheeiaaDoor
open Go.RowKit
set_option linter.unusedVariables false

theorem skip_blank (s : ByteArray) (k : Nat) (h : k < s.size) (hb : bl ((s[k]'h).toNat) = true) : skipN false (s.data.toList.drop k) = skipN false (s.data.toList.drop (k + 1)) + 1 := by
  rw [get_list s k h, skipN, if_pos hb]
theorem head_of (s : ByteArray) (k : Nat) (h : k < s.size) : (s.data.toList.drop k).head?.map (·.toNat) = some (s[k]'h).toNat := by
  rw [get_list s k h]; rfl
theorem head_none (s : ByteArray) (k : Nat) (h : ¬ k < s.size) : (s.data.toList.drop k).head?.map (·.toNat) = none := by
  rw [List.drop_eq_nil_of_le (by simp; omega)]; rfl
theorem skip_rem (s : ByteArray) (k : Nat) (h : k + 1 < s.size) (h1 : ((s[k]'(by omega)).toNat : Int) = 45) (h2 : ((s[k + 1]'h).toNat : Int) = 45) : skipN false (s.data.toList.drop k) = skipN true (s.data.toList.drop (k + 1)) + 1 := by
  have e1 : (s[k]'(by omega)).toNat = 45 := by omega
  have e2 : (s[k + 1]'h).toNat = 45 := by omega
  rw [get_list s k (by omega), skipN, if_neg (by rw [e1]; decide), if_pos ⟨e1, by rw [head_of s (k + 1) h, e2]⟩]
theorem skip_none (s : ByteArray) (k : Nat) (h : k < s.size) (hb : bl ((s[k]'h).toNat) = false) (hn : ¬ (((s[k]'h).toNat : Int) = 45 ∧ ∃ h2 : k + 1 < s.size, ((s[k + 1]'h2).toNat : Int) = 45)) : skipN false (s.data.toList.drop k) = 0 := by
  rw [get_list s k h, skipN, if_neg (by rw [hb]; decide), if_neg]
  rintro ⟨e1, e2⟩
  by_cases h2 : k + 1 < s.size
  · rw [head_of s (k + 1) h2] at e2
    injection e2 with e2
    exact hn ⟨by omega, h2, by omega⟩
  · rw [head_none s (k + 1) h2] at e2
    cases e2
theorem skip_in (s : ByteArray) (k : Nat) (h : k < s.size) (h1 : ¬ ((s[k]'h).toNat : Int) = 10) : skipN true (s.data.toList.drop k) = skipN true (s.data.toList.drop (k + 1)) + 1 := by
  rw [get_list s k h, skipN, if_neg (by omega)]
theorem skip_out (s : ByteArray) (k : Nat) (h : k < s.size) (h1 : ((s[k]'h).toNat : Int) = 10) : skipN true (s.data.toList.drop k) = skipN false (s.data.toList.drop k) := by
  rw [skip_blank s k h (by rw [h1]; decide), get_list s k h, skipN, if_pos (by omega)]
theorem skip_end (b : Bool) (s : ByteArray) : skipN b (s.data.toList.drop s.size) = 0 := by
  rw [List.drop_eq_nil_of_le (by simp)]; cases b <;> rfl

end Go.Proofs.YtofgnpehlheeiaaDoor
