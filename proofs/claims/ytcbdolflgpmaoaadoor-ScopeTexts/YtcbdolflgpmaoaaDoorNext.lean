/- The document's own run; blanks and remarks byte by byte. -/
import Derived.Test.YtcbdolflgpmaoaaDoorTok
import Derived.Test.YtcbdolflgpmaoaaDoorScd
import Derived.Test.YtcbdolflgpmaoaaDoorPv
import Derived.WalkMore
namespace Go.Proofs.YtcbdolflgpmaoaaDoor

/-- what the calls read of the library: nothing here -/
structure Laid (w : World) : Prop where
  triv : True
theorem Laid.later {w w' : World} (_ : Laid w) (_ : Go.RowKit.Below w.heap.size w w') : Laid w' := ⟨trivial⟩
open Go.RowKit
set_option linter.unusedVariables false

set_option maxHeartbeats 2000000 in
theorem run_any (s : ByteArray) (i : Nat) (hi : i ≤ s.size) (hs : s.size ≤ 9223372036854775806) (w : World) :
    Calls Tryd.prog 56 #[.string s, .int .i64 i] w fun e w' => e = .returned (.int .i64 ((i + runN rn (s.data.toList.drop i) : Nat) : Int)) ∧ w' = w := by
  obtain ⟨r, hr⟩ : ∃ r : Nat, i + runN rn (s.data.toList.drop i) = r := ⟨_, rfl⟩
  have HR : Hid (i + runN rn (s.data.toList.drop i) = r) := ⟨hr⟩
  rw [hr]
  clear hr
  go_enter Tryd.func56, Tryd.ntmps56
  go_wp2
  go_loopw [1] (fun c wr => ∃ k : Nat, c = .int .i64 k ∧ k ≤ s.size ∧ Hid (k + runN rn (s.data.toList.drop k) = r) ∧ w = wr) (fun c _ => s.size - (intOf c).toNat)
  case atStart => exact ⟨i, rfl, hi, HR, rfl⟩
  case round =>
    obtain ⟨k, rfl, hk2, HK, rfl⟩ := hrel
    by_cases hlt : k < s.size
    · obtain ⟨x, hx⟩ : ∃ x : Int, ((s[k]'hlt).toNat : Int) = x := ⟨_, rfl⟩
      have A := rsmall_any ((s[k]'hlt).toNat) w
      have B := rlarge_any ((s[k]'hlt).toNat) w
      have C := rdigit_any ((s[k]'hlt).toNat) w
      have E := run_step rn s k hlt
      rw [rn_split] at E
      obtain ⟨a, ha⟩ : ∃ a, sm ((s[k]'hlt).toNat) = a := ⟨_, rfl⟩
      obtain ⟨b, hb⟩ : ∃ a, gr ((s[k]'hlt).toNat) = a := ⟨_, rfl⟩
      obtain ⟨c, hc⟩ : ∃ a, dg ((s[k]'hlt).toNat) = a := ⟨_, rfl⟩
      rw [ha] at A E
      rw [hb] at B E
      rw [hc] at C E
      clear ha hb hc hx
      by_cases h95 : ((s[k]'hlt).toNat : Int) = 95
      · have HE : Hid (runN rn (s.data.toList.drop k) = if (a || (b || (c || true))) then runN rn (s.data.toList.drop (k + 1)) + 1 else 0) := ⟨by rw [E, decide_eq_true h95]⟩
        clear E
        rw [h95] at A B C
        cases a
        · cases b
          · cases c
            · go_wp2_with (first | (go_at_call 57; refine A.mono ?_; rintro e w1 ⟨rfl, hw⟩; subst hw) | (go_at_call 59; refine B.mono ?_; rintro e w1 ⟨rfl, hw⟩; subst hw) | (go_at_call 60; refine C.mono ?_; rintro e w1 ⟨rfl, hw⟩; subst hw))
              go_roundw
              case rel => exact ⟨k + 1, by go_num, by omega, ⟨by have h1 := HK.out; rw [HE.out] at h1; simp at h1; omega⟩, by first | rfl | trivial⟩
              case measure => simp [intOf]; omega
            · go_wp2_with (first | (go_at_call 57; refine A.mono ?_; rintro e w1 ⟨rfl, hw⟩; subst hw) | (go_at_call 59; refine B.mono ?_; rintro e w1 ⟨rfl, hw⟩; subst hw) | (go_at_call 60; refine C.mono ?_; rintro e w1 ⟨rfl, hw⟩; subst hw))
              go_roundw
              case rel => exact ⟨k + 1, by go_num, by omega, ⟨by have h1 := HK.out; rw [HE.out] at h1; simp at h1; omega⟩, by first | rfl | trivial⟩
              case measure => simp [intOf]; omega
          · go_wp2_with (first | (go_at_call 57; refine A.mono ?_; rintro e w1 ⟨rfl, hw⟩; subst hw) | (go_at_call 59; refine B.mono ?_; rintro e w1 ⟨rfl, hw⟩; subst hw) | (go_at_call 60; refine C.mono ?_; rintro e w1 ⟨rfl, hw⟩; subst hw))
            go_roundw
            case rel => exact ⟨k + 1, by go_num, by omega, ⟨by have h1 := HK.out; rw [HE.out] at h1; simp at h1; omega⟩, by first | rfl | trivial⟩
            case measure => simp [intOf]; omega
        · go_wp2_with (first | (go_at_call 57; refine A.mono ?_; rintro e w1 ⟨rfl, hw⟩; subst hw) | (go_at_call 59; refine B.mono ?_; rintro e w1 ⟨rfl, hw⟩; subst hw) | (go_at_call 60; refine C.mono ?_; rintro e w1 ⟨rfl, hw⟩; subst hw))
          go_roundw
          case rel => exact ⟨k + 1, by go_num, by omega, ⟨by have h1 := HK.out; rw [HE.out] at h1; simp at h1; omega⟩, by first | rfl | trivial⟩
          case measure => simp [intOf]; omega
      · have HE : Hid (runN rn (s.data.toList.drop k) = if (a || (b || (c || false))) then runN rn (s.data.toList.drop (k + 1)) + 1 else 0) := ⟨by rw [E, decide_eq_false h95]⟩
        clear E
        cases a
        · cases b
          · cases c
            · go_wp2_with (first | (go_at_call 57; refine A.mono ?_; rintro e w1 ⟨rfl, hw⟩; subst hw) | (go_at_call 59; refine B.mono ?_; rintro e w1 ⟨rfl, hw⟩; subst hw) | (go_at_call 60; refine C.mono ?_; rintro e w1 ⟨rfl, hw⟩; subst hw))
              go_ret
              have h1 := HK.out
              rw [HE.out] at h1
              simp at h1
              exact ⟨by rw [← h1]; rfl, rfl⟩
            · go_wp2_with (first | (go_at_call 57; refine A.mono ?_; rintro e w1 ⟨rfl, hw⟩; subst hw) | (go_at_call 59; refine B.mono ?_; rintro e w1 ⟨rfl, hw⟩; subst hw) | (go_at_call 60; refine C.mono ?_; rintro e w1 ⟨rfl, hw⟩; subst hw))
              go_roundw
              case rel => exact ⟨k + 1, by go_num, by omega, ⟨by have h1 := HK.out; rw [HE.out] at h1; simp at h1; omega⟩, by first | rfl | trivial⟩
              case measure => simp [intOf]; omega
          · go_wp2_with (first | (go_at_call 57; refine A.mono ?_; rintro e w1 ⟨rfl, hw⟩; subst hw) | (go_at_call 59; refine B.mono ?_; rintro e w1 ⟨rfl, hw⟩; subst hw) | (go_at_call 60; refine C.mono ?_; rintro e w1 ⟨rfl, hw⟩; subst hw))
            go_roundw
            case rel => exact ⟨k + 1, by go_num, by omega, ⟨by have h1 := HK.out; rw [HE.out] at h1; simp at h1; omega⟩, by first | rfl | trivial⟩
            case measure => simp [intOf]; omega
        · go_wp2_with (first | (go_at_call 57; refine A.mono ?_; rintro e w1 ⟨rfl, hw⟩; subst hw) | (go_at_call 59; refine B.mono ?_; rintro e w1 ⟨rfl, hw⟩; subst hw) | (go_at_call 60; refine C.mono ?_; rintro e w1 ⟨rfl, hw⟩; subst hw))
          go_roundw
          case rel => exact ⟨k + 1, by go_num, by omega, ⟨by have h1 := HK.out; rw [HE.out] at h1; simp at h1; omega⟩, by first | rfl | trivial⟩
          case measure => simp [intOf]; omega
    · obtain rfl : k = s.size := by omega
      have h1 := HK.out
      rw [List.drop_eq_nil_of_le (by simp)] at h1
      simp [runN] at h1
      subst h1
      go_wp2
      go_ret
      exact ⟨rfl, rfl⟩

theorem skip_blank (s : ByteArray) (k : Nat) (h : k < s.size) (hb : bl ((s[k]'h).toNat) = true) : skipN false (s.data.toList.drop k) = skipN false (s.data.toList.drop (k + 1)) + 1 := by
  rw [get_list s k h, skipN, if_pos hb]
theorem head_of (s : ByteArray) (k : Nat) (h : k < s.size) : (s.data.toList.drop k).head?.map (·.toNat) = some (s[k]'h).toNat := by
  rw [get_list s k h]; rfl
theorem head_none (s : ByteArray) (k : Nat) (h : ¬ k < s.size) : (s.data.toList.drop k).head?.map (·.toNat) = none := by
  rw [List.drop_eq_nil_of_le (by simp; omega)]; rfl
theorem skip_rem (s : ByteArray) (k : Nat) (h : k + 1 < s.size) (h1 : ((s[k]'(by omega)).toNat : Int) = 45) (h2 : ((s[k + 1]'h).toNat : Int) = 45) : skipN false (s.data.toList.drop k) = skipN true (s.data.toList.drop (k + 1)) + 1 := by
  have e1 : (s[k]'(by omega)).toNat = 45 := by omega
  have e2 : (s[k + 1]'h).toNat = 45 := by omega
  rw [get_list s k (by omega), skipN, if_neg (by rw [e1]; decide), if_pos ⟨e1, by rw [head_of s (k + 1) h, e2]⟩]
theorem skip_none (s : ByteArray) (k : Nat) (h : k < s.size) (hb : bl ((s[k]'h).toNat) = false) (hn : ¬ (((s[k]'h).toNat : Int) = 45 ∧ ∃ h2 : k + 1 < s.size, ((s[k + 1]'h2).toNat : Int) = 45)) : skipN false (s.data.toList.drop k) = 0 := by
  rw [get_list s k h, skipN, if_neg (by rw [hb]; decide), if_neg]
  rintro ⟨e1, e2⟩
  by_cases h2 : k + 1 < s.size
  · rw [head_of s (k + 1) h2] at e2
    injection e2 with e2
    exact hn ⟨by omega, h2, by omega⟩
  · rw [head_none s (k + 1) h2] at e2
    cases e2
theorem skip_in (s : ByteArray) (k : Nat) (h : k < s.size) (h1 : ¬ ((s[k]'h).toNat : Int) = 10) : skipN true (s.data.toList.drop k) = skipN true (s.data.toList.drop (k + 1)) + 1 := by
  rw [get_list s k h, skipN, if_neg (by omega)]
theorem skip_out (s : ByteArray) (k : Nat) (h : k < s.size) (h1 : ((s[k]'h).toNat : Int) = 10) : skipN true (s.data.toList.drop k) = skipN false (s.data.toList.drop k) := by
  rw [skip_blank s k h (by rw [h1]; decide), get_list s k h, skipN, if_pos (by omega)]
theorem skip_end (b : Bool) (s : ByteArray) : skipN b (s.data.toList.drop s.size) = 0 := by
  rw [List.drop_eq_nil_of_le (by simp)]; cases b <;> rfl

end Go.Proofs.YtcbdolflgpmaoaaDoor


/- The document's own walk over blanks and remarks. -/
namespace Go.Proofs.YtcbdolflgpmaoaaDoor
open Go.RowKit
set_option linter.unusedVariables false

set_option maxHeartbeats 2000000 in
theorem skip_any (s : ByteArray) (i : Nat) (hi : i ≤ s.size) (hs : s.size ≤ 9223372036854775806) (w : World) :
    Calls Tryd.prog 37 #[.string s, .int .i64 i] w fun e w' => e = .returned (.int .i64 ((i + skipN false (s.data.toList.drop i) : Nat) : Int)) ∧ w' = w := by
  obtain ⟨r, hr⟩ : ∃ r : Nat, i + skipN false (s.data.toList.drop i) = r := ⟨_, rfl⟩
  have HR : Hid (i + skipN false (s.data.toList.drop i) = r) := ⟨hr⟩
  rw [hr]
  clear hr
  go_enter Tryd.func37, Tryd.ntmps37
  go_wp2
  go_loopw [1] (fun c wr => ∃ k : Nat, c = .int .i64 k ∧ k ≤ s.size ∧ Hid (k + skipN false (s.data.toList.drop k) = r) ∧ w = wr) (fun c _ => s.size - (intOf c).toNat)
  case atStart => exact ⟨i, rfl, hi, HR, rfl⟩
  case round =>
    obtain ⟨k, rfl, hk2, HK, rfl⟩ := hrel
    by_cases hlt : k < s.size
    · have A := rblank_any ((s[k]'hlt).toNat) w
      obtain ⟨a, ha⟩ : ∃ a, bl ((s[k]'hlt).toNat) = a := ⟨_, rfl⟩
      rw [ha] at A
      cases a
      · by_cases h1 : ((s[k]'hlt).toNat : Int) = 45
        · by_cases h2 : k + 1 < s.size
          · have z1 : (k : Int) + 1 < s.size := by omega
            have z2 : (0 : Int) ≤ (k : Int) + 1 := by omega
            have z3 : ((k : Int) + 1).toNat = k + 1 := by omega
            by_cases h3 : ((s[k + 1]'h2).toNat : Int) = 45
            · have HE : Hid (skipN false (s.data.toList.drop k) = skipN true (s.data.toList.drop k)) := ⟨by rw [skip_rem s k h2 h1 h3, skip_in s k hlt (by omega)]⟩
              clear ha
              have Hb : Hid (((s[k]'hlt).toNat : Int) = 45) := ⟨h1⟩
              rw [h1] at A
              go_wp2_with (go_at_call 55; refine A.mono ?_; rintro e w1 ⟨rfl, hw⟩; subst w1)
              clear A h1 h3
              go_loopw [1] (fun c wr => ∃ j : Nat, c = .int .i64 j ∧ k ≤ j ∧ j ≤ s.size ∧ Hid (j + skipN true (s.data.toList.drop j) = r) ∧ w = wr) (fun c _ => s.size - (intOf c).toNat)
              case atStart => exact ⟨k, rfl, Nat.le_refl _, by omega, ⟨by rw [← HE.out]; exact HK.out⟩, rfl⟩
              case round =>
                obtain ⟨j, rfl, hj1, hj2, HJ, rfl⟩ := hrel
                by_cases hjl : j < s.size
                · by_cases h4 : ((s[j]'hjl).toNat : Int) = 10
                  · have HO : Hid (j + skipN false (s.data.toList.drop j) = r) := ⟨by rw [← skip_out s j hjl h4]; exact HJ.out⟩
                    have hkj : k < j := by
                      rcases Nat.lt_or_ge k j with q | q
                      · exact q
                      · obtain rfl : k = j := by omega
                        have := Hb.out; omega
                    go_wp2
                    go_roundw
                    case rel => exact ⟨j, rfl, hj2, HO, by first | rfl | trivial⟩
                    case measure => simp [intOf]; omega
                  · have HO : Hid ((j + 1) + skipN true (s.data.toList.drop (j + 1)) = r) := ⟨by have := HJ.out; rw [skip_in s j hjl h4] at this; omega⟩
                    go_wp2
                    go_roundw
                    case rel => exact ⟨j + 1, by go_num, by omega, by omega, HO, by first | rfl | trivial⟩
                    case measure => simp [intOf]; omega
                · obtain rfl : j = s.size := by omega
                  have HO : Hid (s.size + skipN false (s.data.toList.drop s.size) = r) := ⟨by have := HJ.out; rw [skip_end] at this; rw [skip_end]; exact this⟩
                  go_wp2
                  go_roundw
                  case rel => exact ⟨s.size, rfl, Nat.le_refl _, HO, by first | rfl | trivial⟩
                  case measure => simp [intOf]; omega
            · have HE : Hid (skipN false (s.data.toList.drop k) = 0) := ⟨skip_none s k hlt ha (by rintro ⟨_, _, q⟩; exact h3 q)⟩
              clear ha
              rw [h1] at A
              go_wp2_with (go_at_call 55; refine A.mono ?_; rintro e w1 ⟨rfl, hw⟩; subst w1)
              go_ret
              exact ⟨retInt (by have := HK.out; rw [HE.out] at this; omega), rfl⟩
          · have HE : Hid (skipN false (s.data.toList.drop k) = 0) := ⟨skip_none s k hlt ha (by rintro ⟨_, q, _⟩; exact h2 q)⟩
            clear ha
            have z1 : ¬ (k : Int) + 1 < s.size := by omega
            rw [h1] at A
            go_wp2_with (go_at_call 55; refine A.mono ?_; rintro e w1 ⟨rfl, hw⟩; subst w1)
            go_ret
            exact ⟨retInt (by have := HK.out; rw [HE.out] at this; omega), rfl⟩
        · have HE : Hid (skipN false (s.data.toList.drop k) = 0) := ⟨skip_none s k hlt ha (by rintro ⟨q, _⟩; exact h1 q)⟩
          clear ha
          go_wp2_with (go_at_call 55; refine A.mono ?_; rintro e w1 ⟨rfl, hw⟩; subst w1)
          go_ret
          exact ⟨retInt (by have := HK.out; rw [HE.out] at this; omega), rfl⟩
      · have HE : Hid ((k + 1) + skipN false (s.data.toList.drop (k + 1)) = r) := ⟨by have := HK.out; rw [skip_blank s k hlt ha] at this; omega⟩
        clear ha
        go_wp2_with (go_at_call 55; refine A.mono ?_; rintro e w1 ⟨rfl, hw⟩; subst w1)
        go_roundw
        case rel => exact ⟨k + 1, by go_num, by omega, HE, by first | rfl | trivial⟩
        case measure => simp [intOf]; omega
    · obtain rfl : k = s.size := by omega
      have h1 := HK.out
      rw [skip_end] at h1
      simp at h1
      subst h1
      go_wp2
      go_ret
      exact ⟨rfl, rfl⟩

end Go.Proofs.YtcbdolflgpmaoaaDoor


/- Package lex's walk over blanks and remarks. -/
namespace Go.Proofs.YtcbdolflgpmaoaaDoor
open Go.RowKit
set_option linter.unusedVariables false

/-- how many bytes a remark has, with the byte 10 that ends it -/
def remN : List UInt8 → Nat
  | [] => 0
  | c :: r => if c.toNat = 10 then 1 else remN r + 1
theorem remN_le : ∀ l, remN l ≤ l.length
  | [] => Nat.le_refl _
  | c :: r => by
    have := remN_le r
    unfold remN
    split <;> simp only [List.length_cons] <;> omega
theorem skip_true : ∀ l, skipN true l = remN l + skipN false (l.drop (remN l))
  | [] => rfl
  | c :: r => by
    rw [skipN, remN]
    split
    · rw [List.drop_succ_cons, List.drop_zero]; omega
    · rw [skip_true r, List.drop_succ_cons]; omega
theorem ext_list (s : ByteArray) (a b : Nat) : (s.extract a b).data.toList = (s.data.toList.take b).drop a := by
  rw [ByteArray.data_extract]
  simp [Array.toList_extract, List.drop_take]
theorem ext_end (s : ByteArray) (a : Nat) : (s.extract a s.size).data.toList = s.data.toList.drop a := by
  rw [ext_list, List.take_of_length_le (by simp)]

end Go.Proofs.YtcbdolflgpmaoaaDoor

