/- The contracts of the functions that look at one byte: package lex's and the document's own. -/
import Derived.Test.YtofgnpehlheeiaaGreatDoorProg
import Derived.Test.YtofgnpehlheeiaaGreatDoorPure
import Derived.WalkKit
import Derived.Handy
import Derived.BigQuiet
import Derived.Deep.QuietTactic
namespace Go.Proofs.YtofgnpehlheeiaaGreatDoor
open Go.RowKit

theorem retInt {k : IntKind} {a b : Int} (h : a = b) : Ending.returned (.int k a) = .returned (.int k b) := by rw [h]
theorem retBool {a b : Bool} (h : a = b) : Ending.returned (.bool a) = .returned (.bool b) := by rw [h]
theorem rn_split (n : Int) : rn n = (sm n || (gr n || (dg n || decide (n = 95)))) := by
  simp only [rn, sm, gr, dg, Bool.decide_or]

theorem isSmall_any (n : Int) (w : World) : Calls Tryz.prog 71 #[.int .u8 n] w fun e w' => e = .returned (.bool (sm n)) ∧ w' = w := by
  by_cases h1 : 97 ≤ n
  · by_cases h2 : n ≤ 122
    · go_enter Tryz.func71, Tryz.ntmps71; go_wp2; go_ret; exact ⟨retBool (by simp [sm, *]), rfl⟩
    · go_enter Tryz.func71, Tryz.ntmps71; go_wp2; go_ret; exact ⟨retBool (by simp [sm, *]), rfl⟩
  · go_enter Tryz.func71, Tryz.ntmps71; go_wp2; go_ret; exact ⟨retBool (by simp [sm]; omega), rfl⟩
theorem isGreat_any (n : Int) (w : World) : Calls Tryz.prog 76 #[.int .u8 n] w fun e w' => e = .returned (.bool (gr n)) ∧ w' = w := by
  by_cases h1 : 65 ≤ n
  · by_cases h2 : n ≤ 90
    · go_enter Tryz.func76, Tryz.ntmps76; go_wp2; go_ret; exact ⟨retBool (by simp [gr, *]), rfl⟩
    · go_enter Tryz.func76, Tryz.ntmps76; go_wp2; go_ret; exact ⟨retBool (by simp [gr, *]), rfl⟩
  · go_enter Tryz.func76, Tryz.ntmps76; go_wp2; go_ret; exact ⟨retBool (by simp [gr]; omega), rfl⟩
theorem isDigit_any (n : Int) (w : World) : Calls Tryz.prog 77 #[.int .u8 n] w fun e w' => e = .returned (.bool (dg n)) ∧ w' = w := by
  by_cases h1 : 48 ≤ n
  · by_cases h2 : n ≤ 57
    · go_enter Tryz.func77, Tryz.ntmps77; go_wp2; go_ret; exact ⟨retBool (by simp [dg, *]), rfl⟩
    · go_enter Tryz.func77, Tryz.ntmps77; go_wp2; go_ret; exact ⟨retBool (by simp [dg, *]), rfl⟩
  · go_enter Tryz.func77, Tryz.ntmps77; go_wp2; go_ret; exact ⟨retBool (by simp [dg]; omega), rfl⟩
theorem rsmall_any (n : Int) (w : World) : Calls Tryz.prog 46 #[.int .u8 n] w fun e w' => e = .returned (.bool (sm n)) ∧ w' = w := by
  by_cases h1 : 97 ≤ n
  · by_cases h2 : n ≤ 122
    · go_enter Tryz.func46, Tryz.ntmps46; go_wp2; go_ret; exact ⟨retBool (by simp [sm, *]), rfl⟩
    · go_enter Tryz.func46, Tryz.ntmps46; go_wp2; go_ret; exact ⟨retBool (by simp [sm, *]), rfl⟩
  · go_enter Tryz.func46, Tryz.ntmps46; go_wp2; go_ret; exact ⟨retBool (by simp [sm]; omega), rfl⟩
theorem rlarge_any (n : Int) (w : World) : Calls Tryz.prog 48 #[.int .u8 n] w fun e w' => e = .returned (.bool (gr n)) ∧ w' = w := by
  by_cases h1 : 65 ≤ n
  · by_cases h2 : n ≤ 90
    · go_enter Tryz.func48, Tryz.ntmps48; go_wp2; go_ret; exact ⟨retBool (by simp [gr, *]), rfl⟩
    · go_enter Tryz.func48, Tryz.ntmps48; go_wp2; go_ret; exact ⟨retBool (by simp [gr, *]), rfl⟩
  · go_enter Tryz.func48, Tryz.ntmps48; go_wp2; go_ret; exact ⟨retBool (by simp [gr]; omega), rfl⟩
theorem rdigit_any (n : Int) (w : World) : Calls Tryz.prog 49 #[.int .u8 n] w fun e w' => e = .returned (.bool (dg n)) ∧ w' = w := by
  by_cases h1 : 48 ≤ n
  · by_cases h2 : n ≤ 57
    · go_enter Tryz.func49, Tryz.ntmps49; go_wp2; go_ret; exact ⟨retBool (by simp [dg, *]), rfl⟩
    · go_enter Tryz.func49, Tryz.ntmps49; go_wp2; go_ret; exact ⟨retBool (by simp [dg, *]), rfl⟩
  · go_enter Tryz.func49, Tryz.ntmps49; go_wp2; go_ret; exact ⟨retBool (by simp [dg]; omega), rfl⟩
theorem rblank_any (n : Int) (w : World) : Calls Tryz.prog 44 #[.int .u8 n] w fun e w' => e = .returned (.bool (bl n)) ∧ w' = w := by
  by_cases h9 : n = 9
  · go_enter Tryz.func44, Tryz.ntmps44; go_wp2; go_ret; exact ⟨retBool (by simp [bl, *]), rfl⟩
  by_cases h10 : n = 10
  · go_enter Tryz.func44, Tryz.ntmps44; go_wp2; go_ret; exact ⟨retBool (by simp [bl, *]), rfl⟩
  by_cases h13 : n = 13
  · go_enter Tryz.func44, Tryz.ntmps44; go_wp2; go_ret; exact ⟨retBool (by simp [bl, *]), rfl⟩
  by_cases h32 : n = 32
  · go_enter Tryz.func44, Tryz.ntmps44; go_wp2; go_ret; exact ⟨retBool (by simp [bl, *]), rfl⟩
  go_enter Tryz.func44, Tryz.ntmps44; go_wp2; go_ret; exact ⟨retBool (by simp [bl, *]), rfl⟩
theorem isInRun_any (n : Int) (w : World) : Calls Tryz.prog 73 #[.int .u8 n] w fun e w' => e = .returned (.bool (rn n)) ∧ w' = w := by
  have A := isSmall_any n w
  have B := isGreat_any n w
  have C := isDigit_any n w
  rw [rn_split]
  generalize sm n = a at *
  generalize gr n = b at *
  generalize dg n = c at *
  cases a
  · cases b
    · cases c
      · by_cases h : n = 95
        · subst h
          go_enter Tryz.func73, Tryz.ntmps73
          go_wp2_with (first | (go_at_call 71; refine A.mono ?_; rintro e w1 ⟨rfl, rfl⟩) | (go_at_call 76; refine B.mono ?_; rintro e w1 ⟨rfl, rfl⟩) | (go_at_call 77; refine C.mono ?_; rintro e w1 ⟨rfl, rfl⟩))
          go_ret; exact ⟨retBool (by first | rfl | simp [h] | simp), rfl⟩
        · go_enter Tryz.func73, Tryz.ntmps73
          go_wp2_with (first | (go_at_call 71; refine A.mono ?_; rintro e w1 ⟨rfl, rfl⟩) | (go_at_call 76; refine B.mono ?_; rintro e w1 ⟨rfl, rfl⟩) | (go_at_call 77; refine C.mono ?_; rintro e w1 ⟨rfl, rfl⟩))
          go_ret; exact ⟨retBool (by first | rfl | simp [h] | simp), rfl⟩
      · go_enter Tryz.func73, Tryz.ntmps73
        go_wp2_with (first | (go_at_call 71; refine A.mono ?_; rintro e w1 ⟨rfl, rfl⟩) | (go_at_call 76; refine B.mono ?_; rintro e w1 ⟨rfl, rfl⟩) | (go_at_call 77; refine C.mono ?_; rintro e w1 ⟨rfl, rfl⟩))
        go_ret; exact ⟨retBool (by first | rfl | simp [h] | simp), rfl⟩
    · go_enter Tryz.func73, Tryz.ntmps73
      go_wp2_with (first | (go_at_call 71; refine A.mono ?_; rintro e w1 ⟨rfl, rfl⟩) | (go_at_call 76; refine B.mono ?_; rintro e w1 ⟨rfl, rfl⟩) | (go_at_call 77; refine C.mono ?_; rintro e w1 ⟨rfl, rfl⟩))
      go_ret; exact ⟨retBool (by first | rfl | simp [h] | simp), rfl⟩
  · go_enter Tryz.func73, Tryz.ntmps73
    go_wp2_with (first | (go_at_call 71; refine A.mono ?_; rintro e w1 ⟨rfl, rfl⟩) | (go_at_call 76; refine B.mono ?_; rintro e w1 ⟨rfl, rfl⟩) | (go_at_call 77; refine C.mono ?_; rintro e w1 ⟨rfl, rfl⟩))
    go_ret; exact ⟨retBool (by first | rfl | simp [h] | simp), rfl⟩
end Go.Proofs.YtofgnpehlheeiaaGreatDoor
