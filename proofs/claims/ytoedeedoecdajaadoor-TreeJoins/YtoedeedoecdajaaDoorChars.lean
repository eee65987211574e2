/- The contracts of the functions that look at one byte: package lex's and the document's own. -/
import Derived.Test.YtoedeedoecdajaaDoorProg
import Derived.Test.YtoedeedoecdajaaDoorPure
import Derived.WalkKit
import Derived.Handy
import Derived.BigQuiet
import Derived.Deep.QuietTactic
namespace Go.Proofs.YtoedeedoecdajaaDoor
open Go.RowKit

theorem retInt {k : IntKind} {a b : Int} (h : a = b) : Ending.returned (.int k a) = .returned (.int k b) := by rw [h]
theorem retBool {a b : Bool} (h : a = b) : Ending.returned (.bool a) = .returned (.bool b) := by rw [h]
theorem rn_split (n : Int) : rn n = (sm n || (gr n || (dg n || decide (n = 95)))) := by
  simp only [rn, sm, gr, dg, Bool.decide_or]

theorem isSmall_any (n : Int) (w : World) : Calls Tryd.prog 59 #[.int .u8 n] w fun e w' => e = .returned (.bool (sm n)) ∧ w' = w := by
  by_cases h1 : 97 ≤ n
  · by_cases h2 : n ≤ 122
    · go_enter Tryd.func59, Tryd.ntmps59; go_wp2; go_ret; exact ⟨retBool (by simp [sm, *]), rfl⟩
    · go_enter Tryd.func59, Tryd.ntmps59; go_wp2; go_ret; exact ⟨retBool (by simp [sm, *]), rfl⟩
  · go_enter Tryd.func59, Tryd.ntmps59; go_wp2; go_ret; exact ⟨retBool (by simp [sm]; omega), rfl⟩
theorem isGreat_any (n : Int) (w : World) : Calls Tryd.prog 64 #[.int .u8 n] w fun e w' => e = .returned (.bool (gr n)) ∧ w' = w := by
  by_cases h1 : 65 ≤ n
  · by_cases h2 : n ≤ 90
    · go_enter Tryd.func64, Tryd.ntmps64; go_wp2; go_ret; exact ⟨retBool (by simp [gr, *]), rfl⟩
    · go_enter Tryd.func64, Tryd.ntmps64; go_wp2; go_ret; exact ⟨retBool (by simp [gr, *]), rfl⟩
  · go_enter Tryd.func64, Tryd.ntmps64; go_wp2; go_ret; exact ⟨retBool (by simp [gr]; omega), rfl⟩
theorem isDigit_any (n : Int) (w : World) : Calls Tryd.prog 65 #[.int .u8 n] w fun e w' => e = .returned (.bool (dg n)) ∧ w' = w := by
  by_cases h1 : 48 ≤ n
  · by_cases h2 : n ≤ 57
    · go_enter Tryd.func65, Tryd.ntmps65; go_wp2; go_ret; exact ⟨retBool (by simp [dg, *]), rfl⟩
    · go_enter Tryd.func65, Tryd.ntmps65; go_wp2; go_ret; exact ⟨retBool (by simp [dg, *]), rfl⟩
  · go_enter Tryd.func65, Tryd.ntmps65; go_wp2; go_ret; exact ⟨retBool (by simp [dg]; omega), rfl⟩
theorem rsmall_any (n : Int) (w : World) : Calls Tryd.prog 41 #[.int .u8 n] w fun e w' => e = .returned (.bool (sm n)) ∧ w' = w := by
  by_cases h1 : 97 ≤ n
  · by_cases h2 : n ≤ 122
    · go_enter Tryd.func41, Tryd.ntmps41; go_wp2; go_ret; exact ⟨retBool (by simp [sm, *]), rfl⟩
    · go_enter Tryd.func41, Tryd.ntmps41; go_wp2; go_ret; exact ⟨retBool (by simp [sm, *]), rfl⟩
  · go_enter Tryd.func41, Tryd.ntmps41; go_wp2; go_ret; exact ⟨retBool (by simp [sm]; omega), rfl⟩
theorem rlarge_any (n : Int) (w : World) : Calls Tryd.prog 43 #[.int .u8 n] w fun e w' => e = .returned (.bool (gr n)) ∧ w' = w := by
  by_cases h1 : 65 ≤ n
  · by_cases h2 : n ≤ 90
    · go_enter Tryd.func43, Tryd.ntmps43; go_wp2; go_ret; exact ⟨retBool (by simp [gr, *]), rfl⟩
    · go_enter Tryd.func43, Tryd.ntmps43; go_wp2; go_ret; exact ⟨retBool (by simp [gr, *]), rfl⟩
  · go_enter Tryd.func43, Tryd.ntmps43; go_wp2; go_ret; exact ⟨retBool (by simp [gr]; omega), rfl⟩
theorem rdigit_any (n : Int) (w : World) : Calls Tryd.prog 44 #[.int .u8 n] w fun e w' => e = .returned (.bool (dg n)) ∧ w' = w := by
  by_cases h1 : 48 ≤ n
  · by_cases h2 : n ≤ 57
    · go_enter Tryd.func44, Tryd.ntmps44; go_wp2; go_ret; exact ⟨retBool (by simp [dg, *]), rfl⟩
    · go_enter Tryd.func44, Tryd.ntmps44; go_wp2; go_ret; exact ⟨retBool (by simp [dg, *]), rfl⟩
  · go_enter Tryd.func44, Tryd.ntmps44; go_wp2; go_ret; exact ⟨retBool (by simp [dg]; omega), rfl⟩
theorem isBlank_any (n : Int) (w : World) : Calls Tryd.prog 56 #[.int .u8 n] w fun e w' => e = .returned (.bool (bl n)) ∧ w' = w := by
  by_cases h9 : n = 9
  · go_enter Tryd.func56, Tryd.ntmps56; go_wp2; go_ret; exact ⟨retBool (by simp [bl, *]), rfl⟩
  by_cases h10 : n = 10
  · go_enter Tryd.func56, Tryd.ntmps56; go_wp2; go_ret; exact ⟨retBool (by simp [bl, *]), rfl⟩
  by_cases h13 : n = 13
  · go_enter Tryd.func56, Tryd.ntmps56; go_wp2; go_ret; exact ⟨retBool (by simp [bl, *]), rfl⟩
  by_cases h32 : n = 32
  · go_enter Tryd.func56, Tryd.ntmps56; go_wp2; go_ret; exact ⟨retBool (by simp [bl, *]), rfl⟩
  go_enter Tryd.func56, Tryd.ntmps56; go_wp2; go_ret; exact ⟨retBool (by simp [bl, *]), rfl⟩
theorem rblank_any (n : Int) (w : World) : Calls Tryd.prog 39 #[.int .u8 n] w fun e w' => e = .returned (.bool (bl n)) ∧ w' = w := by
  by_cases h9 : n = 9
  · go_enter Tryd.func39, Tryd.ntmps39; go_wp2; go_ret; exact ⟨retBool (by simp [bl, *]), rfl⟩
  by_cases h10 : n = 10
  · go_enter Tryd.func39, Tryd.ntmps39; go_wp2; go_ret; exact ⟨retBool (by simp [bl, *]), rfl⟩
  by_cases h13 : n = 13
  · go_enter Tryd.func39, Tryd.ntmps39; go_wp2; go_ret; exact ⟨retBool (by simp [bl, *]), rfl⟩
  by_cases h32 : n = 32
  · go_enter Tryd.func39, Tryd.ntmps39; go_wp2; go_ret; exact ⟨retBool (by simp [bl, *]), rfl⟩
  go_enter Tryd.func39, Tryd.ntmps39; go_wp2; go_ret; exact ⟨retBool (by simp [bl, *]), rfl⟩
theorem isInRun_any (n : Int) (w : World) : Calls Tryd.prog 61 #[.int .u8 n] w fun e w' => e = .returned (.bool (rn n)) ∧ w' = w := by
  have A := isSmall_any n w
  have B := isGreat_any n w
  have C := isDigit_any n w
  rw [rn_split]
  generalize sm n = a at *
  generalize gr n = b at *
  generalize dg n = c at *
  cases a
  · cases b
    · cases c
      · by_cases h : n = 95
        · subst h
          go_enter Tryd.func61, Tryd.ntmps61
          go_wp2_with (first | (go_at_call 59; refine A.mono ?_; rintro e w1 ⟨rfl, rfl⟩) | (go_at_call 64; refine B.mono ?_; rintro e w1 ⟨rfl, rfl⟩) | (go_at_call 65; refine C.mono ?_; rintro e w1 ⟨rfl, rfl⟩))
          go_ret; exact ⟨retBool (by first | rfl | simp [h] | simp), rfl⟩
        · go_enter Tryd.func61, Tryd.ntmps61
          go_wp2_with (first | (go_at_call 59; refine A.mono ?_; rintro e w1 ⟨rfl, rfl⟩) | (go_at_call 64; refine B.mono ?_; rintro e w1 ⟨rfl, rfl⟩) | (go_at_call 65; refine C.mono ?_; rintro e w1 ⟨rfl, rfl⟩))
          go_ret; exact ⟨retBool (by first | rfl | simp [h] | simp), rfl⟩
      · go_enter Tryd.func61, Tryd.ntmps61
        go_wp2_with (first | (go_at_call 59; refine A.mono ?_; rintro e w1 ⟨rfl, rfl⟩) | (go_at_call 64; refine B.mono ?_; rintro e w1 ⟨rfl, rfl⟩) | (go_at_call 65; refine C.mono ?_; rintro e w1 ⟨rfl, rfl⟩))
        go_ret; exact ⟨retBool (by first | rfl | simp [h] | simp), rfl⟩
    · go_enter Tryd.func61, Tryd.ntmps61
      go_wp2_with (first | (go_at_call 59; refine A.mono ?_; rintro e w1 ⟨rfl, rfl⟩) | (go_at_call 64; refine B.mono ?_; rintro e w1 ⟨rfl, rfl⟩) | (go_at_call 65; refine C.mono ?_; rintro e w1 ⟨rfl, rfl⟩))
      go_ret; exact ⟨retBool (by first | rfl | simp [h] | simp), rfl⟩
  · go_enter Tryd.func61, Tryd.ntmps61
    go_wp2_with (first | (go_at_call 59; refine A.mono ?_; rintro e w1 ⟨rfl, rfl⟩) | (go_at_call 64; refine B.mono ?_; rintro e w1 ⟨rfl, rfl⟩) | (go_at_call 65; refine C.mono ?_; rintro e w1 ⟨rfl, rfl⟩))
    go_ret; exact ⟨retBool (by first | rfl | simp [h] | simp), rfl⟩
end Go.Proofs.YtoedeedoecdajaaDoor
