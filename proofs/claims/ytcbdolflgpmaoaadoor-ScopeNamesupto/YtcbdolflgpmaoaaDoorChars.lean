/- The contracts of the functions that look at one byte: package lex's and the document's own. -/
import Derived.Test.YtcbdolflgpmaoaaDoorProg
import Derived.Test.YtcbdolflgpmaoaaDoorPure
import Derived.WalkKit
import Derived.Handy
import Derived.BigQuiet
import Derived.Deep.QuietTactic
namespace Go.Proofs.YtcbdolflgpmaoaaDoor
open Go.RowKit

theorem retInt {k : IntKind} {a b : Int} (h : a = b) : Ending.returned (.int k a) = .returned (.int k b) := by rw [h]
theorem retBool {a b : Bool} (h : a = b) : Ending.returned (.bool a) = .returned (.bool b) := by rw [h]
theorem rn_split (n : Int) : rn n = (sm n || (gr n || (dg n || decide (n = 95)))) := by
  simp only [rn, sm, gr, dg, Bool.decide_or]

theorem rsmall_any (n : Int) (w : World) : Calls Tryd.prog 57 #[.int .u8 n] w fun e w' => e = .returned (.bool (sm n)) ∧ w' = w := by
  by_cases h1 : 97 ≤ n
  · by_cases h2 : n ≤ 122
    · go_enter Tryd.func57, Tryd.ntmps57; go_wp2; go_ret; exact ⟨retBool (by simp [sm, *]), rfl⟩
    · go_enter Tryd.func57, Tryd.ntmps57; go_wp2; go_ret; exact ⟨retBool (by simp [sm, *]), rfl⟩
  · go_enter Tryd.func57, Tryd.ntmps57; go_wp2; go_ret; exact ⟨retBool (by simp [sm]; omega), rfl⟩
theorem rlarge_any (n : Int) (w : World) : Calls Tryd.prog 59 #[.int .u8 n] w fun e w' => e = .returned (.bool (gr n)) ∧ w' = w := by
  by_cases h1 : 65 ≤ n
  · by_cases h2 : n ≤ 90
    · go_enter Tryd.func59, Tryd.ntmps59; go_wp2; go_ret; exact ⟨retBool (by simp [gr, *]), rfl⟩
    · go_enter Tryd.func59, Tryd.ntmps59; go_wp2; go_ret; exact ⟨retBool (by simp [gr, *]), rfl⟩
  · go_enter Tryd.func59, Tryd.ntmps59; go_wp2; go_ret; exact ⟨retBool (by simp [gr]; omega), rfl⟩
theorem rdigit_any (n : Int) (w : World) : Calls Tryd.prog 60 #[.int .u8 n] w fun e w' => e = .returned (.bool (dg n)) ∧ w' = w := by
  by_cases h1 : 48 ≤ n
  · by_cases h2 : n ≤ 57
    · go_enter Tryd.func60, Tryd.ntmps60; go_wp2; go_ret; exact ⟨retBool (by simp [dg, *]), rfl⟩
    · go_enter Tryd.func60, Tryd.ntmps60; go_wp2; go_ret; exact ⟨retBool (by simp [dg, *]), rfl⟩
  · go_enter Tryd.func60, Tryd.ntmps60; go_wp2; go_ret; exact ⟨retBool (by simp [dg]; omega), rfl⟩
theorem rblank_any (n : Int) (w : World) : Calls Tryd.prog 55 #[.int .u8 n] w fun e w' => e = .returned (.bool (bl n)) ∧ w' = w := by
  by_cases h9 : n = 9
  · go_enter Tryd.func55, Tryd.ntmps55; go_wp2; go_ret; exact ⟨retBool (by simp [bl, *]), rfl⟩
  by_cases h10 : n = 10
  · go_enter Tryd.func55, Tryd.ntmps55; go_wp2; go_ret; exact ⟨retBool (by simp [bl, *]), rfl⟩
  by_cases h13 : n = 13
  · go_enter Tryd.func55, Tryd.ntmps55; go_wp2; go_ret; exact ⟨retBool (by simp [bl, *]), rfl⟩
  by_cases h32 : n = 32
  · go_enter Tryd.func55, Tryd.ntmps55; go_wp2; go_ret; exact ⟨retBool (by simp [bl, *]), rfl⟩
  go_enter Tryd.func55, Tryd.ntmps55; go_wp2; go_ret; exact ⟨retBool (by simp [bl, *]), rfl⟩
end Go.Proofs.YtcbdolflgpmaoaaDoor
