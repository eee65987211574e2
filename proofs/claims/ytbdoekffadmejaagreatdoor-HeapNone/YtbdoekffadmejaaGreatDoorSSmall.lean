/- The contracts of package shape's functions, and of the document's own, that look at numbers alone. -/
import Derived.Test.YtbdoekffadmejaaGreatDoorProg
import Derived.WalkKit
import Derived.Handy
import Derived.BigQuiet
import Derived.Deep.QuietTactic
namespace Go.Proofs.YtbdoekffadmejaaGreatDoor.Sh
open Go.RowKit

theorem retInt {k : IntKind} {a b : Int} (h : a = b) : Ending.returned (.int k a) = .returned (.int k b) := by rw [h]
theorem retBool {a b : Bool} (h : a = b) : Ending.returned (.bool a) = .returned (.bool b) := by rw [h]

def kindB (k : Int) : Bool := decide (1 ≤ k ∧ k ≤ 12)
def hasB (a b n : Int) : Bool := decide (a ≤ n ∧ n ≤ b)
def valueB (k : Int) : Bool := decide (k = 1 ∨ k = 2 ∨ k = 3 ∨ k = 4 ∨ k = 10 ∨ k = 11)
def thunkB (k : Int) : Bool := decide (k = 5 ∨ k = 6 ∨ k = 7)
def passB (k : Int) : Bool := decide (k = 8 ∨ k = 9 ∨ k = 12)
theorem kindB_yes {k : Int} : kindB k = true ↔ 1 ≤ k ∧ k ≤ 12 := by simp [kindB]
theorem kindB_no {k : Int} : kindB k = false ↔ ¬ (1 ≤ k ∧ k ≤ 12) := by simp [kindB]
theorem hasB_yes {a b n : Int} : hasB a b n = true ↔ a ≤ n ∧ n ≤ b := by simp [hasB]
theorem hasB_no {a b n : Int} : hasB a b n = false ↔ ¬ (a ≤ n ∧ n ≤ b) := by simp [hasB]
theorem valueB_yes {k : Int} : valueB k = true ↔ (k = 1 ∨ k = 2 ∨ k = 3 ∨ k = 4 ∨ k = 10 ∨ k = 11) := by simp [valueB]
theorem valueB_no {k : Int} : valueB k = false ↔ ¬ (k = 1 ∨ k = 2 ∨ k = 3 ∨ k = 4 ∨ k = 10 ∨ k = 11) := by simp [valueB]
theorem thunkB_yes {k : Int} : thunkB k = true ↔ (k = 5 ∨ k = 6 ∨ k = 7) := by simp [thunkB]
theorem thunkB_no {k : Int} : thunkB k = false ↔ ¬ (k = 5 ∨ k = 6 ∨ k = 7) := by simp [thunkB]
theorem passB_yes {k : Int} : passB k = true ↔ (k = 8 ∨ k = 9 ∨ k = 12) := by simp [passB]
theorem passB_no {k : Int} : passB k = false ↔ ¬ (k = 8 ∨ k = 9 ∨ k = 12) := by simp [passB]

theorem kind_any (k : Int) (w : World) : Calls Tryz.prog 160 #[.int .i64 k] w fun e w' => e = .returned (.bool (kindB k)) ∧ w' = w := by
  by_cases a : 1 ≤ k
  · by_cases b : k ≤ 12
    · go_enter Tryz.func160, Tryz.ntmps160
      go_wp2
      go_ret
      exact ⟨retBool (kindB_yes.2 ⟨a, b⟩).symm, rfl⟩
    · go_enter Tryz.func160, Tryz.ntmps160
      go_wp2
      go_ret
      exact ⟨retBool (kindB_no.2 (by omega)).symm, rfl⟩
  · go_enter Tryz.func160, Tryz.ntmps160
    go_wp2
    go_ret
    exact ⟨retBool (kindB_no.2 (by omega)).symm, rfl⟩

theorem between_any (n x y : Int) (w : World) : Calls Tryz.prog 114 #[.int .i64 n, .int .i64 x, .int .i64 y] w fun e w' => e = .returned (.bool (hasB x y n)) ∧ w' = w := by
  by_cases a : x ≤ n
  · by_cases b : n ≤ y
    · go_enter Tryz.func114, Tryz.ntmps114
      go_wp2
      go_ret
      exact ⟨retBool (hasB_yes.2 ⟨a, b⟩).symm, rfl⟩
    · go_enter Tryz.func114, Tryz.ntmps114
      go_wp2
      go_ret
      exact ⟨retBool (hasB_no.2 (by omega)).symm, rfl⟩
  · go_enter Tryz.func114, Tryz.ntmps114
    go_wp2
    go_ret
    exact ⟨retBool (hasB_no.2 (by omega)).symm, rfl⟩

theorem has_any (n x y : Int) (w : World) : Calls Tryz.prog 180 #[.agg #[.int .i64 x, .int .i64 y], .int .i64 n] w fun e w' => e = .returned (.bool (hasB x y n)) ∧ Below w.heap.size w w' := by
  by_cases a : x ≤ n
  · by_cases b : n ≤ y
    · go_enter Tryz.func180, Tryz.ntmps180
      go_wp2
      go_ret
      exact ⟨retBool (hasB_yes.2 ⟨a, b⟩).symm, by go_grown⟩
    · go_enter Tryz.func180, Tryz.ntmps180
      go_wp2
      go_ret
      exact ⟨retBool (hasB_no.2 (by omega)).symm, by go_grown⟩
  · go_enter Tryz.func180, Tryz.ntmps180
    go_wp2
    go_ret
    exact ⟨retBool (hasB_no.2 (by omega)).symm, by go_grown⟩
theorem thunk_any (k : Int) (w : World) : Calls Tryz.prog 170 #[.int .i64 k] w fun e w' => e = .returned (.bool (thunkB k)) ∧ w' = w := by
  by_cases a0 : k = 5
  · subst a0
    go_enter Tryz.func170, Tryz.ntmps170
    go_wp2
    go_ret
    exact ⟨retBool (thunkB_yes.2 (by decide)).symm, rfl⟩
  by_cases a1 : k = 6
  · subst a1
    go_enter Tryz.func170, Tryz.ntmps170
    go_wp2
    go_ret
    exact ⟨retBool (thunkB_yes.2 (by decide)).symm, rfl⟩
  by_cases a2 : k = 7
  · subst a2
    go_enter Tryz.func170, Tryz.ntmps170
    go_wp2
    go_ret
    exact ⟨retBool (thunkB_yes.2 (by decide)).symm, rfl⟩
  have z : thunkB k = false := thunkB_no.2 (by omega)
  go_enter Tryz.func170, Tryz.ntmps170
  go_wp2
  go_ret
  exact ⟨retBool (by first | exact z.symm | (rw [z]; simp [a0, a1, a2])), rfl⟩

theorem refThunk_any (k : Int) (w : World) : Calls Tryz.prog 150 #[.int .i64 k] w fun e w' => e = .returned (.bool (thunkB k)) ∧ w' = w := by
  by_cases a0 : k = 5
  · subst a0
    go_enter Tryz.func150, Tryz.ntmps150
    go_wp2
    go_ret
    exact ⟨retBool (thunkB_yes.2 (by decide)).symm, rfl⟩
  by_cases a1 : k = 6
  · subst a1
    go_enter Tryz.func150, Tryz.ntmps150
    go_wp2
    go_ret
    exact ⟨retBool (thunkB_yes.2 (by decide)).symm, rfl⟩
  by_cases a2 : k = 7
  · subst a2
    go_enter Tryz.func150, Tryz.ntmps150
    go_wp2
    go_ret
    exact ⟨retBool (thunkB_yes.2 (by decide)).symm, rfl⟩
  have z : thunkB k = false := thunkB_no.2 (by omega)
  go_enter Tryz.func150, Tryz.ntmps150
  go_wp2
  go_ret
  exact ⟨retBool (by first | exact z.symm | (rw [z]; simp [a0, a1, a2])), rfl⟩

theorem passed_any (k : Int) (w : World) : Calls Tryz.prog 169 #[.int .i64 k] w fun e w' => e = .returned (.bool (passB k)) ∧ w' = w := by
  by_cases a0 : k = 8
  · subst a0
    go_enter Tryz.func169, Tryz.ntmps169
    go_wp2
    go_ret
    exact ⟨retBool (passB_yes.2 (by decide)).symm, rfl⟩
  by_cases a1 : k = 9
  · subst a1
    go_enter Tryz.func169, Tryz.ntmps169
    go_wp2
    go_ret
    exact ⟨retBool (passB_yes.2 (by decide)).symm, rfl⟩
  by_cases a2 : k = 12
  · subst a2
    go_enter Tryz.func169, Tryz.ntmps169
    go_wp2
    go_ret
    exact ⟨retBool (passB_yes.2 (by decide)).symm, rfl⟩
  have z : passB k = false := passB_no.2 (by omega)
  go_enter Tryz.func169, Tryz.ntmps169
  go_wp2
  go_ret
  exact ⟨retBool (by first | exact z.symm | (rw [z]; simp [a0, a1, a2])), rfl⟩

end Go.Proofs.YtbdoekffadmejaaGreatDoor.Sh
