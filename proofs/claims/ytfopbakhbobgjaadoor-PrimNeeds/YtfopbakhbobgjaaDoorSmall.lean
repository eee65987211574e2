/- The contracts of package prim's functions, and of the document's own, that look at numbers alone. -/
import Derived.Test.YtfopbakhbobgjaaDoorProg
import Derived.WalkKit
import Derived.Handy
import Derived.BigQuiet
import Derived.Deep.QuietTactic
import Derived.LoopTactic
namespace Go.Proofs.YtfopbakhbobgjaaDoor
open Go.RowKit
set_option linter.unusedVariables false

structure Hd (p : Prop) : Prop where
  out : p
theorem retInt {k : IntKind} {a b : Int} (h : a = b) : Ending.returned (.int k a) = .returned (.int k b) := by rw [h]
theorem retBool {a b : Bool} (h : a = b) : Ending.returned (.bool a) = .returned (.bool b) := by rw [h]
theorem retPair {k l : IntKind} {a b c d : Int} (h : a = b) (g : c = d) : Ending.returned (.tuple #[.int k a, .int l c]) = .returned (.tuple #[.int k b, .int l d]) := by rw [h, g]

theorem number_any (x : Int) (w : World) (h0 : 0 ≤ x) (h1 : x ≤ 18446744073709551615) :
    Calls Tryd.prog 22 #[.int .u64 x] w fun e w' => e = .returned (.int .i64 (wrap64 x)) ∧ w' = w := by
  by_cases a : x < 9223372036854775808
  · have e : x = wrap64 x := by unfold wrap64; omega
    have E : Hd (x = wrap64 x) := ⟨e⟩
    clear e
    go_enter Tryd.func22, Tryd.ntmps22
    go_wp2
    go_ret
    exact ⟨retInt E.out, rfl⟩
  · have e : wrap64 x = x - 18446744073709551616 := by unfold wrap64; omega
    go_enter Tryd.func22, Tryd.ntmps22
    go_wp2
    go_ret
    exact ⟨retInt (by omega), rfl⟩

theorem truth_any (b : Bool) (w : World) : Calls Tryd.prog 26 #[.bool b] w fun e w' => e = .returned (.int .i64 (if b = true then 1 else 0)) ∧ w' = w := by
  cases b
  all_goals go_enter Tryd.func26, Tryd.ntmps26
  all_goals go_wp2
  all_goals go_ret
  all_goals exact ⟨rfl, rfl⟩

theorem size_any (a : Int) (w : World) (h : -9223372036854775808 ≤ a ∧ a ≤ 9223372036854775807) :
    Calls Tryd.prog 25 #[.int .i64 a] w fun e w' => e = .returned (.int .u64 (a.natAbs : Int)) ∧ w' = w := by
  by_cases b : a < 0
  · have e : (a.natAbs : Int) = - a := by omega
    go_enter Tryd.func25, Tryd.ntmps25
    go_wp2
    go_ret
    exact ⟨retInt (by omega), rfl⟩
  · have e : (a.natAbs : Int) = a := by omega
    go_enter Tryd.func25, Tryd.ntmps25
    go_wp2
    go_ret
    exact ⟨retInt (by omega), rfl⟩

theorem signed_any (n : Int) (m : Bool) (w : World) (h0 : 0 ≤ n) (h1 : n ≤ 18446744073709551615) :
    Calls Tryd.prog 24 #[.int .u64 n, .bool m] w fun e w' => e = .returned (.int .i64 (wrap64 (if m = true then - n else n))) ∧ w' = w := by
  cases m
  · go_enter Tryd.func24, Tryd.ntmps24
    go_wp2_with (go_at_call 22; refine (number_any _ _ h0 h1).mono ?_; rintro e w' ⟨rfl, rfl⟩)
    go_ret
    exact ⟨rfl, rfl⟩
  · go_enter Tryd.func24, Tryd.ntmps24
    go_wp2_with (go_at_call 22; refine (number_any _ _ (by rw [IntKind.wrap_u64]; omega) (by rw [IntKind.wrap_u64]; omega)).mono ?_; rintro e w' ⟨rfl, rfl⟩)
    go_ret
    exact ⟨retInt (by rw [IntKind.wrap_u64]; simp only [wrap64]; omega), rfl⟩
end Go.Proofs.YtfopbakhbobgjaaDoor
