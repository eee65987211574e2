/- Which tokens are tokens, and what they are written as. -/
import Derived.Test.YtofgnpehlheeiaaGreatDoorToks
import Derived.Test.YtofgnpehlheeiaaGreatDoorJust
namespace Go.Proofs.YtofgnpehlheeiaaGreatDoor
open Go.RowKit
set_option linter.unusedVariables false

theorem below_grow (w : World) (k : Nat) (os : Array Obj) : Below w.heap.size w (Sort.grow (w.drewN k) os) :=
  ⟨rfl, rfl, rfl, by show w.heap.size ≤ (w.heap ++ os).size; rw [Array.size_append]; omega, fun j hj => Sort.heap_grow_old (w.drewN k) os hj⟩
def atokV (t : ATok) : Value := .agg #[.int .i64 t.kind, .string (str t.text), .int .i64 t.num, .int .i64 t.at']

set_option maxHeartbeats 1000000 in
theorem isToken_any (t : ATok) (ht : Fit t) (w : World) (L : Laid w) :
    Calls Tryz.prog 39 #[atokV t] w fun e w' => e = .returned (.bool (okT t)) ∧ Below w.heap.size w w' := by
  obtain ⟨k, x, n, a⟩ := t
  obtain ⟨_, _, hx⟩ := ht
  simp only at hx
  unfold atokV
  simp only
  have B0 := Joins.below_alloc1 w (Obj.cells #[Value.int .i64 k, .string (str x), .int .i64 n, .int .i64 a] 58)
  have L1 := L.later B0
  have J := isJust_any (str x) (by rw [str_size]; omega) k _ L1
  rw [str_list] at J
  by_cases h4 : k = 4
  · subst h4
    rw [show okT ⟨4, x, n, a⟩ = true from rfl]
    clear J
    go_enter Tryz.func39, Tryz.ntmps39
    go_wp2
    go_ret
    exact ⟨rfl, B0⟩
  by_cases hk : k = 1 ∨ k = 2 ∨ k = 3 ∨ k = 5 ∨ k = 6
  · have he : okT ⟨k, x, n, a⟩ = justT x k := by
      unfold okT
      rcases hk with rfl | rfl | rfl | rfl | rfl <;> simp
    rw [he]
    generalize justT x k = b at J
    clear he h4
    rcases hk with rfl | rfl | rfl | rfl | rfl
    all_goals (go_enter Tryz.func39, Tryz.ntmps39; go_wp2_with (go_at_call 63; refine J.mono ?_; rintro e w1 ⟨rfl, B1⟩); go_ret; exact ⟨rfl, far1 B1⟩)
  · rw [show okT ⟨k, x, n, a⟩ = false by simp only [not_or] at hk; simp [okT, h4, hk]]
    have k1 : (k == 1) = false := by simp; omega
    have k2 : (k == 2) = false := by simp; omega
    have k3 : (k == 3) = false := by simp; omega
    have k4 : (k == 4) = false := by simp; omega
    have k5 : (k == 5) = false := by simp; omega
    have k6 : (k == 6) = false := by simp; omega
    clear J hk h4
    go_enter Tryz.func39, Tryz.ntmps39
    go_wp2
    go_ret
    exact ⟨rfl, B0⟩

set_option maxHeartbeats 1000000 in
theorem written_any (t : ATok) (ht : Fit t) (w : World) (L : Laid w) :
    Calls Tryz.prog 40 #[atokV t] w fun e w' => e = .returned (.string (str (writ t))) ∧ Below w.heap.size w w' := by
  obtain ⟨k, x, n, a⟩ := t
  obtain ⟨_, ⟨n0, n1⟩, _⟩ := ht
  simp only at n0 n1
  unfold atokV writ
  simp only
  have B0 := Joins.below_alloc1 w (Obj.cells #[Value.int .i64 k, .string (str x), .int .i64 n, .int .i64 a] 58)
  have L1 := L.later B0
  by_cases h4 : k = 4
  · subst h4
    rw [if_pos rfl]
    have F := Tryz.strconv_FormatInt_10 n n0 n1 _ L1.pow
    go_enter Tryz.func40, Tryz.ntmps40
    go_wp2_with (go_at_call 64; refine F.mono ?_; rintro e w1 ⟨rfl, kk, os, rfl⟩)
    go_ret
    exact ⟨rfl, far1 (below_grow _ _ _)⟩
  · rw [if_neg h4]
    have k4 : (k == 4) = false := by simp; omega
    clear h4
    go_enter Tryz.func40, Tryz.ntmps40
    go_wp2
    go_ret
    exact ⟨rfl, B0⟩

end Go.Proofs.YtofgnpehlheeiaaGreatDoor
