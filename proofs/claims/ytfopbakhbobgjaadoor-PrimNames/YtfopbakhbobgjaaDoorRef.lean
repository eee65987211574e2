/- What the document's own functions of layer 8 answer, and what the program's table holds, as plain numbers and texts. -/
import Derived.Test.YtfopbakhbobgjaaDoorProd
namespace Go.Proofs.YtfopbakhbobgjaaDoor
open Go.RowKit
set_option linter.unusedVariables false

def str (l : List UInt8) : ByteArray := ⟨l.toArray⟩
def tN : Nat → List UInt8 | 1 => [35, 97, 100, 100] | 2 => [35, 115, 117, 98] | 3 => [35, 109, 117, 108] | 4 => [35, 100, 105, 118] | 5 => [35, 114, 101, 109] | 6 => [35, 101, 113] | 7 => [35, 108, 116] | 8 => [35, 101, 109, 105, 116] | 9 => [35, 115, 101, 113] | 10 => [35, 114, 101, 102] | 11 => [35, 103, 101, 116] | 12 => [35, 115, 101, 116] | 13 => [35, 97, 114, 114] | 14 => [35, 97, 116] | 15 => [35, 112, 117, 116] | 16 => [35, 108, 101, 110] | _ => []
def tA : Nat → Int | 1 => 2 | 2 => 2 | 3 => 2 | 4 => 2 | 5 => 2 | 6 => 2 | 7 => 2 | 8 => 1 | 9 => 2 | 10 => 1 | 11 => 1 | 12 => 2 | 13 => 2 | 14 => 2 | 15 => 3 | 16 => 1 | _ => 0
def tB : Nat → Int | 1 => 2 | 2 => 2 | 3 => 2 | 4 => 2 | 5 => 2 | 6 => 2 | 7 => 2 | 8 => 2 | 9 => 1 | 11 => 3 | 12 => 3 | 13 => 2 | 14 => 4 | 15 => 4 | 16 => 4 | _ => 0
def tC : Nat → Int | 1 => 2 | 2 => 2 | 3 => 2 | 4 => 2 | 5 => 2 | 6 => 2 | 7 => 2 | 14 => 2 | 15 => 2 | _ => 0

/-- the row of a number: its own, or that of none -/
def rowN (n : Int) : Nat := if 0 ≤ n ∧ n ≤ 16 then n.toNat else 0
theorem rowN_in {k : Nat} (h : k < 17) : rowN k = k := by unfold rowN; rw [if_pos (by omega)]; omega
theorem rowN_out {n : Int} (h : ¬ (0 ≤ n ∧ n ≤ 16)) : rowN n = 0 := if_neg h
theorem rowN_lt (n : Int) : rowN n < 17 := by unfold rowN; split <;> omega
theorem split17 {P : Int → Prop} (n : Int) (hin : ∀ k : Nat, k < 17 → P k) (hout : ¬ (0 ≤ n ∧ n ≤ 16) → P n) : P n := by
  by_cases h : 0 ≤ n ∧ n ≤ 16
  · have := hin n.toNat (by omega)
    rwa [Int.toNat_of_nonneg h.1] at this
  · exact hout h
def needI (k : Nat) (i : Int) : Int := if i = 0 then tB k else if i = 1 then tC k else 0

set_option maxHeartbeats 1000000 in
theorem refName_in (k : Nat) (hk : k < 17) (w : World) : Calls Tryd.prog 10 #[.int .i64 k] w fun e w' => e = .returned (.string (str (tN k))) ∧ w' = w := by
  have c : k = 0 ∨ k = 1 ∨ k = 2 ∨ k = 3 ∨ k = 4 ∨ k = 5 ∨ k = 6 ∨ k = 7 ∨ k = 8 ∨ k = 9 ∨ k = 10 ∨ k = 11 ∨ k = 12 ∨ k = 13 ∨ k = 14 ∨ k = 15 ∨ k = 16 := by omega
  rcases c with rfl | rfl | rfl | rfl | rfl | rfl | rfl | rfl | rfl | rfl | rfl | rfl | rfl | rfl | rfl | rfl | rfl
  · go_enter Tryd.func10, Tryd.ntmps10
    go_wp2
    go_ret
    exact ⟨rfl, rfl⟩
  · go_enter Tryd.func10, Tryd.ntmps10
    go_wp2
    go_ret
    exact ⟨rfl, rfl⟩
  · go_enter Tryd.func10, Tryd.ntmps10
    go_wp2
    go_ret
    exact ⟨rfl, rfl⟩
  · go_enter Tryd.func10, Tryd.ntmps10
    go_wp2
    go_ret
    exact ⟨rfl, rfl⟩
  · go_enter Tryd.func10, Tryd.ntmps10
    go_wp2
    go_ret
    exact ⟨rfl, rfl⟩
  · go_enter Tryd.func10, Tryd.ntmps10
    go_wp2
    go_ret
    exact ⟨rfl, rfl⟩
  · go_enter Tryd.func10, Tryd.ntmps10
    go_wp2
    go_ret
    exact ⟨rfl, rfl⟩
  · go_enter Tryd.func10, Tryd.ntmps10
    go_wp2
    go_ret
    exact ⟨rfl, rfl⟩
  · go_enter Tryd.func10, Tryd.ntmps10
    go_wp2
    go_ret
    exact ⟨rfl, rfl⟩
  · go_enter Tryd.func10, Tryd.ntmps10
    go_wp2
    go_ret
    exact ⟨rfl, rfl⟩
  · go_enter Tryd.func10, Tryd.ntmps10
    go_wp2
    go_ret
    exact ⟨rfl, rfl⟩
  · go_enter Tryd.func10, Tryd.ntmps10
    go_wp2
    go_ret
    exact ⟨rfl, rfl⟩
  · go_enter Tryd.func10, Tryd.ntmps10
    go_wp2
    go_ret
    exact ⟨rfl, rfl⟩
  · go_enter Tryd.func10, Tryd.ntmps10
    go_wp2
    go_ret
    exact ⟨rfl, rfl⟩
  · go_enter Tryd.func10, Tryd.ntmps10
    go_wp2
    go_ret
    exact ⟨rfl, rfl⟩
  · go_enter Tryd.func10, Tryd.ntmps10
    go_wp2
    go_ret
    exact ⟨rfl, rfl⟩
  · go_enter Tryd.func10, Tryd.ntmps10
    go_wp2
    go_ret
    exact ⟨rfl, rfl⟩

set_option maxHeartbeats 1000000 in
theorem refName_out (n : Int) (h : ¬ (0 ≤ n ∧ n ≤ 16)) (w : World) : Calls Tryd.prog 10 #[.int .i64 n] w fun e w' => e = .returned (.string (str [])) ∧ w' = w := by
  have e1 : (n == 1) = false := by simp; omega
  have e2 : (n == 2) = false := by simp; omega
  have e3 : (n == 3) = false := by simp; omega
  have e4 : (n == 4) = false := by simp; omega
  have e5 : (n == 5) = false := by simp; omega
  have e6 : (n == 6) = false := by simp; omega
  have e7 : (n == 7) = false := by simp; omega
  have e8 : (n == 8) = false := by simp; omega
  have e9 : (n == 9) = false := by simp; omega
  have e10 : (n == 10) = false := by simp; omega
  have e11 : (n == 11) = false := by simp; omega
  have e12 : (n == 12) = false := by simp; omega
  have e13 : (n == 13) = false := by simp; omega
  have e14 : (n == 14) = false := by simp; omega
  have e15 : (n == 15) = false := by simp; omega
  have e16 : (n == 16) = false := by simp; omega
  go_enter Tryd.func10, Tryd.ntmps10
  go_wp2
  go_ret
  exact ⟨rfl, rfl⟩
theorem refName_any (n : Int) (w : World) : Calls Tryd.prog 10 #[.int .i64 n] w fun e w' => e = .returned (.string (str (tN (rowN n)))) ∧ w' = w := by
  refine split17 (P := fun n => Calls Tryd.prog 10 #[.int .i64 n] w fun e w' => e = .returned (.string (str (tN (rowN n)))) ∧ w' = w) n (fun k hk => ?_) (fun h => ?_)
  · rw [rowN_in hk]; exact refName_in k hk w
  · rw [rowN_out h]; exact refName_out n h w

set_option maxHeartbeats 1000000 in
theorem refArity_in (k : Nat) (hk : k < 17) (w : World) : Calls Tryd.prog 14 #[.int .i64 k] w fun e w' => e = .returned (.int .i64 (tA k)) ∧ w' = w := by
  have c : k = 0 ∨ k = 1 ∨ k = 2 ∨ k = 3 ∨ k = 4 ∨ k = 5 ∨ k = 6 ∨ k = 7 ∨ k = 8 ∨ k = 9 ∨ k = 10 ∨ k = 11 ∨ k = 12 ∨ k = 13 ∨ k = 14 ∨ k = 15 ∨ k = 16 := by omega
  rcases c with rfl | rfl | rfl | rfl | rfl | rfl | rfl | rfl | rfl | rfl | rfl | rfl | rfl | rfl | rfl | rfl | rfl
  · go_enter Tryd.func14, Tryd.ntmps14
    go_wp2
    go_ret
    exact ⟨rfl, rfl⟩
  · go_enter Tryd.func14, Tryd.ntmps14
    go_wp2
    go_ret
    exact ⟨rfl, rfl⟩
  · go_enter Tryd.func14, Tryd.ntmps14
    go_wp2
    go_ret
    exact ⟨rfl, rfl⟩
  · go_enter Tryd.func14, Tryd.ntmps14
    go_wp2
    go_ret
    exact ⟨rfl, rfl⟩
  · go_enter Tryd.func14, Tryd.ntmps14
    go_wp2
    go_ret
    exact ⟨rfl, rfl⟩
  · go_enter Tryd.func14, Tryd.ntmps14
    go_wp2
    go_ret
    exact ⟨rfl, rfl⟩
  · go_enter Tryd.func14, Tryd.ntmps14
    go_wp2
    go_ret
    exact ⟨rfl, rfl⟩
  · go_enter Tryd.func14, Tryd.ntmps14
    go_wp2
    go_ret
    exact ⟨rfl, rfl⟩
  · go_enter Tryd.func14, Tryd.ntmps14
    go_wp2
    go_ret
    exact ⟨rfl, rfl⟩
  · go_enter Tryd.func14, Tryd.ntmps14
    go_wp2
    go_ret
    exact ⟨rfl, rfl⟩
  · go_enter Tryd.func14, Tryd.ntmps14
    go_wp2
    go_ret
    exact ⟨rfl, rfl⟩
  · go_enter Tryd.func14, Tryd.ntmps14
    go_wp2
    go_ret
    exact ⟨rfl, rfl⟩
  · go_enter Tryd.func14, Tryd.ntmps14
    go_wp2
    go_ret
    exact ⟨rfl, rfl⟩
  · go_enter Tryd.func14, Tryd.ntmps14
    go_wp2
    go_ret
    exact ⟨rfl, rfl⟩
  · go_enter Tryd.func14, Tryd.ntmps14
    go_wp2
    go_ret
    exact ⟨rfl, rfl⟩
  · go_enter Tryd.func14, Tryd.ntmps14
    go_wp2
    go_ret
    exact ⟨rfl, rfl⟩
  · go_enter Tryd.func14, Tryd.ntmps14
    go_wp2
    go_ret
    exact ⟨rfl, rfl⟩

set_option maxHeartbeats 1000000 in
theorem refArity_out (n : Int) (h : ¬ (0 ≤ n ∧ n ≤ 16)) (w : World) : Calls Tryd.prog 14 #[.int .i64 n] w fun e w' => e = .returned (.int .i64 0) ∧ w' = w := by
  by_cases a : n < 1
  · go_enter Tryd.func14, Tryd.ntmps14
    go_wp2
    go_ret
    exact ⟨rfl, rfl⟩
  · have b : 16 < n := by omega
    go_enter Tryd.func14, Tryd.ntmps14
    go_wp2
    go_ret
    exact ⟨rfl, rfl⟩
theorem refArity_any (n : Int) (w : World) : Calls Tryd.prog 14 #[.int .i64 n] w fun e w' => e = .returned (.int .i64 (tA (rowN n))) ∧ w' = w := by
  refine split17 (P := fun n => Calls Tryd.prog 14 #[.int .i64 n] w fun e w' => e = .returned (.int .i64 (tA (rowN n))) ∧ w' = w) n (fun k hk => ?_) (fun h => ?_)
  · rw [rowN_in hk]; exact refArity_in k hk w
  · rw [rowN_out h]; exact refArity_out n h w
end Go.Proofs.YtfopbakhbobgjaaDoor
