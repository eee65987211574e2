/- Package stable: New; numbers of the two laws' functions. -/
import Derived.Test.YtejjobemafdlbaaSbf
namespace Go.Proofs.Ytejjobemafdlbaa
open Go.RowKit
set_option linter.unusedVariables false
set_option linter.unusedSimpArgs false

theorem new_any (w : World) (n : Nat) (hn : 1 ≤ n ∧ n ≤ 256) :
    Calls Try.prog 8 #[.int .i64 (n : Int)] w fun e w' => ∃ s sb, e = .returned (.tuple #[pv s, .int .i64 0]) ∧ Tb w.heap.size w' s sb n 1 (fun _ => 0) (fun _ => 1) ∧ Below w.heap.size w w' := by
  have n1 : ¬ (n : Int) < 1 := by omega
  have n2 : ¬ (n : Int) > 256 := by omega
  have RP := repeat_any (w.alloc (.cells #[.int .i64 0, .int .i64 1] 53)) w.heap.size n hn ⟨by rw [Joins.cell_of_block (heap_alloc_new _ _)]; rfl, by rw [Joins.cell_of_block (heap_alloc_new _ _)]; rfl⟩
  go_enter Try.func8, Try.ntmps8
  go_wp2_with (go_at_call 26; refine RP.mono ?_; clear RP; rintro e w1 ⟨g, rfl, hg, F1, B1⟩; have hs := B1.size; have HB1 := Hid.mk B1; have HF1 := Hid.mk F1; clear B1 F1)
  go_ret2
  have B0 : Below w.heap.size w w1 := ((Below.refl _ w).alloc (Nat.le_refl _) _).trans (HB1.out.mono (by simp))
  have gl := HF1.out.lt
  simp at hg hs
  refine ⟨_, g, rfl, ⟨heap_alloc_new _ _, ?_, fun i hi => by simp, hn, by omega, by omega⟩, B0.alloc B0.size _⟩
  obtain ⟨cur, h1, h2, h3, h4⟩ := HF1.out
  exact ⟨cur, (Below.heap_alloc _ _ _ gl).trans h1, h3⟩
theorem new_no (w : World) (n : Int) (hn : ¬ (1 ≤ n ∧ n ≤ 256)) :
    Calls Try.prog 8 #[.int .i64 n] w fun e w' => e = .returned (.tuple #[.pointer none, .int .i64 2]) ∧ w' = w := by
  by_cases h : n < 1
  · go_enter Try.func8, Try.ntmps8
    go_wp2
    go_ret2
    exact ⟨rfl, rfl⟩
  · have h2 : n > 256 := by omega
    go_enter Try.func8, Try.ntmps8
    go_wp2
    go_ret2
    exact ⟨rfl, rfl⟩
/-- what an address is turned to by a number; 0 where that is none -/
def byI (a n : Int) : Int := if n < 0 ∨ 524288 < n then 0 else a + n
theorem by_any (w : World) (a n : Int) (ha : 0 ≤ a ∧ a ≤ 524288) (hn : -9223372036854775808 ≤ n ∧ n ≤ 9223372036854775807) :
    Calls Try.prog 19 #[.int .i64 a, .int .i64 n] w fun e w' => e = .returned (.int .i64 (byI a n)) ∧ w' = w := by
  by_cases h1 : n < 0
  · rw [show byI a n = 0 by simp [byI, h1]]
    go_enter Try.func19, Try.ntmps19
    go_wp2
    go_ret
    exact ⟨rfl, rfl⟩
  · by_cases h2 : 524288 < n
    · rw [show byI a n = 0 by simp [byI, h2]]
      have g : n > 524288 := h2
      go_enter Try.func19, Try.ntmps19
      go_wp2
      go_ret
      exact ⟨rfl, rfl⟩
    · rw [show byI a n = a + n by rw [byI, if_neg (by omega)]]
      have g : ¬ n > 524288 := h2
      go_enter Try.func19, Try.ntmps19
      go_wp2
      go_ret
      exact ⟨rfl, rfl⟩
end Go.Proofs.Ytejjobemafdlbaa
