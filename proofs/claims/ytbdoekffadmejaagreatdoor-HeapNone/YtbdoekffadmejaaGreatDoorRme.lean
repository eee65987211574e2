/- Package remember: New; two rows compared; what must come at any rate. -/
import Derived.Test.YtbdoekffadmejaaGreatDoorRmc
namespace Go.Proofs.YtbdoekffadmejaaGreatDoor.Rm
open Go.RowKit
set_option linter.unusedVariables false
set_option linter.unusedSimpArgs false

theorem below_drewN {w w1 : World} {m : Nat} (B : Below m w w1) (n : Nat) : Below m w (w1.drewN n) := by
  exact ⟨B.os, B.tape, B.output, B.size, B.block⟩
theorem info47 : (Tryz.prog.info? 156).map (fun i => (i.zero, i.size, i.bytes)) = some (some (.map none), 1, 8) := by kernel_rfl
def half (n k b : Nat) : List Value := (List.range n).map fun i => if i < k then Value.map (some (b + 1 + i)) else .map none
theorem made_half (n b : Nat) : madeCells #[.map none] n = (half n 0 b).toArray := by
  apply Array.ext
  · simp [madeCells, half]
  · intro i h1 h2
    simp [madeCells, half, Nat.mod_one]
theorem half_set (n k b : Nat) : half n (k + 1) b = (half n k b).set k (.map (some (b + 1 + k))) := by
  apply List.ext_getElem
  · simp [half]
  · intro j h1 h2
    simp only [half, List.getElem_map, List.getElem_range, List.getElem_set]
    split <;> split <;> first | rfl | omega | (split <;> first | rfl | omega) | (rename_i a b; subst b; rfl)
theorem half_all (n b : Nat) : half n n b = maps' n (fun i => b + 1 + i) := by
  unfold half maps'
  exact List.map_congr_left (fun i hi => by rw [if_pos (by simpa using hi)])
structure Mk (w W : World) (n k : Nat) : Prop where
  sets : W.heap[w.heap.size]? = some (.cells (half n k w.heap.size).toArray 156 (0, 0))
  map : ∀ i, i < k → SM W (w.heap.size + 1 + i) []
  size : W.heap.size = w.heap.size + 1 + k
  bel : Below w.heap.size w W
theorem Mk.next {w W : World} {n k : Nat} (h : Mk w W n k) : Mk w ((W.alloc (.map #[] 0)).setCell ⟨w.heap.size, k, none⟩ (.map (some W.heap.size))) n (k + 1) := by
  have hs := h.size
  have b1 : (W.alloc (.map #[] 0)).heap[w.heap.size]? = some (.cells (half n k w.heap.size).toArray 156 (0, 0)) := (Below.heap_alloc _ _ _ (by omega)).trans h.sets
  refine ⟨?_, fun i hi => ?_, by simp [hs]; omega, ?_⟩
  · rw [Joins.block_setCell b1, half_set, hs]; simp
  · by_cases e : i = k
    · subst e
      have := SM.made W
      rw [hs] at this
      exact this.of_block (Below.heap_setCell _ _ _ _ (show w.heap.size + 1 + i ≠ w.heap.size by omega))
    · have q := h.map i (by omega)
      exact (q.of_block (Below.heap_alloc _ _ _ q.lt)).of_block (Below.heap_setCell _ _ _ _ (show w.heap.size + 1 + i ≠ w.heap.size by omega))
  · exact (h.bel.alloc (by omega) _).setCell (Nat.le_refl _) _
theorem Mk.done {w W : World} {n : Nat} (h : Mk w W n n) (hn : 1 ≤ n ∧ n ≤ 4) : Ls w.heap.size (W.alloc (.cells #[.slice (some ⟨w.heap.size, 0, none⟩) n n] 160)) W.heap.size w.heap.size n (fun i => w.heap.size + 1 + i) (fun _ => []) := by
  have hs := h.size
  have b1 := h.sets
  rw [half_all] at b1
  exact ⟨heap_alloc_new _ _, (Below.heap_alloc _ _ _ (by omega)).trans b1, fun i hi => (h.map i hi).of_block (Below.heap_alloc _ _ _ (by omega)), fun i hi => gd_nil, fun i j _ _ e => by simp at e; omega, hn, ⟨by omega, Nat.le_refl _, fun i hi => by omega⟩⟩
set_option maxHeartbeats 1000000 in
theorem new_any (w : World) (n : Nat) (hn : 1 ≤ n ∧ n ≤ 4) :
    Calls Tryz.prog 76 #[.int .i64 (n : Int)] w fun e w' => ∃ s sb m, e = .returned (.tuple #[pv s, .int .i64 0]) ∧ Ls w.heap.size w' s sb n m (fun _ => []) ∧ Below w.heap.size w w' := by
  have hmm := @run_makeMap Tryz.prog
  have hmk := Go.run_make_row' (P := Tryz.prog) 158 156 (.map none) 8 Tryz.underlying158 info47 rfl .i64 .i64 n (by omega) (by omega)
  rw [made_half n w.heap.size] at hmk
  have n1 : ¬ (n : Int) < 1 := by omega
  have n2 : ¬ (n : Int) > 4 := by omega
  go_enter Tryz.func76, Tryz.ntmps76
  go_wp2
  go_loopw [16] (fun i wr => ∃ k : Nat, k ≤ n ∧ i = .int .i64 k ∧ Hid (Mk w wr n k)) (fun i _ => n - (RowKit.intOf i).toNat)
  case atStart => exact ⟨0, Nat.zero_le _, rfl, ⟨⟨heap_alloc_new _ _, fun i hi => absurd hi (Nat.not_lt_zero _), by simp, (Below.refl _ _).alloc (Nat.le_refl _) _⟩⟩⟩
  case round =>
    obtain ⟨k, hk, rfl, H⟩ := hrel
    by_cases hlt : k < n
    · have hlt' : (k : Int) < n := by omega
      have z1 : (wr.alloc (.map #[] 0)).frozen? ⟨w.heap.size, k, none⟩ = false := Joins.unfrozen_of_block ((Below.heap_alloc _ _ _ (by have := H.out.size; omega)).trans H.out.sets) _
      have c1 : (wr.alloc (.map #[] 0)).cell? ⟨w.heap.size, k, none⟩ = some (.map none) := by
        rw [Joins.cell_of_block ((Below.heap_alloc _ _ _ (by have := H.out.size; omega)).trans H.out.sets)]
        simp [half, hlt]
      go_wp2
      go_roundw
      case rel => exact ⟨k + 1, by omega, by go_num, ⟨H.out.next⟩⟩
      case measure => simp [RowKit.intOf]; omega
    · obtain rfl : n = k := by omega
      go_wp2
      go_ret2
      exact ⟨_, _, _, rfl, H.out.done hn, H.out.bel.alloc H.out.bel.size _⟩
theorem new_no (w : World) (n : Int) (hn : ¬ (1 ≤ n ∧ n ≤ 4)) :
    Calls Tryz.prog 76 #[.int .i64 n] w fun e w' => e = .returned (.tuple #[.pointer none, .int .i64 2]) ∧ w' = w := by
  by_cases h : n < 1
  · go_enter Tryz.func76, Tryz.ntmps76
    go_wp2
    go_ret2
    exact ⟨rfl, rfl⟩
  · have h2 : n > 4 := by omega
    go_enter Tryz.func76, Tryz.ntmps76
    go_wp2
    go_ret2
    exact ⟨rfl, rfl⟩
end Go.Proofs.YtbdoekffadmejaaGreatDoor.Rm
