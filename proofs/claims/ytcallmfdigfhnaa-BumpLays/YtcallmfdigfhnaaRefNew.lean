/- The document's own pool made: its row grows by one block a round. -/
import Derived.Test.YtcallmfdigfhnaaRef
import Derived.Test.YtcallmfdigfhnaaPush
namespace Go.Proofs.Ytcallmfdigfhnaa
open Go.RowKit
set_option linter.unusedVariables false

def nones (k : Nat) : List Value := List.replicate k (.int .i64 (-1))
theorem nones_snoc (k : Nat) : nones k ++ [.int .i64 (-1)] = nones (k + 1) := by simp [nones, List.replicate_succ']
/-- The box z holds a row of k blocks that nobody has. -/
structure Fill (w0 w : World) (z k : Nat) : Prop where
  ex : ∃ va, w.heap[z]? = some (.cells #[va] 90 (0, 0)) ∧ w.ownsRow (z + 1) 3 1 va k (nones k)
  sz : z + 1 ≤ w.heap.size
  bel : Below z w0 w
theorem fill_new (w : World) : Fill w (w.alloc (.cells #[.slice none 0 0] 90)) w.heap.size 0 :=
  ⟨⟨_, heap_alloc_new _ _, World.ownsRow_nil _ _ _ _⟩, by simp, (Below.refl _ w).alloc (Nat.le_refl _) _⟩
theorem fill_end {w0 w w1 : World} {z k : Nat} {va v : Value} {o : Obj} (sz : z + 1 ≤ w.heap.size) (bel : Below z w0 w) (ba : w.heap[z]? = some (.cells #[va] 90 (0, 0))) (oa : w.ownsRow (z + 1) 3 1 va k (nones k))
    (ho : w1.ownsRow (z + 1) 3 1 v (k + 1) (nones k ++ [.int .i64 (-1)])) (hg : (w.alloc o).grownBy w1 va.ownBlock) : Fill w0 (w1.setCell ⟨z, 0, none⟩ v) z (k + 1) := by
  have B0 := g3 w o
  have s0 := B0.size
  have s1 := hg.size
  have old : ∀ k, k < z + 1 → w1.heap[k]? = w.heap[k]? := by
    intro k hk
    have e1 : (w.alloc o).heap[k]? = w.heap[k]? := B0.block k (by omega) (by simp)
    exact (hg.block k (by omega) (fun e => by have := oa.lt k e.symm; omega)).trans e1
  refine ⟨⟨v, ?_, ?_⟩, by simp; omega, ⟨?_, ?_, ?_, by simp; have := bel.size; omega, fun j hj => ?_⟩⟩
  · rw [Joins.block_setCell ((old z (by omega)).trans ba)]; rfl
  · rw [nones_snoc] at ho
    exact ownsRow_setCell_below ho (by simp) _
  · exact hg.os.trans (B0.os.trans bel.os)
  · exact hg.tape.trans (B0.tape.trans bel.tape)
  · exact hg.output.trans (B0.output.trans bel.output)
  · exact (Below.heap_setCell _ _ _ _ (show j ≠ z by omega)).trans ((old j (by omega)).trans (bel.block j hj))
theorem fill_ref {w0 w : World} {z k : Nat} (h : Fill w0 w z k) (h1 : 1 ≤ k) (h2 : k ≤ 4096) : ∃ b c, z < b ∧ Ref w z b (fun _ => -1) k c := by
  obtain ⟨⟨va, ba, oa⟩, sz, bel⟩ := h
  rcases oa.2 with ⟨_, e⟩ | ⟨g, cap, cur, hv, hb, hg, h3, h4, h5, h6⟩
  · omega
  · subst hv
    refine ⟨g, cap, by omega, ba, ⟨cur, hg, fun j hj => ?_⟩, by omega, h2⟩
    have e : (cur.toList.take (k * 1))[j]? = (nones k)[j]? := by rw [h6]
    rw [Nat.mul_one, List.getElem?_take_of_lt hj] at e
    simpa [nones, hj] using e
set_option maxRecDepth 100000 in
set_option maxHeartbeats 2000000 in
theorem rnew_ok (n : Nat) (w : World) (h1 : 1 ≤ n) (h2 : n ≤ 4096) :
    Calls Try.prog 26 #[.int .i64 n] w fun e w' => e = .returned (.tuple #[.pointer (some ⟨w.heap.size, 0, none⟩), .int .i64 0]) ∧ (∃ b c, w.heap.size < b ∧ Ref w' w.heap.size b (fun _ => -1) n c) ∧ Below w.heap.size w w' := by
  have F0 := fill_new w
  obtain ⟨i0, hi, hz0, hz1, hz2⟩ := info_parts info3
  go_enter Try.func26, Try.ntmps26
  go_wp2
  go_loopw [5] (fun i wr => ∃ k : Nat, k ≤ n ∧ i = .int .i64 k ∧ Hid (Fill w wr w.heap.size k)) (fun i _ => n - (intOf i).toNat)
  case atStart => exact ⟨0, Nat.zero_le _, rfl, F0⟩
  case round =>
    obtain ⟨k, hk, rfl, F⟩ := hrel
    clear F0
    by_cases hlt : k < n
    · obtain ⟨⟨va, ba, oa⟩, sz, bel⟩ := F.out
      have c1 : wr.cell? ⟨w.heap.size, 0, none⟩ = some va := by rw [Joins.cell_of_block ba]; rfl
      have y1 : wr.frozen? ⟨w.heap.size, 0, none⟩ = false := Joins.unfrozen_of_block ba 0
      have HS : Hid (w.heap.size + 1 ≤ wr.heap.size) := sz
      have HB : Hid (Below w.heap.size w wr) := bel
      have HA : Hid (wr.heap[w.heap.size]? = some (.cells #[va] 90 (0, 0))) := ba
      clear F sz bel ba
      go_wp2_with (at_builtin; refine wpList_append_lies _ rfl (.tmp 23) (.tmp 24) 42 rfl (w.heap.size + 1) 3 i0 (.int .i64 0) 1 8 Try.underlying42 hi hz0 hz1 hz2 rfl (by decide) va _ _ rfl (oa.kept (g3 _ _) (Classical.em _)) ⟨_, 0, none⟩ 1 1 [.int .i64 (-1)] rfl rfl (news_one (nb4 _ _)) (by simp [Value.oneCell']) (by decide) (by unfold maxLen; omega) (by omega) (Nat.le_trans HS.out (by simp)) _ rfl ?_; intro q cap1 w1 ho hg hat hlt2; have d2 := far_cell oa (g3 wr (.cells #[.int .i64 (-1)] 3)) hg (Nat.lt_succ_self _) c1; have d3 := far_frozen oa (g3 wr (.cells #[.int .i64 (-1)] 3)) hg (Nat.lt_succ_self _) HS.out y1; have HF : Hid (Fill w (w1.setCell ⟨w.heap.size, 0, none⟩ (.slice (some ⟨q, 0, none⟩) (k + 1) cap1)) w.heap.size (k + 1)) := fill_end HS.out HB.out HA.out oa ho hg; clear ho hg hat hlt2)
      go_roundw
      case rel => exact ⟨k + 1, by omega, by go_num, HF⟩
      case measure => simp [intOf]; omega
    · obtain rfl : k = n := by omega
      go_wp2
      go_ret2
      exact ⟨rfl, fill_ref F.out h1 h2, F.out.bel⟩
theorem rnew_no (n : Int) (w : World) (h : ¬ (1 ≤ n ∧ n ≤ 4096)) :
    Calls Try.prog 26 #[.int .i64 n] w fun e w' => e = .returned (.tuple #[.pointer none, .int .i64 7]) ∧ w' = w := by
  by_cases h1 : n < 1
  · go_enter Try.func26, Try.ntmps26
    go_wp2
    go_ret2
    exact ⟨rfl, rfl⟩
  · have h2 : 4096 < n := by omega
    have h3 : 1 ≤ n := by omega
    go_enter Try.func26, Try.ntmps26
    go_wp2
    go_ret2
    exact ⟨rfl, rfl⟩
end Go.Proofs.Ytcallmfdigfhnaa
