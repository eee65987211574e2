/- What the statement's own function does with each place that a range tells: it is put behind a list, and it says whether more is wanted. -/
import Derived.Test.YtdiibckplkkkkaaDoorRight
import Derived.Deep.AppendLies
import Derived.Lib.SmallJoins
import Derived.Deep.RegionHeld3
namespace Go.Proofs.YtdiibckplkkkkaaDoor
open Go.RowKit
set_option linter.unusedVariables false

def ints (xs : List Int) : List Value := xs.map (Value.int .i64)
theorem ints_length (xs : List Int) : (ints xs).length = xs.length := by simp [ints]
theorem ints_snoc (xs : List Int) (x : Int) : ints (xs ++ [x]) = ints xs ++ [.int .i64 x] := by simp [ints]
/-- The places from 1 to j. -/
def places : Nat → List Int
  | 0 => []
  | j + 1 => places j ++ [(j : Int) + 1]
theorem places_length : ∀ j, (places j).length = j
  | 0 => rfl
  | j + 1 => by simp [places, places_length j]
theorem places_get : ∀ (j t : Nat), t < j → (places j)[t]? = some ((t : Int) + 1)
  | j + 1, t, h => by
    rw [places]
    by_cases e : t < j
    · rw [List.getElem?_append_left (by rw [places_length]; exact e)]; exact places_get j t e
    · obtain rfl : t = j := by omega
      rw [List.getElem?_append_right (by rw [places_length]; exact Nat.le_refl _), places_length]; simp

/-- The box z holds a list of numbers, a row of its own at or beyond n. -/
structure One (w : World) (z n : Nat) (xs : List Int) : Prop where
  ex : ∃ va, w.heap[z]? = some (.cells #[va] 34 (0, 0)) ∧ w.ownsRow n 3 1 va xs.length (ints xs)
  le : z < n
  sz : n ≤ w.heap.size
/-- Nothing below n has turned but the block z. -/
structure Bar (z n : Nat) (w w' : World) : Prop where
  os : w'.os = w.os
  tape : w'.tape = w.tape
  output : w'.output = w.output
  size : w.heap.size ≤ w'.heap.size
  block : ∀ k, k < n → k ≠ z → w'.heap[k]? = w.heap[k]?
theorem Bar.refl (z n : Nat) (w : World) : Bar z n w w := ⟨rfl, rfl, rfl, Nat.le_refl _, fun _ _ _ => rfl⟩
theorem Bar.trans {z n : Nat} {u v w : World} (h : Bar z n u v) (k : Bar z n v w) : Bar z n u w :=
  ⟨k.os.trans h.os, k.tape.trans h.tape, k.output.trans h.output, Nat.le_trans h.size k.size, fun i h1 h2 => (k.block i h1 h2).trans (h.block i h1 h2)⟩
theorem Bar.later {z n : Nat} {u v : World} (h : Below u.heap.size u v) (hn : n ≤ u.heap.size) : Bar z n u v := ⟨h.os, h.tape, h.output, h.size, fun i h1 _ => h.block i (by omega)⟩
theorem One.later {w w' : World} {z n : Nat} {xs : List Int} (h : One w z n xs) (B : Below w.heap.size w w') : One w' z n xs := by
  obtain ⟨⟨va, ba, oa⟩, le, sz⟩ := h
  have G : w.grownBy w' none := ⟨B.os, B.tape, B.output, B.size, fun k hk _ => B.block k hk⟩
  exact ⟨⟨va, (B.block z (by omega)).trans ba, oa.kept G (Classical.em _)⟩, le, Nat.le_trans sz B.size⟩

theorem info3 : (Tryd.prog.info? 3).map (fun i => (i.zero, i.size, i.bytes)) = some (some (.int .i64 0), 1, 8) := by kernel_rfl
theorem news_one {W : World} {g : Nat} {v : Value} {t : TypeId} (h : W.heap[g]? = some (.cells #[v] t (0, 0))) : ∀ j u, [v][j]? = some u → W.cell? ((⟨g, 0, none⟩ : Addr).add j) = some u := by
  intro j u hj
  match j, hj with
  | 0, hj =>
    simp at hj
    subst hj
    have : (⟨g, 0, none⟩ : Addr).add 0 = ⟨g, 0, none⟩ := by unfold Addr.add; simp
    rw [this, Joins.cell_of_block h]
    rfl
  | j + 1, hj => simp at hj
theorem g3 (w : World) (o : Obj) : w.grownBy (w.alloc o) none := World.grownBy_alloc w o none
theorem nb4 (w : World) (o : Obj) : (w.alloc o).heap[w.heap.size]? = some o := heap_alloc_new w o
theorem far_cell {w W w1 : World} {n k : Nat} {va v : Value} {m : Nat} {cs : List Value} (oa : w.ownsRow n 3 1 va m cs) (B : w.grownBy W none) (G : W.grownBy w1 va.ownBlock) (hk : k < n) (c : w.cell? ⟨k, 0, none⟩ = some v) : w1.cell? ⟨k, 0, none⟩ = some v := by
  have l := World.block_lt_of_cell? _ _ c
  have e1 : w1.heap[k]? = W.heap[k]? := G.block k (Nat.lt_of_lt_of_le l B.size) (fun e => by have := oa.lt k e.symm; omega)
  have e2 : W.heap[k]? = w.heap[k]? := B.block k l (by simp)
  exact (World.cell?_of_block (w := w) (a := ⟨k, 0, none⟩) (e1.trans e2)).trans c
theorem far_frozen {w W w1 : World} {n k : Nat} {va : Value} {m : Nat} {cs : List Value} (oa : w.ownsRow n 3 1 va m cs) (B : w.grownBy W none) (G : W.grownBy w1 va.ownBlock) (hk : k < n) (sz : n ≤ w.heap.size) (c : w.frozen? ⟨k, 0, none⟩ = false) : w1.frozen? ⟨k, 0, none⟩ = false := by
  have e1 : w1.heap[k]? = W.heap[k]? := G.block k (Nat.lt_of_lt_of_le (by omega) B.size) (fun e => by have := oa.lt k e.symm; omega)
  have e2 : W.heap[k]? = w.heap[k]? := B.block k (by omega) (by simp)
  exact (World.frozen?_of_block (w := w) (a := ⟨k, 0, none⟩) (e1.trans e2)).trans c

theorem one_end {w w1 : World} {z n : Nat} {xs : List Int} {x : Int} {va v : Value} {o : Obj} (le : z < n) (sz : n ≤ w.heap.size) (ba : w.heap[z]? = some (.cells #[va] 34 (0, 0))) (oa : w.ownsRow n 3 1 va xs.length (ints xs))
    (ho : w1.ownsRow n 3 1 v (xs.length + 1) (ints xs ++ [.int .i64 x])) (hg : (w.alloc o).grownBy w1 va.ownBlock) :
    One (w1.setCell ⟨z, 0, none⟩ v) z n (xs ++ [x]) ∧ Bar z n w (w1.setCell ⟨z, 0, none⟩ v) := by
  have B0 := g3 w o
  have s0 := B0.size
  have s1 := hg.size
  have old : ∀ k, k < n → w1.heap[k]? = w.heap[k]? := by
    intro k hk
    have e1 : (w.alloc o).heap[k]? = w.heap[k]? := B0.block k (by omega) (by simp)
    exact (hg.block k (by omega) (fun e => by have := oa.lt k e.symm; omega)).trans e1
  refine ⟨⟨⟨v, ?_, ?_⟩, le, by simp; omega⟩, ⟨?_, ?_, ?_, by simp; omega, fun k hk h1 => ?_⟩⟩
  · rw [Joins.block_setCell ((old z le).trans ba)]; rfl
  · rw [ints_snoc, List.length_append]
    exact ownsRow_setCell_below ho (by simp; omega) _
  · exact hg.os.trans B0.os
  · exact hg.tape.trans B0.tape
  · exact hg.output.trans B0.output
  · exact (Below.heap_setCell _ _ _ _ h1).trans (old k hk)

set_option maxRecDepth 100000 in
set_option maxHeartbeats 2000000 in
theorem push_ok {w : World} {z y n : Nat} {xs : List Int} {m : Int} (O : One w z n xs) (Y : w.heap[y]? = some (.cells #[.int .i64 m] 3 (0, 0))) (hy : y < n) (zy : z ≠ y) (x : Int) (hl : xs.length ≤ 100000) :
    Calls Tryd.prog 27 #[.int .i64 x, .pointer (some ⟨z, 0, none⟩), .pointer (some ⟨y, 0, none⟩)] w fun e w' => e = .returned (.bool ((xs.length : Int) + 1 != m)) ∧ One w' z n (xs ++ [x]) ∧ Bar z n w w' := by
  obtain ⟨⟨va, ba, oa⟩, le, sz⟩ := O
  have c1 : w.cell? ⟨z, 0, none⟩ = some va := by rw [Joins.cell_of_block ba]; rfl
  have y1 : w.frozen? ⟨z, 0, none⟩ = false := Joins.unfrozen_of_block ba 0
  obtain ⟨i0, hi, hz0, hz1, hz2⟩ := info_parts info3
  have HY : Hid (w.heap[y]? = some (.cells #[.int .i64 m] 3 (0, 0))) := Y
  clear Y
  go_enter Tryd.func27, Tryd.ntmps27
  go_wp2_with (at_builtin; refine wpList_append_lies _ rfl (.tmp 5) (.tmp 7) 34 rfl n 3 i0 (.int .i64 0) 1 8 Tryd.underlying34 hi hz0 hz1 hz2 rfl (by decide) va _ _ rfl (oa.kept (g3 _ _) (Classical.em _)) ⟨_, 0, none⟩ 1 1 [.int .i64 x] rfl rfl (news_one (nb4 _ _)) (by simp [Value.oneCell']) (by decide) (by unfold maxLen; omega) (by omega) (Nat.le_trans sz (by simp)) _ rfl ?_; intro q cap1 w1 ho hg hat hlt; have d2 := far_cell oa (g3 w (.cells #[.int .i64 x] 3)) hg le c1; have d3 := far_frozen oa (g3 w (.cells #[.int .i64 x] 3)) hg le sz y1; obtain ⟨O2, K2⟩ := one_end le sz ba oa ho hg; have Y2 : (w1.setCell ⟨z, 0, none⟩ (.slice (some ⟨q, 0, none⟩) (xs.length + 1) cap1)).cell? ⟨y, 0, none⟩ = some (.int .i64 m) := (by rw [Joins.cell_of_block ((K2.block y hy (Ne.symm zy)).trans HY.out)]; rfl); clear ho hg hat hlt oa ba)
  go_ret
  exact ⟨rfl, O2, K2⟩
end Go.Proofs.YtdiibckplkkkkaaDoor
