/- What the law's own function does with each pair that a range tells: it is put behind two lists. -/
import Derived.Test.YtbdoekffadmejaaGreatDoorPool
import Derived.Deep.AppendLies
import Derived.Deep.RegionHeld3
namespace Go.Proofs.YtbdoekffadmejaaGreatDoor.Bp
open Go.RowKit
set_option linter.unusedVariables false

def ints (xs : List Int) : List Value := xs.map (Value.int .i64)
theorem ints_length (xs : List Int) : (ints xs).length = xs.length := by simp [ints]
theorem ints_snoc (xs : List Int) (x : Int) : ints (xs ++ [x]) = ints xs ++ [.int .i64 x] := by simp [ints]

/-- Two boxes, z and z + 1, hold two lists of numbers, each a row of its own at or beyond n. -/
structure Two (w : World) (z n : Nat) (xs ys : List Int) : Prop where
  ex : ∃ va vb, w.heap[z]? = some (.cells #[va] 31 (0, 0)) ∧ w.heap[z + 1]? = some (.cells #[vb] 31 (0, 0)) ∧ w.ownsRow n 3 1 va xs.length (ints xs) ∧ w.ownsRow n 3 1 vb ys.length (ints ys) ∧ (vb.ownBlock = none ∨ vb.ownBlock ≠ va.ownBlock)
  le : z + 1 < n
  sz : n ≤ w.heap.size
/-- Nothing below n has turned but the two boxes. -/
structure Keep (z n : Nat) (w w' : World) : Prop where
  os : w'.os = w.os
  tape : w'.tape = w.tape
  output : w'.output = w.output
  size : w.heap.size ≤ w'.heap.size
  block : ∀ k, k < n → k ≠ z → k ≠ z + 1 → w'.heap[k]? = w.heap[k]?
theorem info3b : (Tryz.prog.info? 3).map (fun i => (i.zero, i.size, i.bytes)) = some (some (.int .i64 0), 1, 8) := info3
theorem news_one {W : World} {g : Nat} {v : Value} {t : TypeId} (h : W.heap[g]? = some (.cells #[v] t (0, 0))) : ∀ j u, [v][j]? = some u → W.cell? ((⟨g, 0, none⟩ : Addr).add j) = some u := by
  intro j u hj
  match j, hj with
  | 0, hj =>
    simp at hj
    subst hj
    have : (⟨g, 0, none⟩ : Addr).add 0 = ⟨g, 0, none⟩ := by unfold Addr.add; simp
    rw [this, Joins.cell_of_block h]
    rfl
  | j + 1, hj => simp at hj

theorem g1 (w : World) (o : Obj) : w.grownBy (w.alloc o).drew none := ⟨rfl, rfl, rfl, by simp, fun k hk _ => Below.heap_alloc _ _ _ hk⟩
theorem g2 (w : World) (o o' : Obj) : w.grownBy ((w.alloc o).alloc o').drew none := ⟨rfl, rfl, rfl, by simp; omega, fun k hk _ => (Below.heap_alloc _ _ _ (by simp; omega)).trans (Below.heap_alloc _ _ _ hk)⟩
theorem nb1 (w : World) (o : Obj) : (w.alloc o).drew.heap[w.heap.size]? = some o := heap_alloc_new w o
theorem nb2 (w : World) (o o' : Obj) : ((w.alloc o).alloc o').drew.heap[w.heap.size]? = some o := (Below.heap_alloc _ _ _ (by simp)).trans (heap_alloc_new w o)
theorem nb3 (w : World) (o o' : Obj) : ((w.alloc o).alloc o').drew.heap[w.heap.size + 1]? = some o' := by have := heap_alloc_new (w.alloc o) o'; rw [World.size_alloc] at this; exact this
theorem nb4 (w : World) (o : Obj) : (w.alloc o).heap[w.heap.size]? = some o := heap_alloc_new w o
theorem sz1 {w : World} {n : Nat} (o : Obj) (h : n ≤ w.heap.size) : n ≤ (w.alloc o).drew.heap.size := by simp; omega
theorem sz2 {w : World} {n : Nat} (o o' : Obj) (h : n ≤ w.heap.size) : n ≤ ((w.alloc o).alloc o').drew.heap.size := by simp; omega
/-- Behind the first append: what stood stands, seen from the world ahead of all. -/
theorem far_cell {w W w1 : World} {n k : Nat} {va v : Value} {m : Nat} {cs : List Value} (oa : w.ownsRow n 3 1 va m cs) (B : w.grownBy W none) (G : W.grownBy w1 va.ownBlock) (hk : k < n) (c : w.cell? ⟨k, 0, none⟩ = some v) : w1.cell? ⟨k, 0, none⟩ = some v := by
  have l := World.block_lt_of_cell? _ _ c
  have e1 : w1.heap[k]? = W.heap[k]? := G.block k (Nat.lt_of_lt_of_le l B.size) (fun e => by have := oa.lt k e.symm; omega)
  have e2 : W.heap[k]? = w.heap[k]? := B.block k l (by simp)
  exact (World.cell?_of_block (w := w) (a := ⟨k, 0, none⟩) (e1.trans e2)).trans c
theorem far_frozen {w W w1 : World} {n k : Nat} {va : Value} {m : Nat} {cs : List Value} (oa : w.ownsRow n 3 1 va m cs) (B : w.grownBy W none) (G : W.grownBy w1 va.ownBlock) (hk : k < n) (sz : n ≤ w.heap.size) (c : w.frozen? ⟨k, 0, none⟩ = false) : w1.frozen? ⟨k, 0, none⟩ = false := by
  have e1 : w1.heap[k]? = W.heap[k]? := G.block k (Nat.lt_of_lt_of_le (by omega) B.size) (fun e => by have := oa.lt k e.symm; omega)
  have e2 : W.heap[k]? = w.heap[k]? := B.block k (by omega) (by simp)
  exact (World.frozen?_of_block (w := w) (a := ⟨k, 0, none⟩) (e1.trans e2)).trans c
/-- .. and the other row. -/
theorem far_row {w W w1 : World} {n : Nat} {va vb : Value} {m : Nat} {cs : List Value} (ob : w.ownsRow n 3 1 vb m cs) (B : w.grownBy W none) (G : W.grownBy w1 va.ownBlock) (ap : vb.ownBlock = none ∨ vb.ownBlock ≠ va.ownBlock) : w1.ownsRow n 3 1 vb m cs :=
  (ob.kept B (Classical.em _)).kept G ap
/-- .. and a block that was new. -/
theorem far_new {w W w1 : World} {n k : Nat} {va : Value} {m : Nat} {cs : List Value} {o : Obj} (oa : w.ownsRow n 3 1 va m cs) (G : W.grownBy w1 va.ownBlock) (hk : w.heap.size ≤ k) (h : W.heap[k]? = some o) : w1.heap[k]? = some o :=
  (G.block k (Array.getElem?_eq_some_iff.1 h).1 (fun e => by have := oa.lt k e.symm; omega)).trans h

theorem g3 (w : World) (o : Obj) : w.grownBy (w.alloc o) none := World.grownBy_alloc w o none
theorem sz3 {w W w1 : World} {n : Nat} {r : Option Nat} (h : n ≤ w.heap.size) (B : w.grownBy W none) (G : W.grownBy w1 r) : n ≤ w1.heap.size := Nat.le_trans h (Nat.le_trans B.size G.size)
theorem sz4 {w W w1 : World} {n : Nat} {r : Option Nat} (o : Obj) (h : n ≤ w.heap.size) (B : w.grownBy W none) (G : W.grownBy w1 r) : n ≤ (w1.alloc o).heap.size := by have := sz3 h B G; simp; omega

theorem push_end {w W0 w1 W1 w2 : World} {z n : Nat} {xs ys : List Int} {x y : Int} {va vb : Value} {q1 cap1 q2 cap2 : Nat} (le : z + 1 < n) (sz : n ≤ w.heap.size)
    (ba : w.heap[z]? = some (.cells #[va] 31 (0, 0))) (bb : w.heap[z + 1]? = some (.cells #[vb] 31 (0, 0))) (oa : w.ownsRow n 3 1 va xs.length (ints xs)) (ob : w.ownsRow n 3 1 vb ys.length (ints ys)) (ap : vb.ownBlock = none ∨ vb.ownBlock ≠ va.ownBlock)
    (B0 : w.grownBy W0 none) (G1 : W0.grownBy w1 va.ownBlock) (B1 : w1.grownBy W1 none) (G2 : W1.grownBy w2 vb.ownBlock)
    (o1 : w1.ownsRow n 3 1 (.slice (some ⟨q1, 0, none⟩) (xs.length + 1) cap1) (xs.length + 1) (ints xs ++ [.int .i64 x])) (a1 : va.ownBlock = some q1 ∨ q1 = W0.heap.size) (l1 : q1 < w1.heap.size)
    (o2 : w2.ownsRow n 3 1 (.slice (some ⟨q2, 0, none⟩) (ys.length + 1) cap2) (ys.length + 1) (ints ys ++ [.int .i64 y])) (a2 : vb.ownBlock = some q2 ∨ q2 = W1.heap.size) :
    Two ((w2.setCell ⟨z, 0, none⟩ (.slice (some ⟨q1, 0, none⟩) (xs.length + 1) cap1)).setCell ⟨z + 1, 0, none⟩ (.slice (some ⟨q2, 0, none⟩) (ys.length + 1) cap2)) z n (xs ++ [x]) (ys ++ [y]) ∧
    Keep z n w ((w2.setCell ⟨z, 0, none⟩ (.slice (some ⟨q1, 0, none⟩) (xs.length + 1) cap1)).setCell ⟨z + 1, 0, none⟩ (.slice (some ⟨q2, 0, none⟩) (ys.length + 1) cap2)) := by
  have s0 := B0.size
  have s1 := G1.size
  have s2 := B1.size
  have s3 := G2.size
  have old : ∀ k, k < n → w2.heap[k]? = w.heap[k]? := by
    intro k hk
    have e1 : W0.heap[k]? = w.heap[k]? := B0.block k (by omega) (by simp)
    have e2 : w1.heap[k]? = W0.heap[k]? := G1.block k (by omega) (fun e => by have := oa.lt k e.symm; omega)
    have e3 : W1.heap[k]? = w1.heap[k]? := B1.block k (by omega) (by simp)
    have e4 : w2.heap[k]? = W1.heap[k]? := G2.block k (by omega) (fun e => by have := ob.lt k e.symm; omega)
    exact e4.trans (e3.trans (e2.trans e1))
  have nq : vb.ownBlock ≠ some q1 := by
    intro e
    have lb := ob.lt q1 e
    rcases a1 with h | h
    · rcases ap with h' | h'
      · rw [h'] at e; cases e
      · exact h' (by rw [e, h])
    · omega
  have o1' : w2.ownsRow n 3 1 (.slice (some ⟨q1, 0, none⟩) (xs.length + 1) cap1) (xs.length + 1) (ints xs ++ [.int .i64 x]) := (o1.kept B1 (Classical.em _)).kept G2 (.inr (fun e => nq e.symm))
  have b1 := o1'.lt q1 rfl
  have b2 := o2.lt q2 rfl
  have qq : q2 ≠ q1 := by
    rcases a2 with h | h
    · intro e; rw [e] at h; exact nq h
    · omega
  have z0 := old z (by omega)
  have z1 := old (z + 1) (by omega)
  refine ⟨⟨⟨.slice (some ⟨q1, 0, none⟩) (xs.length + 1) cap1, .slice (some ⟨q2, 0, none⟩) (ys.length + 1) cap2, ?_, ?_, ?_, ?_, .inr ?_⟩, le, by simp; omega⟩, ⟨?_, ?_, ?_, by simp; omega, fun k hk h1 h2 => ?_⟩⟩
  · rw [Below.heap_setCell _ _ _ _ (show z ≠ z + 1 by omega), Joins.block_setCell (z0.trans ba)]; rfl
  · rw [Joins.block_setCell (cs := #[vb]) (t := 31) ((Below.heap_setCell _ _ _ _ (show z + 1 ≠ z by omega)).trans (z1.trans bb))]; rfl
  · rw [ints_snoc, List.length_append]
    exact ownsRow_setCell_below (ownsRow_setCell_below o1' (by simp; omega) _) (by simp; omega) _
  · rw [ints_snoc, List.length_append]
    exact ownsRow_setCell_below (ownsRow_setCell_below o2 (by simp; omega) _) (by simp; omega) _
  · simp [Value.ownBlock]; exact qq
  · exact G2.os.trans (B1.os.trans (G1.os.trans B0.os))
  · exact G2.tape.trans (B1.tape.trans (G1.tape.trans B0.tape))
  · exact G2.output.trans (B1.output.trans (G1.output.trans B0.output))
  · rw [Below.heap_setCell _ _ _ _ h2, Below.heap_setCell _ _ _ _ h1]; exact old k hk

end Go.Proofs.YtbdoekffadmejaaGreatDoor.Bp
