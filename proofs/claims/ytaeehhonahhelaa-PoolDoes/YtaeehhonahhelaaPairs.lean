/- The law's own helper that goes over a range and tells two lists, at a pool and at none. -/
import Derived.Test.YtaeehhonahhelaaTold
namespace Go.Proofs.Ytaeehhonahhelaa
open Go.RowKit
set_option linter.unusedVariables false

/-- Two lists of numbers, each a row of its own at or beyond n. -/
structure Lists (w : World) (n : Nat) (va vb : Value) (xs ys : List Int) : Prop where
  oa : w.ownsRow n 3 1 va xs.length (ints xs)
  ob : w.ownsRow n 3 1 vb ys.length (ints ys)
  ap : vb.ownBlock = none ∨ vb.ownBlock ≠ va.ownBlock
  sz : n ≤ w.heap.size
theorem Lists.later {w w' : World} {n : Nat} {va vb : Value} {xs ys : List Int} (h : Lists w n va vb xs ys) (B : Below w.heap.size w w') : Lists w' n va vb xs ys := by
  have G : w.grownBy w' none := ⟨B.os, B.tape, B.output, B.size, fun k hk _ => B.block k hk⟩
  exact ⟨h.oa.kept G (Classical.em _), h.ob.kept G (Classical.em _), h.ap, Nat.le_trans h.sz B.size⟩
theorem boxes2 (w : World) (o : Obj) : ((w.alloc o).alloc o).heap[w.heap.size]? = some o ∧ ((w.alloc o).alloc o).heap[w.heap.size + 1]? = some o := by
  refine ⟨?_, ?_⟩
  · rw [Below.heap_alloc _ _ _ (by simp)]; exact heap_alloc_new _ _
  · have := heap_alloc_new (w.alloc o) o; simpa using this
theorem below_keep {w w2 : World} {o : Obj} (K : Keep w.heap.size ((w.alloc o).alloc o).heap.size ((w.alloc o).alloc o) w2) : Below w.heap.size w w2 := by
  have B := below2 w o o
  refine ⟨K.os.trans B.os, K.tape.trans B.tape, K.output.trans B.output, Nat.le_trans B.size K.size, fun k hk => (K.block k (by simp; omega) (by omega) (by omega)).trans (B.block k hk)⟩
set_option maxRecDepth 100000 in
set_option maxHeartbeats 2000000 in
theorem pairs_ok {w : World} {m B N : Nat} {f : Nat → Int} {r : Bool} (q : Asked w m B f N r) :
    Calls Try.prog 15 #[.func (.func 39) #[] #[.pointer (some ⟨B, 0, none⟩), .pointer (some ⟨B + 1, 0, none⟩)]] w fun e w' => ∃ va vb n, e = .returned (.tuple #[va, vb]) ∧ w.heap.size ≤ n ∧ Lists w' n va vb (fs (parts f N r)) (ns (parts f N r)) ∧ Below w.heap.size w w' := by
  have he : ∀ w : World, (binOp .eql 42 (.func (.func 39) #[] #[.pointer (some ⟨B, 0, none⟩), .pointer (some ⟨B + 1, 0, none⟩)]) .nilFunc).run Try.prog w = .ok (.bool false) w := fun _ => rfl
  obtain ⟨b0, b1⟩ := boxes2 w (.cells #[.slice none 0 0] 38)
  have D0 := below2 w (.cells #[.slice none 0 0] 38) (.cells #[.slice none 0 0] 38)
  obtain ⟨g, c, hg, L⟩ := q.ex
  have ll := L.lt
  have T := tells_ok (z := w.heap.size) (n := ((w.alloc (.cells #[.slice none 0 0] 38)).alloc (.cells #[.slice none 0 0] 38)).heap.size) q.len (L.below D0) (two_nil b0 b1 (by simp) (Nat.le_refl _)) ⟨by simp; omega, by omega, by omega⟩ ⟨by simp; omega, by omega, by omega⟩ ⟨by simp; omega, by omega, by omega⟩
  clear b0 b1
  go_enter Try.func15, Try.ntmps15
  go_wp2_with (go_at_call 39; refine T.mono ?_; rintro e w2 ⟨⟨u, rfl⟩, T2, K2⟩)
  obtain ⟨⟨va, vb, ba, bb, oa, ob, ap⟩, le, sz⟩ := T2
  have c1 : w2.cell? ⟨w.heap.size, 0, none⟩ = some va := by rw [Joins.cell_of_block ba]; rfl
  have c2 : w2.cell? ⟨w.heap.size + 1, 0, none⟩ = some vb := by rw [Joins.cell_of_block bb]; rfl
  have D := below_keep K2
  have LS : Lists w2 _ va vb (fs (parts f N r)) (ns (parts f N r)) := ⟨oa, ob, ap, sz⟩
  have s1 : w.heap.size ≤ ((w.alloc (.cells #[.slice none 0 0] 38)).alloc (.cells #[.slice none 0 0] 38)).heap.size := by simp; omega
  generalize hn : ((w.alloc (.cells #[.slice none 0 0] 38)).alloc (.cells #[.slice none 0 0] 38)).heap.size = n at *
  clear T ba bb oa ob ap K2 hn
  go_quiet (fail)
  go_wp2
  go_ret2
  exact ⟨va, vb, n, rfl, s1, LS.later (below_drewN (Below.refl _ _) _), below_drewN D _⟩

/-! ### none -/
theorem tells_nil {W : World} {Bs Br : Nat} {fv : Value} {r : Bool} (c : W.cell? ⟨Bs, 0, none⟩ = some (.slice none 0 0)) :
    Calls Try.prog 39 #[fv, .pointer (some ⟨Bs, 0, none⟩), .pointer (some ⟨Br, 0, none⟩)] W fun e W' => (∃ v, e = .returned v) ∧ W' = W := by
  go_enter Try.func39, Try.ntmps39
  go_wp2
  go_loop [4, 5] (fun m i => i = .int .i64 0) (fun _ _ => 0)
  case atStart => rfl
  case round =>
    subst hrel
    go_wp2
    go_end0
    exact ⟨⟨_, rfl⟩, rfl⟩
set_option maxRecDepth 100000 in
set_option maxHeartbeats 2000000 in
theorem pairs_nil {w : World} {B C : Nat} (c : w.cell? ⟨B, 0, none⟩ = some (.slice none 0 0)) :
    Calls Try.prog 15 #[.func (.func 39) #[] #[.pointer (some ⟨B, 0, none⟩), .pointer (some ⟨C, 0, none⟩)]] w fun e w' => e = .returned (.tuple #[.slice none 0 0, .slice none 0 0]) ∧ Below w.heap.size w w' := by
  have he : ∀ w : World, (binOp .eql 42 (.func (.func 39) #[] #[.pointer (some ⟨B, 0, none⟩), .pointer (some ⟨C, 0, none⟩)]) .nilFunc).run Try.prog w = .ok (.bool false) w := fun _ => rfl
  obtain ⟨b0, b1⟩ := boxes2 w (.cells #[.slice none 0 0] 38)
  have D := below2 w (.cells #[.slice none 0 0] 38) (.cells #[.slice none 0 0] 38)
  have T := tells_nil (fv := .func (.func 32) #[] #[.pointer (some ⟨w.heap.size, 0, none⟩), .pointer (some ⟨w.heap.size + 1, 0, none⟩)]) (Br := C) (r := true) (box_alloc (.cells #[.slice none 0 0] 38) (box_alloc (.cells #[.slice none 0 0] 38) c))
  go_enter Try.func15, Try.ntmps15
  have c1 : ((w.alloc (.cells #[.slice none 0 0] 38)).alloc (.cells #[.slice none 0 0] 38)).cell? ⟨w.heap.size, 0, none⟩ = some (.slice none 0 0) := by rw [Joins.cell_of_block b0]; rfl
  have c2 : ((w.alloc (.cells #[.slice none 0 0] 38)).alloc (.cells #[.slice none 0 0] 38)).cell? ⟨w.heap.size + 1, 0, none⟩ = some (.slice none 0 0) := by rw [Joins.cell_of_block b1]; rfl
  go_wp2_with (go_at_call 39; refine T.mono ?_; rintro e w2 ⟨⟨u, rfl⟩, hw⟩; rw [hw]; clear hw)
  clear T b0 b1
  go_quiet (fail)
  go_wp2
  go_ret2
  exact ⟨rfl, below_drewN D _⟩
end Go.Proofs.Ytaeehhonahhelaa
