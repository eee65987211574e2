/- The law's own helper that goes over a range and tells two lists, at a pool and at none. -/
import Derived.Test.YtmoaldndagiojaaTold
namespace Go.Proofs.Ytmoaldndagiojaa
open Go.RowKit
set_option linter.unusedVariables false

/-- Two lists of numbers, each a row of its own at or beyond n. -/
structure Lists (w : World) (n : Nat) (va vb : Value) (xs ys : List Int) : Prop where
  oa : w.ownsRow n 3 1 va xs.length (ints xs)
  ob : w.ownsRow n 3 1 vb ys.length (ints ys)
  ap : vb.ownBlock = none ∨ vb.ownBlock ≠ va.ownBlock
  sz : n ≤ w.heap.size
theorem Lists.later {w w' : World} {n : Nat} {va vb : Value} {xs ys : List Int} (h : Lists w n va vb xs ys) (B : Below w.heap.size w w') : Lists w' n va vb xs ys := by
  have G : w.grownBy w' none := ⟨B.os, B.tape, B.output, B.size, fun k hk _ => B.block k hk⟩
  exact ⟨h.oa.kept G (Classical.em _), h.ob.kept G (Classical.em _), h.ap, Nat.le_trans h.sz B.size⟩
theorem boxes2 (w : World) (o : Obj) : ((w.alloc o).alloc o).heap[w.heap.size]? = some o ∧ ((w.alloc o).alloc o).heap[w.heap.size + 1]? = some o := by
  refine ⟨?_, ?_⟩
  · rw [Below.heap_alloc _ _ _ (by simp)]; exact heap_alloc_new _ _
  · have := heap_alloc_new (w.alloc o) o; simpa using this
theorem below_keep {w w2 : World} {o : Obj} (K : Keep w.heap.size ((w.alloc o).alloc o).heap.size ((w.alloc o).alloc o) w2) : Below w.heap.size w w2 := by
  have B := below2 w o o
  refine ⟨K.os.trans B.os, K.tape.trans B.tape, K.output.trans B.output, Nat.le_trans B.size K.size, fun k hk => (K.block k (by simp; omega) (by omega) (by omega)).trans (B.block k hk)⟩
set_option maxRecDepth 100000 in
set_option maxHeartbeats 2000000 in
theorem pairs_ok {w : World} {p b N P R : Nat} {f : Nat → Int} {r : Bool} (h : Has 57 w p b f N) (q : Asked w P R (some ⟨p, 0, none⟩) r) :
    Calls Try.prog 14 #[.func (.func 36) #[] #[.pointer (some ⟨P, 0, none⟩), .pointer (some ⟨R, 0, none⟩)]] w fun e w' => ∃ va vb n, e = .returned (.tuple #[va, vb]) ∧ w.heap.size ≤ n ∧ Lists w' n va vb (fs (parts f N r)) (ns (parts f N r)) ∧ Below w.heap.size w w' := by
  have he : ∀ w : World, (binOp .eql 42 (.func (.func 36) #[] #[.pointer (some ⟨P, 0, none⟩), .pointer (some ⟨R, 0, none⟩)]) .nilFunc).run Try.prog w = .ok (.bool false) w := fun _ => rfl
  obtain ⟨b0, b1⟩ := boxes2 w (.cells #[.slice none 0 0] 38)
  have B := below2 w (.cells #[.slice none 0 0] 38) (.cells #[.slice none 0 0] 38)
  have ql := q.lt
  have T := told1_ok (h.later B) (q.later B) b0 b1 ⟨by omega, by omega⟩ ⟨by omega, by omega⟩
  clear b0 b1
  go_enter Try.func14, Try.ntmps14
  go_wp2_with (go_at_call 36; refine T.mono ?_; rintro e w2 ⟨⟨u, rfl⟩, ⟨n, hn, T2⟩, K2⟩)
  obtain ⟨⟨va, vb, ba, bb, oa, ob, ap⟩, le, sz⟩ := T2
  have c1 : w2.cell? ⟨w.heap.size, 0, none⟩ = some va := by rw [Joins.cell_of_block ba]; rfl
  have c2 : w2.cell? ⟨w.heap.size + 1, 0, none⟩ = some vb := by rw [Joins.cell_of_block bb]; rfl
  have D := below_keep K2
  have LS : Lists w2 n va vb (fs (parts f N r)) (ns (parts f N r)) := ⟨oa, ob, ap, sz⟩
  have s1 : w.heap.size ≤ n := Nat.le_trans (by simp; omega) hn
  clear T ba bb oa ob ap K2 hn
  go_quiet (fail)
  go_wp2
  go_ret2
  exact ⟨va, vb, n, rfl, s1, LS.later (below_drewN (Below.refl _ _) _), below_drewN D _⟩

/-! ### none -/
theorem tells_nil {W : World} {Bs Br : Nat} {fv : Value} {r : Bool} (c : W.cell? ⟨Bs, 0, none⟩ = some (.slice none 0 0)) :
    Calls Try.prog 38 #[fv, .pointer (some ⟨Bs, 0, none⟩), .pointer (some ⟨Br, 0, none⟩)] W fun e W' => (∃ v, e = .returned v) ∧ W' = W := by
  go_enter Try.func38, Try.ntmps38
  go_wp2
  go_loop [4, 5] (fun m i => i = .int .i64 0) (fun _ _ => 0)
  case atStart => rfl
  case round =>
    subst hrel
    go_wp2
    go_end0
    exact ⟨⟨_, rfl⟩, rfl⟩
set_option maxRecDepth 100000 in
set_option maxHeartbeats 4000000 in
theorem told1_nil {W : World} {P R : Nat} {r : Bool} {fv : Value} (q : Asked W P R none r) :
    Calls Try.prog 36 #[fv, .pointer (some ⟨P, 0, none⟩), .pointer (some ⟨R, 0, none⟩)] W fun e W' => (∃ v, e = .returned v) ∧ Below W.heap.size W W' := by
  obtain ⟨c1, c2⟩ := q.cells
  go_enter Try.func36, Try.ntmps36
  go_wp2
  go_region_held3 (fun w' => w'.cell? ⟨P, 0, none⟩ = some (.pointer none) ∧ w'.cell? ⟨R, 0, none⟩ = some (.bool r)) (go_keep) (first
    | (go_at_call 34; refine (row_nil _).mono ?_; rintro e w1 ⟨rfl, hw⟩; rw [hw]; clear hw)
    | (go_at_call 37; refine (clone_nil _).mono ?_; rintro e w1 ⟨rfl, hw⟩; rw [hw]; clear hw)
    | (go_at_call 33; refine (parts_nil W.drew r).mono ?_; rintro e w2 ⟨rfl, hw⟩; have B2 : Below W.heap.size W w2 := (by rw [hw]; exact below_undrew (below2 _ _ _)); have cc : w2.cell? ⟨W.heap.size, 0, none⟩ = some (.slice none 0 0) := (by rw [hw]; exact cell_alloc_l _ (cell_new_l W.drew _ 38).1); clear hw; obtain ⟨k3, k4⟩ := (q.later B2).cells; have TK := tells_nil (fv := fv) (Br := W.heap.size + 1) (r := r) cc)
    | (go_at_call 38; refine TK.mono ?_; rintro e w3 ⟨⟨u, rfl⟩, hw⟩; rw [hw]; clear hw))
  all_goals go_wp2
  all_goals go_end0
  all_goals exact ⟨⟨_, rfl⟩, B2⟩
set_option maxRecDepth 100000 in
set_option maxHeartbeats 2000000 in
theorem pairs_nil {w : World} {P R : Nat} {r : Bool} (q : Asked w P R none r) :
    Calls Try.prog 14 #[.func (.func 36) #[] #[.pointer (some ⟨P, 0, none⟩), .pointer (some ⟨R, 0, none⟩)]] w fun e w' => e = .returned (.tuple #[.slice none 0 0, .slice none 0 0]) ∧ Below w.heap.size w w' := by
  have he : ∀ w : World, (binOp .eql 42 (.func (.func 36) #[] #[.pointer (some ⟨P, 0, none⟩), .pointer (some ⟨R, 0, none⟩)]) .nilFunc).run Try.prog w = .ok (.bool false) w := fun _ => rfl
  obtain ⟨b0, b1⟩ := boxes2 w (.cells #[.slice none 0 0] 38)
  have B := below2 w (.cells #[.slice none 0 0] 38) (.cells #[.slice none 0 0] 38)
  have T := told1_nil (fv := .func (.func 30) #[] #[.pointer (some ⟨w.heap.size, 0, none⟩), .pointer (some ⟨w.heap.size + 1, 0, none⟩)]) (q.later B)
  go_enter Try.func14, Try.ntmps14
  go_wp2_with (go_at_call 36; refine T.mono ?_; rintro e w2 ⟨⟨u, rfl⟩, B2⟩)
  have ba := (B2.block w.heap.size (by simp <;> omega)).trans b0
  have bb := (B2.block (w.heap.size + 1) (by simp <;> omega)).trans b1
  have c1 : w2.cell? ⟨w.heap.size, 0, none⟩ = some (.slice none 0 0) := by rw [Joins.cell_of_block ba]; rfl
  have c2 : w2.cell? ⟨w.heap.size + 1, 0, none⟩ = some (.slice none 0 0) := by rw [Joins.cell_of_block bb]; rfl
  have D := B.trans (B2.mono B.size)
  clear T ba bb b0 b1 B B2
  go_quiet (fail)
  go_wp2
  go_ret2
  exact ⟨rfl, below_drewN D _⟩
end Go.Proofs.Ytmoaldndagiojaa
