/- The document's own Over: it answers what the program's answers. -/
import Derived.Test.YtdiibckplkkkkaaDoorRef
namespace Go.Proofs.YtdiibckplkkkkaaDoor
open Go.RowKit

set_option maxHeartbeats 1000000 in
theorem refOver_kind (k i p n t : Int) (w : World) (a8 : (t != 8) = true) (a9 : (t != 9) = true) (a12 : (t != 12) = true) :
    Calls Tryd.prog 18 #[head k i p n, .int .i64 t] w fun e w' => e = .returned (.tuple #[head 0 0 0 0, .int .i64 6]) ∧ Below w.heap.size w w' := by
  go_enter Tryd.func18, Tryd.ntmps18
  go_wp2
  refine bodyPost_ret (v := .tuple #[head 0 0 0 0, .int .i64 6]) (by simp [results, Tryd.results18, go_sem]) rfl ⟨rfl, ?_⟩
  go_grown

set_option maxHeartbeats 1000000 in
theorem refOver_wrong8 (k i p n E : Int) (w : World) (hE : rightE k i p n = E) (b : (E != 0) = true) :
    Calls Tryd.prog 18 #[head k i p n, .int .i64 8] w fun e w' => e = .returned (.tuple #[head 0 0 0 0, .int .i64 E]) ∧ Below w.heap.size w w' := by
  have H : HeadAt ((w.alloc (Obj.cells #[Value.int IntKind.i64 k, Value.int IntKind.i64 i, Value.int IntKind.i64 p, Value.int IntKind.i64 n] 23)).alloc (Obj.cells #[Value.int IntKind.i64 0, Value.int IntKind.i64 0, Value.int IntKind.i64 0, Value.int IntKind.i64 0] 23)) w.heap.size k i p n := (HeadAt.fresh w k i p n).later (by go_grown)
  have G : Mine ((w.alloc (Obj.cells #[Value.int IntKind.i64 k, Value.int IntKind.i64 i, Value.int IntKind.i64 p, Value.int IntKind.i64 n] 23)).alloc (Obj.cells #[Value.int IntKind.i64 0, Value.int IntKind.i64 0, Value.int IntKind.i64 0, Value.int IntKind.i64 0] 23)) (w.heap.size + 1) 0 0 0 0 := by have := Mine.fresh (w.alloc (Obj.cells #[Value.int IntKind.i64 k, Value.int IntKind.i64 i, Value.int IntKind.i64 p, Value.int IntKind.i64 n] 23)) 0 0 0 0; simpa using this
  have S := fun w => refRight_any k i p n w
  simp only [hE] at S
  clear hE
  go_enter Tryd.func18, Tryd.ntmps18
  go_wp2_with (first
    | (go_at_call 16; refine (refThunk_any _ _).mono ?_; rintro e w' ⟨rfl, rfl⟩)
    | (go_at_call 10; refine (S _).mono ?_; rintro e w1 ⟨rfl, B1⟩; have G1 := G.later B1; have f0 := G1.free 0; have f1 := G1.free 1; have f2 := G1.free 2; have f3 := G1.free 3; obtain ⟨y0, y1, y2, y3⟩ := G1.at; obtain ⟨x0, x1, x2, x3⟩ := H.later B1))
  refine bodyPost_ret (v := .tuple #[head 0 0 0 0, .int .i64 E]) (by simp [results, Tryd.results18, go_sem, y0, y1, y2, y3]) rfl ⟨rfl, ?_⟩
  exact ((((far2 B1).setCell (by simp) _).setCell (by simp) _).setCell (by simp) _).setCell (by simp) _

set_option maxHeartbeats 1000000 in
theorem refOver_none8 (k i p n : Int) (w : World) (hE : rightE k i p n = 0) (b : thunkB k = false) (c : (k != 9) = true) :
    Calls Tryd.prog 18 #[head k i p n, .int .i64 8] w fun e w' => e = .returned (.tuple #[head 0 0 0 0, .int .i64 6]) ∧ Below w.heap.size w w' := by
  have H : HeadAt ((w.alloc (Obj.cells #[Value.int IntKind.i64 k, Value.int IntKind.i64 i, Value.int IntKind.i64 p, Value.int IntKind.i64 n] 23)).alloc (Obj.cells #[Value.int IntKind.i64 0, Value.int IntKind.i64 0, Value.int IntKind.i64 0, Value.int IntKind.i64 0] 23)) w.heap.size k i p n := (HeadAt.fresh w k i p n).later (by go_grown)
  have G : Mine ((w.alloc (Obj.cells #[Value.int IntKind.i64 k, Value.int IntKind.i64 i, Value.int IntKind.i64 p, Value.int IntKind.i64 n] 23)).alloc (Obj.cells #[Value.int IntKind.i64 0, Value.int IntKind.i64 0, Value.int IntKind.i64 0, Value.int IntKind.i64 0] 23)) (w.heap.size + 1) 0 0 0 0 := by have := Mine.fresh (w.alloc (Obj.cells #[Value.int IntKind.i64 k, Value.int IntKind.i64 i, Value.int IntKind.i64 p, Value.int IntKind.i64 n] 23)) 0 0 0 0; simpa using this
  have S := fun w => refRight_any k i p n w
  simp only [hE] at S
  clear hE
  go_enter Tryd.func18, Tryd.ntmps18
  go_wp2_with (first
    | (go_at_call 16; refine (refThunk_any _ _).mono ?_; rintro e w' ⟨rfl, rfl⟩)
    | (go_at_call 10; refine (S _).mono ?_; rintro e w1 ⟨rfl, B1⟩; have G1 := G.later B1; have f0 := G1.free 0; have f1 := G1.free 1; have f2 := G1.free 2; have f3 := G1.free 3; obtain ⟨y0, y1, y2, y3⟩ := G1.at; obtain ⟨x0, x1, x2, x3⟩ := H.later B1))
  refine bodyPost_ret (v := .tuple #[head 0 0 0 0, .int .i64 6]) (by simp [results, Tryd.results18, go_sem, y0, y1, y2, y3]) rfl ⟨rfl, ?_⟩
  exact ((((far2 B1).setCell (by simp) _).setCell (by simp) _).setCell (by simp) _).setCell (by simp) _


set_option maxHeartbeats 1000000 in
theorem refOver_t8 (k i p n : Int) (w : World) (hE : rightE k i p n = 0) (b : thunkB k = true) (l : 1 ≤ p + n) :
    Calls Tryd.prog 18 #[head k i p n, .int .i64 8] w fun e w' => e = .returned (.tuple #[head 8 0 1 (p + n - 1), .int .i64 0]) ∧ Below w.heap.size w w' := by
  have sm := right_small hE
  have H : HeadAt ((w.alloc (Obj.cells #[Value.int IntKind.i64 k, Value.int IntKind.i64 i, Value.int IntKind.i64 p, Value.int IntKind.i64 n] 23)).alloc (Obj.cells #[Value.int IntKind.i64 0, Value.int IntKind.i64 0, Value.int IntKind.i64 0, Value.int IntKind.i64 0] 23)) w.heap.size k i p n := (HeadAt.fresh w k i p n).later (by go_grown)
  have G : Mine ((w.alloc (Obj.cells #[Value.int IntKind.i64 k, Value.int IntKind.i64 i, Value.int IntKind.i64 p, Value.int IntKind.i64 n] 23)).alloc (Obj.cells #[Value.int IntKind.i64 0, Value.int IntKind.i64 0, Value.int IntKind.i64 0, Value.int IntKind.i64 0] 23)) (w.heap.size + 1) 0 0 0 0 := by have := Mine.fresh (w.alloc (Obj.cells #[Value.int IntKind.i64 k, Value.int IntKind.i64 i, Value.int IntKind.i64 p, Value.int IntKind.i64 n] 23)) 0 0 0 0; simpa using this
  have S := fun w => refRight_any k i p n w
  simp only [hE] at S
  clear hE
  go_enter Tryd.func18, Tryd.ntmps18
  go_wp2_with (first
    | (go_at_call 16; refine (refThunk_any _ _).mono ?_; rintro e w' ⟨rfl, rfl⟩)
    | (go_at_call 10; refine (S _).mono ?_; rintro e w1 ⟨rfl, B1⟩; have G1 := G.later B1; have f0 := G1.free 0; have f1 := G1.free 1; have f2 := G1.free 2; have f3 := G1.free 3; obtain ⟨y0, y1, y2, y3⟩ := G1.at; obtain ⟨x0, x1, x2, x3⟩ := H.later B1))
  refine bodyPost_ret (v := .tuple #[head 8 0 1 (p + n - 1), .int .i64 0]) (by simp [results, Tryd.results18, go_sem, y0, y1, y2, y3]) rfl ⟨rfl, ?_⟩
  exact ((((far2 B1).setCell (by simp) _).setCell (by simp) _).setCell (by simp) _).setCell (by simp) _


set_option maxHeartbeats 1000000 in
theorem refOver_h8 (k i p n : Int) (w : World) (hE : rightE k i p n = 0) (b : thunkB k = false) (c : (k != 9) = false) (l : 1 ≤ p + n) :
    Calls Tryd.prog 18 #[head k i p n, .int .i64 8] w fun e w' => e = .returned (.tuple #[head 8 0 1 (p + n - 1), .int .i64 0]) ∧ Below w.heap.size w w' := by
  have sm := right_small hE
  have H : HeadAt ((w.alloc (Obj.cells #[Value.int IntKind.i64 k, Value.int IntKind.i64 i, Value.int IntKind.i64 p, Value.int IntKind.i64 n] 23)).alloc (Obj.cells #[Value.int IntKind.i64 0, Value.int IntKind.i64 0, Value.int IntKind.i64 0, Value.int IntKind.i64 0] 23)) w.heap.size k i p n := (HeadAt.fresh w k i p n).later (by go_grown)
  have G : Mine ((w.alloc (Obj.cells #[Value.int IntKind.i64 k, Value.int IntKind.i64 i, Value.int IntKind.i64 p, Value.int IntKind.i64 n] 23)).alloc (Obj.cells #[Value.int IntKind.i64 0, Value.int IntKind.i64 0, Value.int IntKind.i64 0, Value.int IntKind.i64 0] 23)) (w.heap.size + 1) 0 0 0 0 := by have := Mine.fresh (w.alloc (Obj.cells #[Value.int IntKind.i64 k, Value.int IntKind.i64 i, Value.int IntKind.i64 p, Value.int IntKind.i64 n] 23)) 0 0 0 0; simpa using this
  have S := fun w => refRight_any k i p n w
  simp only [hE] at S
  clear hE
  go_enter Tryd.func18, Tryd.ntmps18
  go_wp2_with (first
    | (go_at_call 16; refine (refThunk_any _ _).mono ?_; rintro e w' ⟨rfl, rfl⟩)
    | (go_at_call 10; refine (S _).mono ?_; rintro e w1 ⟨rfl, B1⟩; have G1 := G.later B1; have f0 := G1.free 0; have f1 := G1.free 1; have f2 := G1.free 2; have f3 := G1.free 3; obtain ⟨y0, y1, y2, y3⟩ := G1.at; obtain ⟨x0, x1, x2, x3⟩ := H.later B1))
  refine bodyPost_ret (v := .tuple #[head 8 0 1 (p + n - 1), .int .i64 0]) (by simp [results, Tryd.results18, go_sem, y0, y1, y2, y3]) rfl ⟨rfl, ?_⟩
  exact ((((far2 B1).setCell (by simp) _).setCell (by simp) _).setCell (by simp) _).setCell (by simp) _


set_option maxHeartbeats 1000000 in
theorem refOver_wrong9 (k i p n E : Int) (w : World) (hE : rightE k i p n = E) (b : (E != 0) = true) :
    Calls Tryd.prog 18 #[head k i p n, .int .i64 9] w fun e w' => e = .returned (.tuple #[head 0 0 0 0, .int .i64 E]) ∧ Below w.heap.size w w' := by
  have H : HeadAt ((w.alloc (Obj.cells #[Value.int IntKind.i64 k, Value.int IntKind.i64 i, Value.int IntKind.i64 p, Value.int IntKind.i64 n] 23)).alloc (Obj.cells #[Value.int IntKind.i64 0, Value.int IntKind.i64 0, Value.int IntKind.i64 0, Value.int IntKind.i64 0] 23)) w.heap.size k i p n := (HeadAt.fresh w k i p n).later (by go_grown)
  have G : Mine ((w.alloc (Obj.cells #[Value.int IntKind.i64 k, Value.int IntKind.i64 i, Value.int IntKind.i64 p, Value.int IntKind.i64 n] 23)).alloc (Obj.cells #[Value.int IntKind.i64 0, Value.int IntKind.i64 0, Value.int IntKind.i64 0, Value.int IntKind.i64 0] 23)) (w.heap.size + 1) 0 0 0 0 := by have := Mine.fresh (w.alloc (Obj.cells #[Value.int IntKind.i64 k, Value.int IntKind.i64 i, Value.int IntKind.i64 p, Value.int IntKind.i64 n] 23)) 0 0 0 0; simpa using this
  have S := fun w => refRight_any k i p n w
  simp only [hE] at S
  clear hE
  go_enter Tryd.func18, Tryd.ntmps18
  go_wp2_with (first
    | (go_at_call 16; refine (refThunk_any _ _).mono ?_; rintro e w' ⟨rfl, rfl⟩)
    | (go_at_call 10; refine (S _).mono ?_; rintro e w1 ⟨rfl, B1⟩; have G1 := G.later B1; have f0 := G1.free 0; have f1 := G1.free 1; have f2 := G1.free 2; have f3 := G1.free 3; obtain ⟨y0, y1, y2, y3⟩ := G1.at; obtain ⟨x0, x1, x2, x3⟩ := H.later B1))
  refine bodyPost_ret (v := .tuple #[head 0 0 0 0, .int .i64 E]) (by simp [results, Tryd.results18, go_sem, y0, y1, y2, y3]) rfl ⟨rfl, ?_⟩
  exact ((((far2 B1).setCell (by simp) _).setCell (by simp) _).setCell (by simp) _).setCell (by simp) _

set_option maxHeartbeats 1000000 in
theorem refOver_none9 (k i p n : Int) (w : World) (hE : rightE k i p n = 0) (b : thunkB k = false) (c : (k != 9) = true) :
    Calls Tryd.prog 18 #[head k i p n, .int .i64 9] w fun e w' => e = .returned (.tuple #[head 0 0 0 0, .int .i64 6]) ∧ Below w.heap.size w w' := by
  have H : HeadAt ((w.alloc (Obj.cells #[Value.int IntKind.i64 k, Value.int IntKind.i64 i, Value.int IntKind.i64 p, Value.int IntKind.i64 n] 23)).alloc (Obj.cells #[Value.int IntKind.i64 0, Value.int IntKind.i64 0, Value.int IntKind.i64 0, Value.int IntKind.i64 0] 23)) w.heap.size k i p n := (HeadAt.fresh w k i p n).later (by go_grown)
  have G : Mine ((w.alloc (Obj.cells #[Value.int IntKind.i64 k, Value.int IntKind.i64 i, Value.int IntKind.i64 p, Value.int IntKind.i64 n] 23)).alloc (Obj.cells #[Value.int IntKind.i64 0, Value.int IntKind.i64 0, Value.int IntKind.i64 0, Value.int IntKind.i64 0] 23)) (w.heap.size + 1) 0 0 0 0 := by have := Mine.fresh (w.alloc (Obj.cells #[Value.int IntKind.i64 k, Value.int IntKind.i64 i, Value.int IntKind.i64 p, Value.int IntKind.i64 n] 23)) 0 0 0 0; simpa using this
  have S := fun w => refRight_any k i p n w
  simp only [hE] at S
  clear hE
  go_enter Tryd.func18, Tryd.ntmps18
  go_wp2_with (first
    | (go_at_call 16; refine (refThunk_any _ _).mono ?_; rintro e w' ⟨rfl, rfl⟩)
    | (go_at_call 10; refine (S _).mono ?_; rintro e w1 ⟨rfl, B1⟩; have G1 := G.later B1; have f0 := G1.free 0; have f1 := G1.free 1; have f2 := G1.free 2; have f3 := G1.free 3; obtain ⟨y0, y1, y2, y3⟩ := G1.at; obtain ⟨x0, x1, x2, x3⟩ := H.later B1))
  refine bodyPost_ret (v := .tuple #[head 0 0 0 0, .int .i64 6]) (by simp [results, Tryd.results18, go_sem, y0, y1, y2, y3]) rfl ⟨rfl, ?_⟩
  exact ((((far2 B1).setCell (by simp) _).setCell (by simp) _).setCell (by simp) _).setCell (by simp) _


set_option maxHeartbeats 1000000 in
theorem refOver_t9 (k i p n : Int) (w : World) (hE : rightE k i p n = 0) (b : thunkB k = true) (l : 1 ≤ p + n) :
    Calls Tryd.prog 18 #[head k i p n, .int .i64 9] w fun e w' => e = .returned (.tuple #[head 9 0 0 (p + n), .int .i64 0]) ∧ Below w.heap.size w w' := by
  have sm := right_small hE
  have H : HeadAt ((w.alloc (Obj.cells #[Value.int IntKind.i64 k, Value.int IntKind.i64 i, Value.int IntKind.i64 p, Value.int IntKind.i64 n] 23)).alloc (Obj.cells #[Value.int IntKind.i64 0, Value.int IntKind.i64 0, Value.int IntKind.i64 0, Value.int IntKind.i64 0] 23)) w.heap.size k i p n := (HeadAt.fresh w k i p n).later (by go_grown)
  have G : Mine ((w.alloc (Obj.cells #[Value.int IntKind.i64 k, Value.int IntKind.i64 i, Value.int IntKind.i64 p, Value.int IntKind.i64 n] 23)).alloc (Obj.cells #[Value.int IntKind.i64 0, Value.int IntKind.i64 0, Value.int IntKind.i64 0, Value.int IntKind.i64 0] 23)) (w.heap.size + 1) 0 0 0 0 := by have := Mine.fresh (w.alloc (Obj.cells #[Value.int IntKind.i64 k, Value.int IntKind.i64 i, Value.int IntKind.i64 p, Value.int IntKind.i64 n] 23)) 0 0 0 0; simpa using this
  have S := fun w => refRight_any k i p n w
  simp only [hE] at S
  clear hE
  go_enter Tryd.func18, Tryd.ntmps18
  go_wp2_with (first
    | (go_at_call 16; refine (refThunk_any _ _).mono ?_; rintro e w' ⟨rfl, rfl⟩)
    | (go_at_call 10; refine (S _).mono ?_; rintro e w1 ⟨rfl, B1⟩; have G1 := G.later B1; have f0 := G1.free 0; have f1 := G1.free 1; have f2 := G1.free 2; have f3 := G1.free 3; obtain ⟨y0, y1, y2, y3⟩ := G1.at; obtain ⟨x0, x1, x2, x3⟩ := H.later B1))
  refine bodyPost_ret (v := .tuple #[head 9 0 0 (p + n), .int .i64 0]) (by simp [results, Tryd.results18, go_sem, y0, y1, y2, y3]) rfl ⟨rfl, ?_⟩
  exact ((((far2 B1).setCell (by simp) _).setCell (by simp) _).setCell (by simp) _).setCell (by simp) _


set_option maxHeartbeats 1000000 in
theorem refOver_h9 (k i p n : Int) (w : World) (hE : rightE k i p n = 0) (b : thunkB k = false) (c : (k != 9) = false) (l : 1 ≤ p + n) :
    Calls Tryd.prog 18 #[head k i p n, .int .i64 9] w fun e w' => e = .returned (.tuple #[head 9 0 0 (p + n), .int .i64 0]) ∧ Below w.heap.size w w' := by
  have sm := right_small hE
  have H : HeadAt ((w.alloc (Obj.cells #[Value.int IntKind.i64 k, Value.int IntKind.i64 i, Value.int IntKind.i64 p, Value.int IntKind.i64 n] 23)).alloc (Obj.cells #[Value.int IntKind.i64 0, Value.int IntKind.i64 0, Value.int IntKind.i64 0, Value.int IntKind.i64 0] 23)) w.heap.size k i p n := (HeadAt.fresh w k i p n).later (by go_grown)
  have G : Mine ((w.alloc (Obj.cells #[Value.int IntKind.i64 k, Value.int IntKind.i64 i, Value.int IntKind.i64 p, Value.int IntKind.i64 n] 23)).alloc (Obj.cells #[Value.int IntKind.i64 0, Value.int IntKind.i64 0, Value.int IntKind.i64 0, Value.int IntKind.i64 0] 23)) (w.heap.size + 1) 0 0 0 0 := by have := Mine.fresh (w.alloc (Obj.cells #[Value.int IntKind.i64 k, Value.int IntKind.i64 i, Value.int IntKind.i64 p, Value.int IntKind.i64 n] 23)) 0 0 0 0; simpa using this
  have S := fun w => refRight_any k i p n w
  simp only [hE] at S
  clear hE
  go_enter Tryd.func18, Tryd.ntmps18
  go_wp2_with (first
    | (go_at_call 16; refine (refThunk_any _ _).mono ?_; rintro e w' ⟨rfl, rfl⟩)
    | (go_at_call 10; refine (S _).mono ?_; rintro e w1 ⟨rfl, B1⟩; have G1 := G.later B1; have f0 := G1.free 0; have f1 := G1.free 1; have f2 := G1.free 2; have f3 := G1.free 3; obtain ⟨y0, y1, y2, y3⟩ := G1.at; obtain ⟨x0, x1, x2, x3⟩ := H.later B1))
  refine bodyPost_ret (v := .tuple #[head 9 0 0 (p + n), .int .i64 0]) (by simp [results, Tryd.results18, go_sem, y0, y1, y2, y3]) rfl ⟨rfl, ?_⟩
  exact ((((far2 B1).setCell (by simp) _).setCell (by simp) _).setCell (by simp) _).setCell (by simp) _


set_option maxHeartbeats 1000000 in
theorem refOver_wrong12 (k i p n E : Int) (w : World) (hE : rightE k i p n = E) (b : (E != 0) = true) :
    Calls Tryd.prog 18 #[head k i p n, .int .i64 12] w fun e w' => e = .returned (.tuple #[head 0 0 0 0, .int .i64 E]) ∧ Below w.heap.size w w' := by
  have H : HeadAt ((w.alloc (Obj.cells #[Value.int IntKind.i64 k, Value.int IntKind.i64 i, Value.int IntKind.i64 p, Value.int IntKind.i64 n] 23)).alloc (Obj.cells #[Value.int IntKind.i64 0, Value.int IntKind.i64 0, Value.int IntKind.i64 0, Value.int IntKind.i64 0] 23)) w.heap.size k i p n := (HeadAt.fresh w k i p n).later (by go_grown)
  have G : Mine ((w.alloc (Obj.cells #[Value.int IntKind.i64 k, Value.int IntKind.i64 i, Value.int IntKind.i64 p, Value.int IntKind.i64 n] 23)).alloc (Obj.cells #[Value.int IntKind.i64 0, Value.int IntKind.i64 0, Value.int IntKind.i64 0, Value.int IntKind.i64 0] 23)) (w.heap.size + 1) 0 0 0 0 := by have := Mine.fresh (w.alloc (Obj.cells #[Value.int IntKind.i64 k, Value.int IntKind.i64 i, Value.int IntKind.i64 p, Value.int IntKind.i64 n] 23)) 0 0 0 0; simpa using this
  have S := fun w => refRight_any k i p n w
  simp only [hE] at S
  clear hE
  go_enter Tryd.func18, Tryd.ntmps18
  go_wp2_with (first
    | (go_at_call 16; refine (refThunk_any _ _).mono ?_; rintro e w' ⟨rfl, rfl⟩)
    | (go_at_call 10; refine (S _).mono ?_; rintro e w1 ⟨rfl, B1⟩; have G1 := G.later B1; have f0 := G1.free 0; have f1 := G1.free 1; have f2 := G1.free 2; have f3 := G1.free 3; obtain ⟨y0, y1, y2, y3⟩ := G1.at; obtain ⟨x0, x1, x2, x3⟩ := H.later B1))
  refine bodyPost_ret (v := .tuple #[head 0 0 0 0, .int .i64 E]) (by simp [results, Tryd.results18, go_sem, y0, y1, y2, y3]) rfl ⟨rfl, ?_⟩
  exact ((((far2 B1).setCell (by simp) _).setCell (by simp) _).setCell (by simp) _).setCell (by simp) _

set_option maxHeartbeats 1000000 in
theorem refOver_none12 (k i p n : Int) (w : World) (hE : rightE k i p n = 0) (b : thunkB k = false) (c : (k != 9) = true) :
    Calls Tryd.prog 18 #[head k i p n, .int .i64 12] w fun e w' => e = .returned (.tuple #[head 0 0 0 0, .int .i64 6]) ∧ Below w.heap.size w w' := by
  have H : HeadAt ((w.alloc (Obj.cells #[Value.int IntKind.i64 k, Value.int IntKind.i64 i, Value.int IntKind.i64 p, Value.int IntKind.i64 n] 23)).alloc (Obj.cells #[Value.int IntKind.i64 0, Value.int IntKind.i64 0, Value.int IntKind.i64 0, Value.int IntKind.i64 0] 23)) w.heap.size k i p n := (HeadAt.fresh w k i p n).later (by go_grown)
  have G : Mine ((w.alloc (Obj.cells #[Value.int IntKind.i64 k, Value.int IntKind.i64 i, Value.int IntKind.i64 p, Value.int IntKind.i64 n] 23)).alloc (Obj.cells #[Value.int IntKind.i64 0, Value.int IntKind.i64 0, Value.int IntKind.i64 0, Value.int IntKind.i64 0] 23)) (w.heap.size + 1) 0 0 0 0 := by have := Mine.fresh (w.alloc (Obj.cells #[Value.int IntKind.i64 k, Value.int IntKind.i64 i, Value.int IntKind.i64 p, Value.int IntKind.i64 n] 23)) 0 0 0 0; simpa using this
  have S := fun w => refRight_any k i p n w
  simp only [hE] at S
  clear hE
  go_enter Tryd.func18, Tryd.ntmps18
  go_wp2_with (first
    | (go_at_call 16; refine (refThunk_any _ _).mono ?_; rintro e w' ⟨rfl, rfl⟩)
    | (go_at_call 10; refine (S _).mono ?_; rintro e w1 ⟨rfl, B1⟩; have G1 := G.later B1; have f0 := G1.free 0; have f1 := G1.free 1; have f2 := G1.free 2; have f3 := G1.free 3; obtain ⟨y0, y1, y2, y3⟩ := G1.at; obtain ⟨x0, x1, x2, x3⟩ := H.later B1))
  refine bodyPost_ret (v := .tuple #[head 0 0 0 0, .int .i64 6]) (by simp [results, Tryd.results18, go_sem, y0, y1, y2, y3]) rfl ⟨rfl, ?_⟩
  exact ((((far2 B1).setCell (by simp) _).setCell (by simp) _).setCell (by simp) _).setCell (by simp) _


set_option maxHeartbeats 1000000 in
theorem refOver_t12 (k i p n : Int) (w : World) (hE : rightE k i p n = 0) (b : thunkB k = true) (l : 1 ≤ p + n) :
    Calls Tryd.prog 18 #[head k i p n, .int .i64 12] w fun e w' => e = .returned (.tuple #[head 12 0 0 (p + n), .int .i64 0]) ∧ Below w.heap.size w w' := by
  have sm := right_small hE
  have H : HeadAt ((w.alloc (Obj.cells #[Value.int IntKind.i64 k, Value.int IntKind.i64 i, Value.int IntKind.i64 p, Value.int IntKind.i64 n] 23)).alloc (Obj.cells #[Value.int IntKind.i64 0, Value.int IntKind.i64 0, Value.int IntKind.i64 0, Value.int IntKind.i64 0] 23)) w.heap.size k i p n := (HeadAt.fresh w k i p n).later (by go_grown)
  have G : Mine ((w.alloc (Obj.cells #[Value.int IntKind.i64 k, Value.int IntKind.i64 i, Value.int IntKind.i64 p, Value.int IntKind.i64 n] 23)).alloc (Obj.cells #[Value.int IntKind.i64 0, Value.int IntKind.i64 0, Value.int IntKind.i64 0, Value.int IntKind.i64 0] 23)) (w.heap.size + 1) 0 0 0 0 := by have := Mine.fresh (w.alloc (Obj.cells #[Value.int IntKind.i64 k, Value.int IntKind.i64 i, Value.int IntKind.i64 p, Value.int IntKind.i64 n] 23)) 0 0 0 0; simpa using this
  have S := fun w => refRight_any k i p n w
  simp only [hE] at S
  clear hE
  go_enter Tryd.func18, Tryd.ntmps18
  go_wp2_with (first
    | (go_at_call 16; refine (refThunk_any _ _).mono ?_; rintro e w' ⟨rfl, rfl⟩)
    | (go_at_call 10; refine (S _).mono ?_; rintro e w1 ⟨rfl, B1⟩; have G1 := G.later B1; have f0 := G1.free 0; have f1 := G1.free 1; have f2 := G1.free 2; have f3 := G1.free 3; obtain ⟨y0, y1, y2, y3⟩ := G1.at; obtain ⟨x0, x1, x2, x3⟩ := H.later B1))
  refine bodyPost_ret (v := .tuple #[head 12 0 0 (p + n), .int .i64 0]) (by simp [results, Tryd.results18, go_sem, y0, y1, y2, y3]) rfl ⟨rfl, ?_⟩
  exact ((((far2 B1).setCell (by simp) _).setCell (by simp) _).setCell (by simp) _).setCell (by simp) _


set_option maxHeartbeats 1000000 in
theorem refOver_h12 (k i p n : Int) (w : World) (hE : rightE k i p n = 0) (b : thunkB k = false) (c : (k != 9) = false) (l : 1 ≤ p + n) :
    Calls Tryd.prog 18 #[head k i p n, .int .i64 12] w fun e w' => e = .returned (.tuple #[head 12 0 0 (p + n), .int .i64 0]) ∧ Below w.heap.size w w' := by
  have sm := right_small hE
  have H : HeadAt ((w.alloc (Obj.cells #[Value.int IntKind.i64 k, Value.int IntKind.i64 i, Value.int IntKind.i64 p, Value.int IntKind.i64 n] 23)).alloc (Obj.cells #[Value.int IntKind.i64 0, Value.int IntKind.i64 0, Value.int IntKind.i64 0, Value.int IntKind.i64 0] 23)) w.heap.size k i p n := (HeadAt.fresh w k i p n).later (by go_grown)
  have G : Mine ((w.alloc (Obj.cells #[Value.int IntKind.i64 k, Value.int IntKind.i64 i, Value.int IntKind.i64 p, Value.int IntKind.i64 n] 23)).alloc (Obj.cells #[Value.int IntKind.i64 0, Value.int IntKind.i64 0, Value.int IntKind.i64 0, Value.int IntKind.i64 0] 23)) (w.heap.size + 1) 0 0 0 0 := by have := Mine.fresh (w.alloc (Obj.cells #[Value.int IntKind.i64 k, Value.int IntKind.i64 i, Value.int IntKind.i64 p, Value.int IntKind.i64 n] 23)) 0 0 0 0; simpa using this
  have S := fun w => refRight_any k i p n w
  simp only [hE] at S
  clear hE
  go_enter Tryd.func18, Tryd.ntmps18
  go_wp2_with (first
    | (go_at_call 16; refine (refThunk_any _ _).mono ?_; rintro e w' ⟨rfl, rfl⟩)
    | (go_at_call 10; refine (S _).mono ?_; rintro e w1 ⟨rfl, B1⟩; have G1 := G.later B1; have f0 := G1.free 0; have f1 := G1.free 1; have f2 := G1.free 2; have f3 := G1.free 3; obtain ⟨y0, y1, y2, y3⟩ := G1.at; obtain ⟨x0, x1, x2, x3⟩ := H.later B1))
  refine bodyPost_ret (v := .tuple #[head 12 0 0 (p + n), .int .i64 0]) (by simp [results, Tryd.results18, go_sem, y0, y1, y2, y3]) rfl ⟨rfl, ?_⟩
  exact ((((far2 B1).setCell (by simp) _).setCell (by simp) _).setCell (by simp) _).setCell (by simp) _


theorem refOver_any (k i p n t : Int) (w : World) : OverSays 18 k i p n t w := by
  rcases Bool.eq_false_or_eq_true (passB t) with a | a
  · have at' := passB_yes.1 a
    by_cases b : rightE k i p n = 0
    · by_cases c : thunkB k = false ∧ k ≠ 9
      · refine over_bad (E := 6) (by simp [overE, a, b, c]) (by decide) ?_
        rcases at' with rfl | rfl | rfl
        · exact refOver_none8 k i p n w b c.1 (by simp [c.2])
        · exact refOver_none9 k i p n w b c.1 (by simp [c.2])
        · exact refOver_none12 k i p n w b c.1 (by simp [c.2])
      · have hE : overE k i p n t = 0 := by simp only [overE, a, b, c]; simp
        refine over_ok hE ?_
        have T : (thunkB k = true) ∨ (thunkB k = false ∧ k = 9) := by
          rcases Bool.eq_false_or_eq_true (thunkB k) with e | e
          · exact .inl e
          · right; by_cases k9 : k = 9
            · exact ⟨e, k9⟩
            · exact absurd ⟨e, k9⟩ c
        have l : 1 ≤ p + n := part_least b (T.imp id And.right)
        rcases at' with rfl | rfl | rfl
        · rcases T with T | ⟨T, U⟩
          · exact refOver_t8 k i p n w b T l
          · exact refOver_h8 k i p n w b T (by simp [U]) l
        · rw [show tA (9 : Int).toNat = 0 from rfl, Int.sub_zero]
          rcases T with T | ⟨T, U⟩
          · exact refOver_t9 k i p n w b T l
          · exact refOver_h9 k i p n w b T (by simp [U]) l
        · rw [show tA (12 : Int).toNat = 0 from rfl, Int.sub_zero]
          rcases T with T | ⟨T, U⟩
          · exact refOver_t12 k i p n w b T l
          · exact refOver_h12 k i p n w b T (by simp [U]) l
    · refine over_bad (E := rightE k i p n) (by simp only [overE, a]; simp [b]) b ?_
      rcases at' with rfl | rfl | rfl
      · exact refOver_wrong8 k i p n _ w rfl (by simp [b])
      · exact refOver_wrong9 k i p n _ w rfl (by simp [b])
      · exact refOver_wrong12 k i p n _ w rfl (by simp [b])
  · have na := passB_no.1 a
    exact over_bad (by simp [overE, a]) (by decide) (refOver_kind k i p n t w (by simp; omega) (by simp; omega) (by simp; omega))
end Go.Proofs.YtdiibckplkkkkaaDoor
