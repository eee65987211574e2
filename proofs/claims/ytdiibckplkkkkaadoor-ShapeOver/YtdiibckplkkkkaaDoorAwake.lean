/- What must come at any rate does come: the statements' own helper. -/
import Derived.Test.YtdiibckplkkkkaaDoorOver
namespace Go.Proofs.YtdiibckplkkkkaaDoor
open Go.RowKit

theorem over_first (w : World) (h : Table w) : Calls Tryd.prog 17 #[head 6 3 2 0, .int .i64 8] w fun e w' => e = .returned (.tuple #[head 8 0 1 1, .int .i64 0]) ∧ Below w.heap.size w w' :=
  over_t8 6 3 2 0 w h (by decide) (by decide) (by decide)
theorem right_first (w : World) (h : Table w) : Calls Tryd.prog 9 #[head 8 0 1 1] w fun e w' => e = .returned (.int .i64 0) ∧ Below w.heap.size w w' := by
  have := right_any 8 0 1 1 w h
  rw [show rightE 8 0 1 1 = 0 by decide] at this
  exact this
theorem size_first (w : World) (h : Table w) : Calls Tryd.prog 11 #[head 8 0 1 1] w fun e w' => e = .returned (.int .i64 3) ∧ Below w.heap.size w w' := by
  have := size_any 8 0 1 1 w h
  rw [show sizeN 8 0 1 1 = 3 by decide] at this
  exact this
set_option maxHeartbeats 1000000 in
theorem awake_any (w : World) (h : Table w) : Calls Tryd.prog 8 #[] w fun e w' => e = .returned (.bool true) ∧ Below w.heap.size w w' := by
  have v2 : valueB 2 = true := by decide
  go_enter Tryd.func8, Tryd.ntmps8
  go_wp2_with (first
    | (go_at_call 17; refine (over_first _ h).mono ?_; rintro e w1 ⟨rfl, B1⟩; have H1 := HeadAt.fresh w1 8 0 1 1; have T1 : Table (w1.alloc (Obj.cells #[Value.int IntKind.i64 8, Value.int IntKind.i64 0, Value.int IntKind.i64 1, Value.int IntKind.i64 1] 23)) := (h.later B1).later (by go_grown))
    | (go_at_call 9; refine (right_first _ T1).mono ?_; rintro e w2 ⟨rfl, B2⟩; obtain ⟨x0, x1, x2, x3⟩ := H1.later B2)
    | (go_at_call 11; refine (size_first _ (T1.later B2)).mono ?_; rintro e w3 ⟨rfl, B3⟩)
    | (go_at_call 13; refine (value_any _ _).mono ?_; rintro e w' ⟨rfl, rfl⟩))
  go_ret
  exact ⟨rfl, B1.trans ((far1 B2).trans (B3.mono (far1 B2).size) |>.mono B1.size)⟩
end Go.Proofs.YtdiibckplkkkkaaDoor
