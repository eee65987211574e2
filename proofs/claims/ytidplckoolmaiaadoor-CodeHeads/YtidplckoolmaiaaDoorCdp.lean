/- The header of the closure that a Make lays: the program's answer and the document's. -/
import Derived.Test.YtidplckoolmaiaaDoorCdc
namespace Go.Proofs.YtidplckoolmaiaaDoor
open Go.RowKit
set_option linter.unusedVariables false
set_option linter.unusedSimpArgs false

/-- a header's four numbers and the error, by kind, info, and how many places there are -/
def headL (k i : Int) (L : Nat) : Int × Int × Int × Int × Int :=
  if k = 2 then if 0 < L then (0, 0, 0, 0, 7) else (2, 0, 0, 1, 0)
  else if k = 1 ∨ k = 3 ∨ k = 6 ∨ k = 7 then
    if 255 < L ∨ (k = 7 ∧ ¬ L = 1) then (0, 0, 0, 0, 7)
    else if i < 0 ∨ 1048575 < i then (0, 0, 0, 0, 2)
    else (k, i, L, if k = 7 ∨ (k = 6 ∧ L = 0) then 1 else 0, 0)
  else (0, 0, 0, 0, 6)
def headT (m : Mk) : Int × Int × Int × Int × Int := headL m.k m.i m.fr.length
def hdV (t : Int × Int × Int × Int × Int) : Value := .tuple #[.agg #[.int .i64 t.1, .int .i64 t.2.1, .int .i64 t.2.2.1, .int .i64 t.2.2.2.1], .int .i64 t.2.2.2.2]
def cloB (k : Int) : Bool := k == 1 || (k == 2 || (k == 3 || (k == 6 || k == 7)))
theorem closure_any (k : Int) (w : World) : Calls Tryd.prog 12 #[.int .i64 k] w fun e w' => e = .returned (.bool (cloB k)) ∧ w' = w := by
  by_cases h1 : k = 1
  · subst h1; go_enter Tryd.func12, Tryd.ntmps12; go_wp2; go_ret; exact ⟨rfl, rfl⟩
  by_cases h2 : k = 2
  · subst h2; go_enter Tryd.func12, Tryd.ntmps12; go_wp2; go_ret; exact ⟨rfl, rfl⟩
  by_cases h3 : k = 3
  · subst h3; go_enter Tryd.func12, Tryd.ntmps12; go_wp2; go_ret; exact ⟨rfl, rfl⟩
  by_cases h6 : k = 6
  · subst h6; go_enter Tryd.func12, Tryd.ntmps12; go_wp2; go_ret; exact ⟨rfl, rfl⟩
  by_cases h7 : k = 7
  · subst h7; go_enter Tryd.func12, Tryd.ntmps12; go_wp2; go_ret; exact ⟨rfl, rfl⟩
  go_enter Tryd.func12, Tryd.ntmps12; go_wp2; go_ret; exact ⟨retBool (by simp [cloB, Bool.or_assoc]), rfl⟩
set_option maxHeartbeats 1000000 in
theorem head5_1 (i n : Int) (fr : List Int) (gf : Option Addr) (cf : Nat) (w : World) (hl : fr.length ≤ 9223372036854775807) : Calls Tryd.prog 5 #[.agg #[.int .i64 1, .int .i64 i, .int .i64 n, .slice gf fr.length cf]] w fun e w' => e = .returned (hdV (headT ⟨1, i, n, fr⟩)) ∧ Below w.heap.size w w' := by
  obtain ⟨L, hL⟩ : ∃ L, fr.length = L := ⟨_, rfl⟩
  have HT : headT ⟨1, i, n, fr⟩ = headL 1 i L := by unfold headT; rw [hL]
  rw [HT, hL]
  rw [hL] at hl
  clear HT hL
  by_cases h : 255 < L
  · have h' : (255 : Int) < L := by omega
    have R : Hid (headL 1 i L = ((0, 0, 0, 0, 7) : Int × Int × Int × Int × Int)) := ⟨by unfold headL; (repeat' split) <;> first | rfl | omega⟩
    rw [R.out]
    clear R
    unfold hdV
    dsimp only
    have CB : ∀ w, Calls Tryd.prog 11 #[.int .i64 0, .int .i64 1048576] w fun e w' => e = .returned (.bool true) ∧ w' = w := fun w => below_any 0 1048576 w
    go_enter Tryd.func5, Tryd.ntmps5
    go_wp2_with (go_at_call 11; refine (CB _).mono ?_; rintro e w' ⟨rfl, rfl⟩)
    exact bodyPost_ret (v := .tuple #[.agg #[.int .i64 0, .int .i64 0, .int .i64 0, .int .i64 0], .int .i64 7]) (by simp [results, Tryd.results5, go_sem]) rfl ⟨rfl, by go_grown⟩
  have h' : ¬ (255 : Int) < L := by omega
  by_cases i1 : i < 0
  · have R : Hid (headL 1 i L = ((0, 0, 0, 0, 2) : Int × Int × Int × Int × Int)) := ⟨by unfold headL; (repeat' split) <;> first | rfl | omega⟩
    rw [R.out]
    clear R
    unfold hdV
    dsimp only
    have CB : ∀ w, Calls Tryd.prog 11 #[.int .i64 i, .int .i64 1048576] w fun e w' => e = .returned (.bool false) ∧ w' = w := fun w => by have := below_any i 1048576 w; rwa [show belowI i 1048576 = false by simp [belowI]; omega] at this
    go_enter Tryd.func5, Tryd.ntmps5
    go_wp2_with (go_at_call 11; refine (CB _).mono ?_; rintro e w' ⟨rfl, rfl⟩)
    exact bodyPost_ret (v := .tuple #[.agg #[.int .i64 0, .int .i64 0, .int .i64 0, .int .i64 0], .int .i64 2]) (by simp [results, Tryd.results5, go_sem]) rfl ⟨rfl, by go_grown⟩
  by_cases i2 : 1048575 < i
  · have R : Hid (headL 1 i L = ((0, 0, 0, 0, 2) : Int × Int × Int × Int × Int)) := ⟨by unfold headL; (repeat' split) <;> first | rfl | omega⟩
    rw [R.out]
    clear R
    unfold hdV
    dsimp only
    have CB : ∀ w, Calls Tryd.prog 11 #[.int .i64 i, .int .i64 1048576] w fun e w' => e = .returned (.bool false) ∧ w' = w := fun w => by have := below_any i 1048576 w; rwa [show belowI i 1048576 = false by simp [belowI]; omega] at this
    go_enter Tryd.func5, Tryd.ntmps5
    go_wp2_with (go_at_call 11; refine (CB _).mono ?_; rintro e w' ⟨rfl, rfl⟩)
    exact bodyPost_ret (v := .tuple #[.agg #[.int .i64 0, .int .i64 0, .int .i64 0, .int .i64 0], .int .i64 2]) (by simp [results, Tryd.results5, go_sem]) rfl ⟨rfl, by go_grown⟩
  · have R : Hid (headL 1 i L = ((1, i, L, 0, 0) : Int × Int × Int × Int × Int)) := ⟨by unfold headL; (repeat' split) <;> first | rfl | omega⟩
    rw [R.out]
    clear R
    unfold hdV
    dsimp only
    have CB : ∀ w, Calls Tryd.prog 11 #[.int .i64 i, .int .i64 1048576] w fun e w' => e = .returned (.bool true) ∧ w' = w := fun w => by have := below_any i 1048576 w; rwa [show belowI i 1048576 = true by simp [belowI]; omega] at this
    go_enter Tryd.func5, Tryd.ntmps5
    go_wp2_with (go_at_call 11; refine (CB _).mono ?_; rintro e w' ⟨rfl, rfl⟩)
    exact bodyPost_ret (v := .tuple #[.agg #[.int .i64 1, .int .i64 i, .int .i64 L, .int .i64 0], .int .i64 0]) (by simp [results, Tryd.results5, go_sem]) rfl ⟨rfl, by go_grown⟩
set_option maxHeartbeats 1000000 in
theorem head5_2 (i n : Int) (fr : List Int) (gf : Option Addr) (cf : Nat) (w : World) (hl : fr.length ≤ 9223372036854775807) : Calls Tryd.prog 5 #[.agg #[.int .i64 2, .int .i64 i, .int .i64 n, .slice gf fr.length cf]] w fun e w' => e = .returned (hdV (headT ⟨2, i, n, fr⟩)) ∧ Below w.heap.size w w' := by
  obtain ⟨L, hL⟩ : ∃ L, fr.length = L := ⟨_, rfl⟩
  have HT : headT ⟨2, i, n, fr⟩ = headL 2 i L := by unfold headT; rw [hL]
  rw [HT, hL]
  rw [hL] at hl
  clear HT hL
  by_cases h : 0 < L
  · have h' : (0 : Int) < L := by omega
    have R : Hid (headL 2 i L = ((0, 0, 0, 0, 7) : Int × Int × Int × Int × Int)) := ⟨by unfold headL; (repeat' split) <;> first | rfl | omega⟩
    rw [R.out]
    clear R
    unfold hdV
    dsimp only
    have CB : ∀ w, Calls Tryd.prog 11 #[.int .i64 0, .int .i64 1048576] w fun e w' => e = .returned (.bool true) ∧ w' = w := fun w => below_any 0 1048576 w
    go_enter Tryd.func5, Tryd.ntmps5
    go_wp2_with (go_at_call 11; refine (CB _).mono ?_; rintro e w' ⟨rfl, rfl⟩)
    exact bodyPost_ret (v := .tuple #[.agg #[.int .i64 0, .int .i64 0, .int .i64 0, .int .i64 0], .int .i64 7]) (by simp [results, Tryd.results5, go_sem]) rfl ⟨rfl, by go_grown⟩
  · obtain rfl : L = 0 := by omega
    have R : Hid (headL 2 i 0 = ((2, 0, 0, 1, 0) : Int × Int × Int × Int × Int)) := ⟨by unfold headL; (repeat' split) <;> first | rfl | omega⟩
    rw [R.out]
    clear R
    unfold hdV
    dsimp only
    have CB : ∀ w, Calls Tryd.prog 11 #[.int .i64 0, .int .i64 1048576] w fun e w' => e = .returned (.bool true) ∧ w' = w := fun w => below_any 0 1048576 w
    go_enter Tryd.func5, Tryd.ntmps5
    go_wp2_with (go_at_call 11; refine (CB _).mono ?_; rintro e w' ⟨rfl, rfl⟩)
    exact bodyPost_ret (v := .tuple #[.agg #[.int .i64 2, .int .i64 0, .int .i64 0, .int .i64 1], .int .i64 0]) (by simp [results, Tryd.results5, go_sem]) rfl ⟨rfl, by go_grown⟩
set_option maxHeartbeats 1000000 in
theorem head5_3 (i n : Int) (fr : List Int) (gf : Option Addr) (cf : Nat) (w : World) (hl : fr.length ≤ 9223372036854775807) : Calls Tryd.prog 5 #[.agg #[.int .i64 3, .int .i64 i, .int .i64 n, .slice gf fr.length cf]] w fun e w' => e = .returned (hdV (headT ⟨3, i, n, fr⟩)) ∧ Below w.heap.size w w' := by
  obtain ⟨L, hL⟩ : ∃ L, fr.length = L := ⟨_, rfl⟩
  have HT : headT ⟨3, i, n, fr⟩ = headL 3 i L := by unfold headT; rw [hL]
  rw [HT, hL]
  rw [hL] at hl
  clear HT hL
  by_cases h : 255 < L
  · have h' : (255 : Int) < L := by omega
    have R : Hid (headL 3 i L = ((0, 0, 0, 0, 7) : Int × Int × Int × Int × Int)) := ⟨by unfold headL; (repeat' split) <;> first | rfl | omega⟩
    rw [R.out]
    clear R
    unfold hdV
    dsimp only
    have CB : ∀ w, Calls Tryd.prog 11 #[.int .i64 0, .int .i64 1048576] w fun e w' => e = .returned (.bool true) ∧ w' = w := fun w => below_any 0 1048576 w
    go_enter Tryd.func5, Tryd.ntmps5
    go_wp2_with (go_at_call 11; refine (CB _).mono ?_; rintro e w' ⟨rfl, rfl⟩)
    exact bodyPost_ret (v := .tuple #[.agg #[.int .i64 0, .int .i64 0, .int .i64 0, .int .i64 0], .int .i64 7]) (by simp [results, Tryd.results5, go_sem]) rfl ⟨rfl, by go_grown⟩
  have h' : ¬ (255 : Int) < L := by omega
  by_cases i1 : i < 0
  · have R : Hid (headL 3 i L = ((0, 0, 0, 0, 2) : Int × Int × Int × Int × Int)) := ⟨by unfold headL; (repeat' split) <;> first | rfl | omega⟩
    rw [R.out]
    clear R
    unfold hdV
    dsimp only
    have CB : ∀ w, Calls Tryd.prog 11 #[.int .i64 i, .int .i64 1048576] w fun e w' => e = .returned (.bool false) ∧ w' = w := fun w => by have := below_any i 1048576 w; rwa [show belowI i 1048576 = false by simp [belowI]; omega] at this
    go_enter Tryd.func5, Tryd.ntmps5
    go_wp2_with (go_at_call 11; refine (CB _).mono ?_; rintro e w' ⟨rfl, rfl⟩)
    exact bodyPost_ret (v := .tuple #[.agg #[.int .i64 0, .int .i64 0, .int .i64 0, .int .i64 0], .int .i64 2]) (by simp [results, Tryd.results5, go_sem]) rfl ⟨rfl, by go_grown⟩
  by_cases i2 : 1048575 < i
  · have R : Hid (headL 3 i L = ((0, 0, 0, 0, 2) : Int × Int × Int × Int × Int)) := ⟨by unfold headL; (repeat' split) <;> first | rfl | omega⟩
    rw [R.out]
    clear R
    unfold hdV
    dsimp only
    have CB : ∀ w, Calls Tryd.prog 11 #[.int .i64 i, .int .i64 1048576] w fun e w' => e = .returned (.bool false) ∧ w' = w := fun w => by have := below_any i 1048576 w; rwa [show belowI i 1048576 = false by simp [belowI]; omega] at this
    go_enter Tryd.func5, Tryd.ntmps5
    go_wp2_with (go_at_call 11; refine (CB _).mono ?_; rintro e w' ⟨rfl, rfl⟩)
    exact bodyPost_ret (v := .tuple #[.agg #[.int .i64 0, .int .i64 0, .int .i64 0, .int .i64 0], .int .i64 2]) (by simp [results, Tryd.results5, go_sem]) rfl ⟨rfl, by go_grown⟩
  · have R : Hid (headL 3 i L = ((3, i, L, 0, 0) : Int × Int × Int × Int × Int)) := ⟨by unfold headL; (repeat' split) <;> first | rfl | omega⟩
    rw [R.out]
    clear R
    unfold hdV
    dsimp only
    have CB : ∀ w, Calls Tryd.prog 11 #[.int .i64 i, .int .i64 1048576] w fun e w' => e = .returned (.bool true) ∧ w' = w := fun w => by have := below_any i 1048576 w; rwa [show belowI i 1048576 = true by simp [belowI]; omega] at this
    go_enter Tryd.func5, Tryd.ntmps5
    go_wp2_with (go_at_call 11; refine (CB _).mono ?_; rintro e w' ⟨rfl, rfl⟩)
    exact bodyPost_ret (v := .tuple #[.agg #[.int .i64 3, .int .i64 i, .int .i64 L, .int .i64 0], .int .i64 0]) (by simp [results, Tryd.results5, go_sem]) rfl ⟨rfl, by go_grown⟩
set_option maxHeartbeats 1000000 in
theorem head5_6 (i n : Int) (fr : List Int) (gf : Option Addr) (cf : Nat) (w : World) (hl : fr.length ≤ 9223372036854775807) : Calls Tryd.prog 5 #[.agg #[.int .i64 6, .int .i64 i, .int .i64 n, .slice gf fr.length cf]] w fun e w' => e = .returned (hdV (headT ⟨6, i, n, fr⟩)) ∧ Below w.heap.size w w' := by
  obtain ⟨L, hL⟩ : ∃ L, fr.length = L := ⟨_, rfl⟩
  have HT : headT ⟨6, i, n, fr⟩ = headL 6 i L := by unfold headT; rw [hL]
  rw [HT, hL]
  rw [hL] at hl
  clear HT hL
  by_cases h0 : L = 0
  · subst h0
    by_cases i1 : i < 0
    · have R : Hid (headL 6 i 0 = ((0, 0, 0, 0, 2) : Int × Int × Int × Int × Int)) := ⟨by unfold headL; (repeat' split) <;> first | rfl | omega⟩
      rw [R.out]
      clear R
      unfold hdV
      dsimp only
      have CB : ∀ w, Calls Tryd.prog 11 #[.int .i64 i, .int .i64 1048576] w fun e w' => e = .returned (.bool false) ∧ w' = w := fun w => by have := below_any i 1048576 w; rwa [show belowI i 1048576 = false by simp [belowI]; omega] at this
      go_enter Tryd.func5, Tryd.ntmps5
      go_wp2_with (go_at_call 11; refine (CB _).mono ?_; rintro e w' ⟨rfl, rfl⟩)
      exact bodyPost_ret (v := .tuple #[.agg #[.int .i64 0, .int .i64 0, .int .i64 0, .int .i64 0], .int .i64 2]) (by simp [results, Tryd.results5, go_sem]) rfl ⟨rfl, by go_grown⟩
    by_cases i2 : 1048575 < i
    · have R : Hid (headL 6 i 0 = ((0, 0, 0, 0, 2) : Int × Int × Int × Int × Int)) := ⟨by unfold headL; (repeat' split) <;> first | rfl | omega⟩
      rw [R.out]
      clear R
      unfold hdV
      dsimp only
      have CB : ∀ w, Calls Tryd.prog 11 #[.int .i64 i, .int .i64 1048576] w fun e w' => e = .returned (.bool false) ∧ w' = w := fun w => by have := below_any i 1048576 w; rwa [show belowI i 1048576 = false by simp [belowI]; omega] at this
      go_enter Tryd.func5, Tryd.ntmps5
      go_wp2_with (go_at_call 11; refine (CB _).mono ?_; rintro e w' ⟨rfl, rfl⟩)
      exact bodyPost_ret (v := .tuple #[.agg #[.int .i64 0, .int .i64 0, .int .i64 0, .int .i64 0], .int .i64 2]) (by simp [results, Tryd.results5, go_sem]) rfl ⟨rfl, by go_grown⟩
    · have R : Hid (headL 6 i 0 = ((6, i, 0, 1, 0) : Int × Int × Int × Int × Int)) := ⟨by unfold headL; (repeat' split) <;> first | rfl | omega⟩
      rw [R.out]
      clear R
      unfold hdV
      dsimp only
      have CB : ∀ w, Calls Tryd.prog 11 #[.int .i64 i, .int .i64 1048576] w fun e w' => e = .returned (.bool true) ∧ w' = w := fun w => by have := below_any i 1048576 w; rwa [show belowI i 1048576 = true by simp [belowI]; omega] at this
      go_enter Tryd.func5, Tryd.ntmps5
      go_wp2_with (go_at_call 11; refine (CB _).mono ?_; rintro e w' ⟨rfl, rfl⟩)
      exact bodyPost_ret (v := .tuple #[.agg #[.int .i64 6, .int .i64 i, .int .i64 0, .int .i64 1], .int .i64 0]) (by simp [results, Tryd.results5, go_sem]) rfl ⟨rfl, by go_grown⟩
  have h1 : ((L : Int) == 0) = false := by simp; omega
  by_cases h : 255 < L
  · have h' : (255 : Int) < L := by omega
    have R : Hid (headL 6 i L = ((0, 0, 0, 0, 7) : Int × Int × Int × Int × Int)) := ⟨by unfold headL; (repeat' split) <;> first | rfl | omega⟩
    rw [R.out]
    clear R
    unfold hdV
    dsimp only
    have CB : ∀ w, Calls Tryd.prog 11 #[.int .i64 0, .int .i64 1048576] w fun e w' => e = .returned (.bool true) ∧ w' = w := fun w => below_any 0 1048576 w
    go_enter Tryd.func5, Tryd.ntmps5
    go_wp2_with (go_at_call 11; refine (CB _).mono ?_; rintro e w' ⟨rfl, rfl⟩)
    exact bodyPost_ret (v := .tuple #[.agg #[.int .i64 0, .int .i64 0, .int .i64 0, .int .i64 0], .int .i64 7]) (by simp [results, Tryd.results5, go_sem]) rfl ⟨rfl, by go_grown⟩
  have h' : ¬ (255 : Int) < L := by omega
  by_cases i1 : i < 0
  · have R : Hid (headL 6 i L = ((0, 0, 0, 0, 2) : Int × Int × Int × Int × Int)) := ⟨by unfold headL; (repeat' split) <;> first | rfl | omega⟩
    rw [R.out]
    clear R
    unfold hdV
    dsimp only
    have CB : ∀ w, Calls Tryd.prog 11 #[.int .i64 i, .int .i64 1048576] w fun e w' => e = .returned (.bool false) ∧ w' = w := fun w => by have := below_any i 1048576 w; rwa [show belowI i 1048576 = false by simp [belowI]; omega] at this
    go_enter Tryd.func5, Tryd.ntmps5
    go_wp2_with (go_at_call 11; refine (CB _).mono ?_; rintro e w' ⟨rfl, rfl⟩)
    exact bodyPost_ret (v := .tuple #[.agg #[.int .i64 0, .int .i64 0, .int .i64 0, .int .i64 0], .int .i64 2]) (by simp [results, Tryd.results5, go_sem]) rfl ⟨rfl, by go_grown⟩
  by_cases i2 : 1048575 < i
  · have R : Hid (headL 6 i L = ((0, 0, 0, 0, 2) : Int × Int × Int × Int × Int)) := ⟨by unfold headL; (repeat' split) <;> first | rfl | omega⟩
    rw [R.out]
    clear R
    unfold hdV
    dsimp only
    have CB : ∀ w, Calls Tryd.prog 11 #[.int .i64 i, .int .i64 1048576] w fun e w' => e = .returned (.bool false) ∧ w' = w := fun w => by have := below_any i 1048576 w; rwa [show belowI i 1048576 = false by simp [belowI]; omega] at this
    go_enter Tryd.func5, Tryd.ntmps5
    go_wp2_with (go_at_call 11; refine (CB _).mono ?_; rintro e w' ⟨rfl, rfl⟩)
    exact bodyPost_ret (v := .tuple #[.agg #[.int .i64 0, .int .i64 0, .int .i64 0, .int .i64 0], .int .i64 2]) (by simp [results, Tryd.results5, go_sem]) rfl ⟨rfl, by go_grown⟩
  · have R : Hid (headL 6 i L = ((6, i, L, 0, 0) : Int × Int × Int × Int × Int)) := ⟨by unfold headL; (repeat' split) <;> first | rfl | omega⟩
    rw [R.out]
    clear R
    unfold hdV
    dsimp only
    have CB : ∀ w, Calls Tryd.prog 11 #[.int .i64 i, .int .i64 1048576] w fun e w' => e = .returned (.bool true) ∧ w' = w := fun w => by have := below_any i 1048576 w; rwa [show belowI i 1048576 = true by simp [belowI]; omega] at this
    go_enter Tryd.func5, Tryd.ntmps5
    go_wp2_with (go_at_call 11; refine (CB _).mono ?_; rintro e w' ⟨rfl, rfl⟩)
    exact bodyPost_ret (v := .tuple #[.agg #[.int .i64 6, .int .i64 i, .int .i64 L, .int .i64 0], .int .i64 0]) (by simp [results, Tryd.results5, go_sem]) rfl ⟨rfl, by go_grown⟩
set_option maxHeartbeats 1000000 in
theorem head5_7 (i n : Int) (fr : List Int) (gf : Option Addr) (cf : Nat) (w : World) (hl : fr.length ≤ 9223372036854775807) : Calls Tryd.prog 5 #[.agg #[.int .i64 7, .int .i64 i, .int .i64 n, .slice gf fr.length cf]] w fun e w' => e = .returned (hdV (headT ⟨7, i, n, fr⟩)) ∧ Below w.heap.size w w' := by
  obtain ⟨L, hL⟩ : ∃ L, fr.length = L := ⟨_, rfl⟩
  have HT : headT ⟨7, i, n, fr⟩ = headL 7 i L := by unfold headT; rw [hL]
  rw [HT, hL]
  rw [hL] at hl
  clear HT hL
  by_cases h0 : L = 0
  · subst h0
    have R : Hid (headL 7 i 0 = ((0, 0, 0, 0, 7) : Int × Int × Int × Int × Int)) := ⟨by unfold headL; (repeat' split) <;> first | rfl | omega⟩
    rw [R.out]
    clear R
    unfold hdV
    dsimp only
    have CB : ∀ w, Calls Tryd.prog 11 #[.int .i64 0, .int .i64 1048576] w fun e w' => e = .returned (.bool true) ∧ w' = w := fun w => below_any 0 1048576 w
    go_enter Tryd.func5, Tryd.ntmps5
    go_wp2_with (go_at_call 11; refine (CB _).mono ?_; rintro e w' ⟨rfl, rfl⟩)
    exact bodyPost_ret (v := .tuple #[.agg #[.int .i64 0, .int .i64 0, .int .i64 0, .int .i64 0], .int .i64 7]) (by simp [results, Tryd.results5, go_sem]) rfl ⟨rfl, by go_grown⟩
  by_cases h : 1 < L
  · have h' : (1 : Int) < L := by omega
    have h2 : ((L : Int) != 1) = true := by simp; omega
    have R : Hid (headL 7 i L = ((0, 0, 0, 0, 7) : Int × Int × Int × Int × Int)) := ⟨by unfold headL; (repeat' split) <;> first | rfl | omega⟩
    rw [R.out]
    clear R
    unfold hdV
    dsimp only
    have CB : ∀ w, Calls Tryd.prog 11 #[.int .i64 0, .int .i64 1048576] w fun e w' => e = .returned (.bool true) ∧ w' = w := fun w => below_any 0 1048576 w
    go_enter Tryd.func5, Tryd.ntmps5
    go_wp2_with (go_at_call 11; refine (CB _).mono ?_; rintro e w' ⟨rfl, rfl⟩)
    exact bodyPost_ret (v := .tuple #[.agg #[.int .i64 0, .int .i64 0, .int .i64 0, .int .i64 0], .int .i64 7]) (by simp [results, Tryd.results5, go_sem]) rfl ⟨rfl, by go_grown⟩
  obtain rfl : L = 1 := by omega
  by_cases i1 : i < 0
  · have R : Hid (headL 7 i 1 = ((0, 0, 0, 0, 2) : Int × Int × Int × Int × Int)) := ⟨by unfold headL; (repeat' split) <;> first | rfl | omega⟩
    rw [R.out]
    clear R
    unfold hdV
    dsimp only
    have CB : ∀ w, Calls Tryd.prog 11 #[.int .i64 i, .int .i64 1048576] w fun e w' => e = .returned (.bool false) ∧ w' = w := fun w => by have := below_any i 1048576 w; rwa [show belowI i 1048576 = false by simp [belowI]; omega] at this
    go_enter Tryd.func5, Tryd.ntmps5
    go_wp2_with (go_at_call 11; refine (CB _).mono ?_; rintro e w' ⟨rfl, rfl⟩)
    exact bodyPost_ret (v := .tuple #[.agg #[.int .i64 0, .int .i64 0, .int .i64 0, .int .i64 0], .int .i64 2]) (by simp [results, Tryd.results5, go_sem]) rfl ⟨rfl, by go_grown⟩
  by_cases i2 : 1048575 < i
  · have R : Hid (headL 7 i 1 = ((0, 0, 0, 0, 2) : Int × Int × Int × Int × Int)) := ⟨by unfold headL; (repeat' split) <;> first | rfl | omega⟩
    rw [R.out]
    clear R
    unfold hdV
    dsimp only
    have CB : ∀ w, Calls Tryd.prog 11 #[.int .i64 i, .int .i64 1048576] w fun e w' => e = .returned (.bool false) ∧ w' = w := fun w => by have := below_any i 1048576 w; rwa [show belowI i 1048576 = false by simp [belowI]; omega] at this
    go_enter Tryd.func5, Tryd.ntmps5
    go_wp2_with (go_at_call 11; refine (CB _).mono ?_; rintro e w' ⟨rfl, rfl⟩)
    exact bodyPost_ret (v := .tuple #[.agg #[.int .i64 0, .int .i64 0, .int .i64 0, .int .i64 0], .int .i64 2]) (by simp [results, Tryd.results5, go_sem]) rfl ⟨rfl, by go_grown⟩
  · have R : Hid (headL 7 i 1 = ((7, i, 1, 1, 0) : Int × Int × Int × Int × Int)) := ⟨by unfold headL; (repeat' split) <;> first | rfl | omega⟩
    rw [R.out]
    clear R
    unfold hdV
    dsimp only
    have CB : ∀ w, Calls Tryd.prog 11 #[.int .i64 i, .int .i64 1048576] w fun e w' => e = .returned (.bool true) ∧ w' = w := fun w => by have := below_any i 1048576 w; rwa [show belowI i 1048576 = true by simp [belowI]; omega] at this
    go_enter Tryd.func5, Tryd.ntmps5
    go_wp2_with (go_at_call 11; refine (CB _).mono ?_; rintro e w' ⟨rfl, rfl⟩)
    exact bodyPost_ret (v := .tuple #[.agg #[.int .i64 7, .int .i64 i, .int .i64 1, .int .i64 1], .int .i64 0]) (by simp [results, Tryd.results5, go_sem]) rfl ⟨rfl, by go_grown⟩
set_option maxHeartbeats 1000000 in
theorem head5_any (m : Mk) (vf : Value) (w : World) (hf : Lst w 1 isInt m.fr vf) : Calls Tryd.prog 5 #[.agg #[.int .i64 m.k, .int .i64 m.i, .int .i64 m.n, vf]] w fun e w' => e = .returned (hdV (headT m)) ∧ Below w.heap.size w w' := by
  have hl := hf.len
  unfold maxLen at hl
  obtain ⟨gf, cf, rfl, _⟩ := hf
  obtain ⟨k, i, n, fr⟩ := m
  have hl : fr.length ≤ 9223372036854775807 := by simpa using hl
  by_cases h1 : k = 1
  · subst h1; exact head5_1 i n fr gf cf w hl
  by_cases h2 : k = 2
  · subst h2; exact head5_2 i n fr gf cf w hl
  by_cases h3 : k = 3
  · subst h3; exact head5_3 i n fr gf cf w hl
  by_cases h6 : k = 6
  · subst h6; exact head5_6 i n fr gf cf w hl
  by_cases h7 : k = 7
  · subst h7; exact head5_7 i n fr gf cf w hl
  have R : Hid (headT ⟨k, i, n, fr⟩ = (0, 0, 0, 0, 6)) := ⟨by unfold headT headL; simp [*]⟩
  rw [R.out]
  unfold hdV
  dsimp only
  have CC : ∀ w, Calls Tryd.prog 12 #[.int .i64 k] w fun e w' => e = .returned (.bool false) ∧ w' = w := fun w => by have := closure_any k w; rwa [show cloB k = false by simp [cloB, *]] at this
  clear R
  go_enter Tryd.func5, Tryd.ntmps5
  go_wp2_with (go_at_call 12; refine (CC _).mono ?_; rintro e w' ⟨rfl, rfl⟩)
  exact bodyPost_ret (v := .tuple #[.agg #[.int .i64 0, .int .i64 0, .int .i64 0, .int .i64 0], .int .i64 6]) (by simp [results, Tryd.results5, go_sem]) rfl ⟨rfl, by go_grown⟩
end Go.Proofs.YtidplckoolmaiaaDoor
