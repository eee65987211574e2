/- The header of the closure that a Make lays: the program's answer and the document's. -/
import Derived.Test.YtidplckoolmaiaaDoorCdp
namespace Go.Proofs.YtidplckoolmaiaaDoor
open Go.RowKit
set_option linter.unusedVariables false
set_option linter.unusedSimpArgs false

set_option maxHeartbeats 1000000 in
theorem head6_1 (i n : Int) (fr : List Int) (gf : Option Addr) (cf : Nat) (w : World) (hl : fr.length ≤ 9223372036854775807) : Calls Tryd.prog 6 #[.agg #[.int .i64 1, .int .i64 i, .int .i64 n, .slice gf fr.length cf]] w fun e w' => e = .returned (hdV (headT ⟨1, i, n, fr⟩)) ∧ Below w.heap.size w w' := by
  obtain ⟨L, hL⟩ : ∃ L, fr.length = L := ⟨_, rfl⟩
  have HT : headT ⟨1, i, n, fr⟩ = headL 1 i L := by unfold headT; rw [hL]
  rw [HT, hL]
  rw [hL] at hl
  clear HT hL
  have CC : ∀ w, Calls Tryd.prog 12 #[.int .i64 1] w fun e w' => e = .returned (.bool true) ∧ w' = w := fun w => closure_any 1 w
  by_cases h : 255 < L
  · have h' : (255 : Int) < L := by omega
    have R : Hid (headL 1 i L = ((0, 0, 0, 0, 7) : Int × Int × Int × Int × Int)) := ⟨by unfold headL; (repeat' split) <;> first | rfl | omega⟩
    rw [R.out]
    clear R
    unfold hdV
    dsimp only
    go_enter Tryd.func6, Tryd.ntmps6
    go_wp2_with (go_at_call 12; refine (CC _).mono ?_; rintro e w' ⟨rfl, rfl⟩)
    exact bodyPost_ret (v := .tuple #[.agg #[.int .i64 0, .int .i64 0, .int .i64 0, .int .i64 0], .int .i64 7]) (by simp [results, Tryd.results6, go_sem]) rfl ⟨rfl, by go_grown⟩
  have h' : ¬ (255 : Int) < L := by omega
  by_cases i1 : i < 0
  · have R : Hid (headL 1 i L = ((0, 0, 0, 0, 2) : Int × Int × Int × Int × Int)) := ⟨by unfold headL; (repeat' split) <;> first | rfl | omega⟩
    rw [R.out]
    clear R
    unfold hdV
    dsimp only
    go_enter Tryd.func6, Tryd.ntmps6
    go_wp2_with (go_at_call 12; refine (CC _).mono ?_; rintro e w' ⟨rfl, rfl⟩)
    exact bodyPost_ret (v := .tuple #[.agg #[.int .i64 0, .int .i64 0, .int .i64 0, .int .i64 0], .int .i64 2]) (by simp [results, Tryd.results6, go_sem]) rfl ⟨rfl, by go_grown⟩
  by_cases i2 : 1048575 < i
  · have R : Hid (headL 1 i L = ((0, 0, 0, 0, 2) : Int × Int × Int × Int × Int)) := ⟨by unfold headL; (repeat' split) <;> first | rfl | omega⟩
    rw [R.out]
    clear R
    unfold hdV
    dsimp only
    go_enter Tryd.func6, Tryd.ntmps6
    go_wp2_with (go_at_call 12; refine (CC _).mono ?_; rintro e w' ⟨rfl, rfl⟩)
    exact bodyPost_ret (v := .tuple #[.agg #[.int .i64 0, .int .i64 0, .int .i64 0, .int .i64 0], .int .i64 2]) (by simp [results, Tryd.results6, go_sem]) rfl ⟨rfl, by go_grown⟩
  · have R : Hid (headL 1 i L = ((1, i, L, 0, 0) : Int × Int × Int × Int × Int)) := ⟨by unfold headL; (repeat' split) <;> first | rfl | omega⟩
    rw [R.out]
    clear R
    unfold hdV
    dsimp only
    go_enter Tryd.func6, Tryd.ntmps6
    go_wp2_with (go_at_call 12; refine (CC _).mono ?_; rintro e w' ⟨rfl, rfl⟩)
    exact bodyPost_ret (v := .tuple #[.agg #[.int .i64 1, .int .i64 i, .int .i64 L, .int .i64 0], .int .i64 0]) (by simp [results, Tryd.results6, go_sem]) rfl ⟨rfl, by go_grown⟩
set_option maxHeartbeats 1000000 in
theorem head6_2 (i n : Int) (fr : List Int) (gf : Option Addr) (cf : Nat) (w : World) (hl : fr.length ≤ 9223372036854775807) : Calls Tryd.prog 6 #[.agg #[.int .i64 2, .int .i64 i, .int .i64 n, .slice gf fr.length cf]] w fun e w' => e = .returned (hdV (headT ⟨2, i, n, fr⟩)) ∧ Below w.heap.size w w' := by
  obtain ⟨L, hL⟩ : ∃ L, fr.length = L := ⟨_, rfl⟩
  have HT : headT ⟨2, i, n, fr⟩ = headL 2 i L := by unfold headT; rw [hL]
  rw [HT, hL]
  rw [hL] at hl
  clear HT hL
  have CC : ∀ w, Calls Tryd.prog 12 #[.int .i64 2] w fun e w' => e = .returned (.bool true) ∧ w' = w := fun w => closure_any 2 w
  by_cases h : 0 < L
  · have h' : (0 : Int) < L := by omega
    have R : Hid (headL 2 i L = ((0, 0, 0, 0, 7) : Int × Int × Int × Int × Int)) := ⟨by unfold headL; (repeat' split) <;> first | rfl | omega⟩
    rw [R.out]
    clear R
    unfold hdV
    dsimp only
    go_enter Tryd.func6, Tryd.ntmps6
    go_wp2_with (go_at_call 12; refine (CC _).mono ?_; rintro e w' ⟨rfl, rfl⟩)
    exact bodyPost_ret (v := .tuple #[.agg #[.int .i64 0, .int .i64 0, .int .i64 0, .int .i64 0], .int .i64 7]) (by simp [results, Tryd.results6, go_sem]) rfl ⟨rfl, by go_grown⟩
  · obtain rfl : L = 0 := by omega
    have R : Hid (headL 2 i 0 = ((2, 0, 0, 1, 0) : Int × Int × Int × Int × Int)) := ⟨by unfold headL; (repeat' split) <;> first | rfl | omega⟩
    rw [R.out]
    clear R
    unfold hdV
    dsimp only
    go_enter Tryd.func6, Tryd.ntmps6
    go_wp2_with (go_at_call 12; refine (CC _).mono ?_; rintro e w' ⟨rfl, rfl⟩)
    exact bodyPost_ret (v := .tuple #[.agg #[.int .i64 2, .int .i64 0, .int .i64 0, .int .i64 1], .int .i64 0]) (by simp [results, Tryd.results6, go_sem]) rfl ⟨rfl, by go_grown⟩
set_option maxHeartbeats 1000000 in
theorem head6_3 (i n : Int) (fr : List Int) (gf : Option Addr) (cf : Nat) (w : World) (hl : fr.length ≤ 9223372036854775807) : Calls Tryd.prog 6 #[.agg #[.int .i64 3, .int .i64 i, .int .i64 n, .slice gf fr.length cf]] w fun e w' => e = .returned (hdV (headT ⟨3, i, n, fr⟩)) ∧ Below w.heap.size w w' := by
  obtain ⟨L, hL⟩ : ∃ L, fr.length = L := ⟨_, rfl⟩
  have HT : headT ⟨3, i, n, fr⟩ = headL 3 i L := by unfold headT; rw [hL]
  rw [HT, hL]
  rw [hL] at hl
  clear HT hL
  have CC : ∀ w, Calls Tryd.prog 12 #[.int .i64 3] w fun e w' => e = .returned (.bool true) ∧ w' = w := fun w => closure_any 3 w
  by_cases h : 255 < L
  · have h' : (255 : Int) < L := by omega
    have R : Hid (headL 3 i L = ((0, 0, 0, 0, 7) : Int × Int × Int × Int × Int)) := ⟨by unfold headL; (repeat' split) <;> first | rfl | omega⟩
    rw [R.out]
    clear R
    unfold hdV
    dsimp only
    go_enter Tryd.func6, Tryd.ntmps6
    go_wp2_with (go_at_call 12; refine (CC _).mono ?_; rintro e w' ⟨rfl, rfl⟩)
    exact bodyPost_ret (v := .tuple #[.agg #[.int .i64 0, .int .i64 0, .int .i64 0, .int .i64 0], .int .i64 7]) (by simp [results, Tryd.results6, go_sem]) rfl ⟨rfl, by go_grown⟩
  have h' : ¬ (255 : Int) < L := by omega
  by_cases i1 : i < 0
  · have R : Hid (headL 3 i L = ((0, 0, 0, 0, 2) : Int × Int × Int × Int × Int)) := ⟨by unfold headL; (repeat' split) <;> first | rfl | omega⟩
    rw [R.out]
    clear R
    unfold hdV
    dsimp only
    go_enter Tryd.func6, Tryd.ntmps6
    go_wp2_with (go_at_call 12; refine (CC _).mono ?_; rintro e w' ⟨rfl, rfl⟩)
    exact bodyPost_ret (v := .tuple #[.agg #[.int .i64 0, .int .i64 0, .int .i64 0, .int .i64 0], .int .i64 2]) (by simp [results, Tryd.results6, go_sem]) rfl ⟨rfl, by go_grown⟩
  by_cases i2 : 1048575 < i
  · have R : Hid (headL 3 i L = ((0, 0, 0, 0, 2) : Int × Int × Int × Int × Int)) := ⟨by unfold headL; (repeat' split) <;> first | rfl | omega⟩
    rw [R.out]
    clear R
    unfold hdV
    dsimp only
    go_enter Tryd.func6, Tryd.ntmps6
    go_wp2_with (go_at_call 12; refine (CC _).mono ?_; rintro e w' ⟨rfl, rfl⟩)
    exact bodyPost_ret (v := .tuple #[.agg #[.int .i64 0, .int .i64 0, .int .i64 0, .int .i64 0], .int .i64 2]) (by simp [results, Tryd.results6, go_sem]) rfl ⟨rfl, by go_grown⟩
  · have R : Hid (headL 3 i L = ((3, i, L, 0, 0) : Int × Int × Int × Int × Int)) := ⟨by unfold headL; (repeat' split) <;> first | rfl | omega⟩
    rw [R.out]
    clear R
    unfold hdV
    dsimp only
    go_enter Tryd.func6, Tryd.ntmps6
    go_wp2_with (go_at_call 12; refine (CC _).mono ?_; rintro e w' ⟨rfl, rfl⟩)
    exact bodyPost_ret (v := .tuple #[.agg #[.int .i64 3, .int .i64 i, .int .i64 L, .int .i64 0], .int .i64 0]) (by simp [results, Tryd.results6, go_sem]) rfl ⟨rfl, by go_grown⟩
set_option maxHeartbeats 1000000 in
theorem head6_6 (i n : Int) (fr : List Int) (gf : Option Addr) (cf : Nat) (w : World) (hl : fr.length ≤ 9223372036854775807) : Calls Tryd.prog 6 #[.agg #[.int .i64 6, .int .i64 i, .int .i64 n, .slice gf fr.length cf]] w fun e w' => e = .returned (hdV (headT ⟨6, i, n, fr⟩)) ∧ Below w.heap.size w w' := by
  obtain ⟨L, hL⟩ : ∃ L, fr.length = L := ⟨_, rfl⟩
  have HT : headT ⟨6, i, n, fr⟩ = headL 6 i L := by unfold headT; rw [hL]
  rw [HT, hL]
  rw [hL] at hl
  clear HT hL
  have CC : ∀ w, Calls Tryd.prog 12 #[.int .i64 6] w fun e w' => e = .returned (.bool true) ∧ w' = w := fun w => closure_any 6 w
  by_cases h0 : L = 0
  · subst h0
    by_cases i1 : i < 0
    · have R : Hid (headL 6 i 0 = ((0, 0, 0, 0, 2) : Int × Int × Int × Int × Int)) := ⟨by unfold headL; (repeat' split) <;> first | rfl | omega⟩
      rw [R.out]
      clear R
      unfold hdV
      dsimp only
      go_enter Tryd.func6, Tryd.ntmps6
      go_wp2_with (go_at_call 12; refine (CC _).mono ?_; rintro e w' ⟨rfl, rfl⟩)
      exact bodyPost_ret (v := .tuple #[.agg #[.int .i64 0, .int .i64 0, .int .i64 0, .int .i64 0], .int .i64 2]) (by simp [results, Tryd.results6, go_sem]) rfl ⟨rfl, by go_grown⟩
    by_cases i2 : 1048575 < i
    · have R : Hid (headL 6 i 0 = ((0, 0, 0, 0, 2) : Int × Int × Int × Int × Int)) := ⟨by unfold headL; (repeat' split) <;> first | rfl | omega⟩
      rw [R.out]
      clear R
      unfold hdV
      dsimp only
      go_enter Tryd.func6, Tryd.ntmps6
      go_wp2_with (go_at_call 12; refine (CC _).mono ?_; rintro e w' ⟨rfl, rfl⟩)
      exact bodyPost_ret (v := .tuple #[.agg #[.int .i64 0, .int .i64 0, .int .i64 0, .int .i64 0], .int .i64 2]) (by simp [results, Tryd.results6, go_sem]) rfl ⟨rfl, by go_grown⟩
    · have R : Hid (headL 6 i 0 = ((6, i, 0, 1, 0) : Int × Int × Int × Int × Int)) := ⟨by unfold headL; (repeat' split) <;> first | rfl | omega⟩
      rw [R.out]
      clear R
      unfold hdV
      dsimp only
      go_enter Tryd.func6, Tryd.ntmps6
      go_wp2_with (go_at_call 12; refine (CC _).mono ?_; rintro e w' ⟨rfl, rfl⟩)
      exact bodyPost_ret (v := .tuple #[.agg #[.int .i64 6, .int .i64 i, .int .i64 0, .int .i64 1], .int .i64 0]) (by simp [results, Tryd.results6, go_sem]) rfl ⟨rfl, by go_grown⟩
  have h1 : ((L : Int) == 0) = false := by simp; omega
  by_cases h : 255 < L
  · have h' : (255 : Int) < L := by omega
    have R : Hid (headL 6 i L = ((0, 0, 0, 0, 7) : Int × Int × Int × Int × Int)) := ⟨by unfold headL; (repeat' split) <;> first | rfl | omega⟩
    rw [R.out]
    clear R
    unfold hdV
    dsimp only
    go_enter Tryd.func6, Tryd.ntmps6
    go_wp2_with (go_at_call 12; refine (CC _).mono ?_; rintro e w' ⟨rfl, rfl⟩)
    exact bodyPost_ret (v := .tuple #[.agg #[.int .i64 0, .int .i64 0, .int .i64 0, .int .i64 0], .int .i64 7]) (by simp [results, Tryd.results6, go_sem]) rfl ⟨rfl, by go_grown⟩
  have h' : ¬ (255 : Int) < L := by omega
  by_cases i1 : i < 0
  · have R : Hid (headL 6 i L = ((0, 0, 0, 0, 2) : Int × Int × Int × Int × Int)) := ⟨by unfold headL; (repeat' split) <;> first | rfl | omega⟩
    rw [R.out]
    clear R
    unfold hdV
    dsimp only
    go_enter Tryd.func6, Tryd.ntmps6
    go_wp2_with (go_at_call 12; refine (CC _).mono ?_; rintro e w' ⟨rfl, rfl⟩)
    exact bodyPost_ret (v := .tuple #[.agg #[.int .i64 0, .int .i64 0, .int .i64 0, .int .i64 0], .int .i64 2]) (by simp [results, Tryd.results6, go_sem]) rfl ⟨rfl, by go_grown⟩
  by_cases i2 : 1048575 < i
  · have R : Hid (headL 6 i L = ((0, 0, 0, 0, 2) : Int × Int × Int × Int × Int)) := ⟨by unfold headL; (repeat' split) <;> first | rfl | omega⟩
    rw [R.out]
    clear R
    unfold hdV
    dsimp only
    go_enter Tryd.func6, Tryd.ntmps6
    go_wp2_with (go_at_call 12; refine (CC _).mono ?_; rintro e w' ⟨rfl, rfl⟩)
    exact bodyPost_ret (v := .tuple #[.agg #[.int .i64 0, .int .i64 0, .int .i64 0, .int .i64 0], .int .i64 2]) (by simp [results, Tryd.results6, go_sem]) rfl ⟨rfl, by go_grown⟩
  · have R : Hid (headL 6 i L = ((6, i, L, 0, 0) : Int × Int × Int × Int × Int)) := ⟨by unfold headL; (repeat' split) <;> first | rfl | omega⟩
    rw [R.out]
    clear R
    unfold hdV
    dsimp only
    go_enter Tryd.func6, Tryd.ntmps6
    go_wp2_with (go_at_call 12; refine (CC _).mono ?_; rintro e w' ⟨rfl, rfl⟩)
    exact bodyPost_ret (v := .tuple #[.agg #[.int .i64 6, .int .i64 i, .int .i64 L, .int .i64 0], .int .i64 0]) (by simp [results, Tryd.results6, go_sem]) rfl ⟨rfl, by go_grown⟩
set_option maxHeartbeats 1000000 in
theorem head6_7 (i n : Int) (fr : List Int) (gf : Option Addr) (cf : Nat) (w : World) (hl : fr.length ≤ 9223372036854775807) : Calls Tryd.prog 6 #[.agg #[.int .i64 7, .int .i64 i, .int .i64 n, .slice gf fr.length cf]] w fun e w' => e = .returned (hdV (headT ⟨7, i, n, fr⟩)) ∧ Below w.heap.size w w' := by
  obtain ⟨L, hL⟩ : ∃ L, fr.length = L := ⟨_, rfl⟩
  have HT : headT ⟨7, i, n, fr⟩ = headL 7 i L := by unfold headT; rw [hL]
  rw [HT, hL]
  rw [hL] at hl
  clear HT hL
  have CC : ∀ w, Calls Tryd.prog 12 #[.int .i64 7] w fun e w' => e = .returned (.bool true) ∧ w' = w := fun w => closure_any 7 w
  by_cases h0 : L = 0
  · subst h0
    have R : Hid (headL 7 i 0 = ((0, 0, 0, 0, 7) : Int × Int × Int × Int × Int)) := ⟨by unfold headL; (repeat' split) <;> first | rfl | omega⟩
    rw [R.out]
    clear R
    unfold hdV
    dsimp only
    go_enter Tryd.func6, Tryd.ntmps6
    go_wp2_with (go_at_call 12; refine (CC _).mono ?_; rintro e w' ⟨rfl, rfl⟩)
    exact bodyPost_ret (v := .tuple #[.agg #[.int .i64 0, .int .i64 0, .int .i64 0, .int .i64 0], .int .i64 7]) (by simp [results, Tryd.results6, go_sem]) rfl ⟨rfl, by go_grown⟩
  by_cases h : 1 < L
  · have h' : (1 : Int) < L := by omega
    have h2 : ((L : Int) != 1) = true := by simp; omega
    by_cases h3 : 255 < L
    · have h3' : (255 : Int) < L := by omega
      have R : Hid (headL 7 i L = ((0, 0, 0, 0, 7) : Int × Int × Int × Int × Int)) := ⟨by unfold headL; (repeat' split) <;> first | rfl | omega⟩
      rw [R.out]
      clear R
      unfold hdV
      dsimp only
      go_enter Tryd.func6, Tryd.ntmps6
      go_wp2_with (go_at_call 12; refine (CC _).mono ?_; rintro e w' ⟨rfl, rfl⟩)
      exact bodyPost_ret (v := .tuple #[.agg #[.int .i64 0, .int .i64 0, .int .i64 0, .int .i64 0], .int .i64 7]) (by simp [results, Tryd.results6, go_sem]) rfl ⟨rfl, by go_grown⟩
    have h3' : ¬ (255 : Int) < L := by omega
    have R : Hid (headL 7 i L = ((0, 0, 0, 0, 7) : Int × Int × Int × Int × Int)) := ⟨by unfold headL; (repeat' split) <;> first | rfl | omega⟩
    rw [R.out]
    clear R
    unfold hdV
    dsimp only
    go_enter Tryd.func6, Tryd.ntmps6
    go_wp2_with (go_at_call 12; refine (CC _).mono ?_; rintro e w' ⟨rfl, rfl⟩)
    exact bodyPost_ret (v := .tuple #[.agg #[.int .i64 0, .int .i64 0, .int .i64 0, .int .i64 0], .int .i64 7]) (by simp [results, Tryd.results6, go_sem]) rfl ⟨rfl, by go_grown⟩
  obtain rfl : L = 1 := by omega
  by_cases i1 : i < 0
  · have R : Hid (headL 7 i 1 = ((0, 0, 0, 0, 2) : Int × Int × Int × Int × Int)) := ⟨by unfold headL; (repeat' split) <;> first | rfl | omega⟩
    rw [R.out]
    clear R
    unfold hdV
    dsimp only
    go_enter Tryd.func6, Tryd.ntmps6
    go_wp2_with (go_at_call 12; refine (CC _).mono ?_; rintro e w' ⟨rfl, rfl⟩)
    exact bodyPost_ret (v := .tuple #[.agg #[.int .i64 0, .int .i64 0, .int .i64 0, .int .i64 0], .int .i64 2]) (by simp [results, Tryd.results6, go_sem]) rfl ⟨rfl, by go_grown⟩
  by_cases i2 : 1048575 < i
  · have R : Hid (headL 7 i 1 = ((0, 0, 0, 0, 2) : Int × Int × Int × Int × Int)) := ⟨by unfold headL; (repeat' split) <;> first | rfl | omega⟩
    rw [R.out]
    clear R
    unfold hdV
    dsimp only
    go_enter Tryd.func6, Tryd.ntmps6
    go_wp2_with (go_at_call 12; refine (CC _).mono ?_; rintro e w' ⟨rfl, rfl⟩)
    exact bodyPost_ret (v := .tuple #[.agg #[.int .i64 0, .int .i64 0, .int .i64 0, .int .i64 0], .int .i64 2]) (by simp [results, Tryd.results6, go_sem]) rfl ⟨rfl, by go_grown⟩
  · have R : Hid (headL 7 i 1 = ((7, i, 1, 1, 0) : Int × Int × Int × Int × Int)) := ⟨by unfold headL; (repeat' split) <;> first | rfl | omega⟩
    rw [R.out]
    clear R
    unfold hdV
    dsimp only
    go_enter Tryd.func6, Tryd.ntmps6
    go_wp2_with (go_at_call 12; refine (CC _).mono ?_; rintro e w' ⟨rfl, rfl⟩)
    exact bodyPost_ret (v := .tuple #[.agg #[.int .i64 7, .int .i64 i, .int .i64 1, .int .i64 1], .int .i64 0]) (by simp [results, Tryd.results6, go_sem]) rfl ⟨rfl, by go_grown⟩
set_option maxHeartbeats 1000000 in
theorem head6_any (m : Mk) (vf : Value) (w : World) (hf : Lst w 1 isInt m.fr vf) : Calls Tryd.prog 6 #[.agg #[.int .i64 m.k, .int .i64 m.i, .int .i64 m.n, vf]] w fun e w' => e = .returned (hdV (headT m)) ∧ Below w.heap.size w w' := by
  have hl := hf.len
  unfold maxLen at hl
  obtain ⟨gf, cf, rfl, _⟩ := hf
  obtain ⟨k, i, n, fr⟩ := m
  have hl : fr.length ≤ 9223372036854775807 := by simpa using hl
  by_cases h1 : k = 1
  · subst h1; exact head6_1 i n fr gf cf w hl
  by_cases h2 : k = 2
  · subst h2; exact head6_2 i n fr gf cf w hl
  by_cases h3 : k = 3
  · subst h3; exact head6_3 i n fr gf cf w hl
  by_cases h6 : k = 6
  · subst h6; exact head6_6 i n fr gf cf w hl
  by_cases h7 : k = 7
  · subst h7; exact head6_7 i n fr gf cf w hl
  have R : Hid (headT ⟨k, i, n, fr⟩ = (0, 0, 0, 0, 6)) := ⟨by unfold headT headL; simp [*]⟩
  rw [R.out]
  unfold hdV
  dsimp only
  have CC : ∀ w, Calls Tryd.prog 12 #[.int .i64 k] w fun e w' => e = .returned (.bool false) ∧ w' = w := fun w => by have := closure_any k w; rwa [show cloB k = false by simp [cloB, *]] at this
  clear R
  go_enter Tryd.func6, Tryd.ntmps6
  go_wp2_with (go_at_call 12; refine (CC _).mono ?_; rintro e w' ⟨rfl, rfl⟩)
  exact bodyPost_ret (v := .tuple #[.agg #[.int .i64 0, .int .i64 0, .int .i64 0, .int .i64 0], .int .i64 6]) (by simp [results, Tryd.results6, go_sem]) rfl ⟨rfl, by go_grown⟩
end Go.Proofs.YtidplckoolmaiaaDoor
