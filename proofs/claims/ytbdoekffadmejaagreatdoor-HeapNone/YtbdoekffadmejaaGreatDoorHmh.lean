/- Package heap: calls that are refused: of a nil heap, a dead one, one in work or not in work. -/
import Derived.Test.YtbdoekffadmejaaGreatDoorHmg
namespace Go.Proofs.YtbdoekffadmejaaGreatDoor
open Go.RowKit
set_option linter.unusedVariables false
set_option linter.unusedSimpArgs false
set_option maxRecDepth 100000

theorem lay_err {w : World} {hv : Value} {g r k : Int} (S : SgL w hv g r k) (hg : r ≠ 0) (x i p n : Int) (vp vn : Value) :
    Calls Tryz.prog 20 #[hv, hd x i p n, vp, vn] w fun e w' => e = .returned (.tuple #[.int .i64 0, .int .i64 r]) ∧ Below w.heap.size w w' := by
  have G := (S _ ((Below.refl _ w).alloc (Nat.le_refl _) (.cells #[.int .i64 x, .int .i64 i, .int .i64 p, .int .i64 n] 30))).rest
  have b0 : (r != 0) = true := by simpa using hg
  clear S hg
  go_enter Tryz.func20, Tryz.ntmps20
  go_wp2_with (go_at_call 58; refine G.mono ?_; rintro e w1 ⟨rfl, hw⟩; rw [hw]; clear hw)
  go_ret2
  exact ⟨rfl, by go_grown⟩
theorem where_err {w : World} {hv : Value} {g r k : Int} (S : SgL w hv g r k) (hg : g ≠ 0) (x : Int) :
    Calls Tryz.prog 21 #[hv, .int .i64 x] w fun e w' => e = .returned (.tuple #[.int .i64 0, .int .i64 0, .int .i64 g]) ∧ Below w.heap.size w w' := by
  have G := S.now.gone
  have b0 : (g != 0) = true := by simpa using hg
  have b1 : (g == 0) = false := by simpa using hg
  clear S hg
  go_enter Tryz.func21, Tryz.ntmps21
  go_wp2_with (go_at_call 48; refine G.mono ?_; rintro e w1 ⟨rfl, hw⟩; rw [hw]; clear hw)
  go_ret3
  exact ⟨rfl, by go_grown⟩
theorem evac_err {w : World} {hv : Value} {g r k : Int} (S : SgL w hv g r k) (hg : k ≠ 0) (x l : Int) :
    Calls Tryz.prog 22 #[hv, .int .i64 x, .int .i64 l] w fun e w' => e = .returned (.tuple #[.int .i64 0, .int .i64 k]) ∧ Below w.heap.size w w' := by
  have G := S.now.work
  have b0 : (k != 0) = true := by simpa using hg
  have b1 : (k == 0) = false := by simpa using hg
  clear S hg
  go_enter Tryz.func22, Tryz.ntmps22
  go_wp2_with (go_at_call 65; refine G.mono ?_; rintro e w1 ⟨rfl, hw⟩; rw [hw]; clear hw)
  go_ret2
  exact ⟨rfl, by go_grown⟩
theorem fresh_err {w : World} {hv : Value} {g r k : Int} (S : SgL w hv g r k) (hg : k ≠ 0)  :
    Calls Tryz.prog 23 #[hv] w fun e w' => e = .returned (.tuple #[.int .i64 0, .bool false]) ∧ Below w.heap.size w w' := by
  have GD := (S _ (below_drew1 w)).work
  have b0 : (k != 0) = true := by simpa using hg
  have b1 : (k == 0) = false := by simpa using hg
  clear S hg
  go_enter Tryz.func23, Tryz.ntmps23
  go_wp2
  refine wp_region_held_drew (S := (fun _ => True)) (by kernel_rfl) ?_ (fun hHeld => ?_)
  · first | trivial | (try dsimp only; go_keep) | go_keep
  refine wpAnyH_take (i := 0) (v := ?_) rfl (by kernel_rfl) (by kernel_rfl) (by kernel_rfl) (fun _ _ _ h => h) (Or.inl ⟨by rfl, ?_⟩) (by assumption) ?_
  rotate_left
  · intro w' hSw
    try dsimp only at hSw
    go_simp
    try with_reducible rfl
  try simp only [Act.put, List.getElem_toArray, List.getElem_cons_zero, List.getElem_cons_succ, List.setIfInBounds_toArray, List.set_cons_zero, List.set_cons_succ]
  refine wpAnyH_ready (rs := [1]) (by kernel_rfl) (by simp) ?_
  refine AllReadyH.cons rfl (fun K hK => ?_) ?_
  · go_simp
    go_at_call 65; refine GD.mono ?_; rintro e w1 ⟨rfl, hw⟩; rw [hw]; clear hw
    try go_wp2_with fail
    refine hK.out _ _ ?_ (fun hHeld => ?_)
    · first | trivial | (try dsimp only; go_keep) | go_keep
    clear hK K
    try simp only [Act.put, List.getElem_toArray, List.getElem_cons_zero, List.getElem_cons_succ, List.setIfInBounds_toArray, List.set_cons_zero, List.set_cons_succ]
    refine wpAnyH_take (i := 2) (v := ?_) rfl (by kernel_rfl) (by kernel_rfl) (by kernel_rfl) (fun _ _ _ h => h) (Or.inl ⟨by rfl, ?_⟩) (by assumption) ?_
    rotate_left
    · intro w' hSw
      try dsimp only at hSw
      go_simp
      try with_reducible rfl
    try simp only [Act.put, List.getElem_toArray, List.getElem_cons_zero, List.getElem_cons_succ, List.setIfInBounds_toArray, List.set_cons_zero, List.set_cons_succ]
    refine wpAnyH_take (i := 3) (v := ?_) rfl (by kernel_rfl) (by kernel_rfl) (by kernel_rfl) (fun _ _ _ h => h) (Or.inl ⟨by rfl, ?_⟩) (by assumption) ?_
    rotate_left
    · intro w' hSw
      try dsimp only at hSw
      go_simp
      try with_reducible rfl
    try simp only [Act.put, List.getElem_toArray, List.getElem_cons_zero, List.getElem_cons_succ, List.setIfInBounds_toArray, List.set_cons_zero, List.set_cons_succ]
    refine wpAnyH_take (i := 4) (v := undef) rfl (by kernel_rfl) (by kernel_rfl) (by kernel_rfl) (fun _ _ _ h => h) (Or.inr ⟨by rfl, rfl⟩) (by assumption) ?_
    try simp only [Act.put, List.getElem_toArray, List.getElem_cons_zero, List.getElem_cons_succ, List.setIfInBounds_toArray, List.set_cons_zero, List.set_cons_succ]
    refine wpAnyH_take (i := 5) (v := undef) rfl (by kernel_rfl) (by kernel_rfl) (by kernel_rfl) (fun _ _ _ h => h) (Or.inr ⟨by rfl, rfl⟩) (by assumption) ?_
    try simp only [Act.put, List.getElem_toArray, List.getElem_cons_zero, List.getElem_cons_succ, List.setIfInBounds_toArray, List.set_cons_zero, List.set_cons_succ]
    refine wpAnyH_take (i := 6) (v := undef) rfl (by kernel_rfl) (by kernel_rfl) (by kernel_rfl) (fun _ _ _ h => h) (Or.inr ⟨by rfl, rfl⟩) (by assumption) ?_
    try simp only [Act.put, List.getElem_toArray, List.getElem_cons_zero, List.getElem_cons_succ, List.setIfInBounds_toArray, List.set_cons_zero, List.set_cons_succ]
    refine wpAnyH_take (i := 7) (v := undef) rfl (by kernel_rfl) (by kernel_rfl) (by kernel_rfl) (fun _ _ _ h => h) (Or.inr ⟨by rfl, rfl⟩) (by assumption) ?_
    try simp only [Act.put, List.getElem_toArray, List.getElem_cons_zero, List.getElem_cons_succ, List.setIfInBounds_toArray, List.set_cons_zero, List.set_cons_succ]
    refine wpAnyH_take (i := 8) (v := undef) rfl (by kernel_rfl) (by kernel_rfl) (by kernel_rfl) (fun _ _ _ h => h) (Or.inr ⟨by rfl, rfl⟩) (by assumption) ?_
    try simp only [Act.put, List.getElem_toArray, List.getElem_cons_zero, List.getElem_cons_succ, List.setIfInBounds_toArray, List.set_cons_zero, List.set_cons_succ]
    refine wpAnyH_take (i := 9) (v := undef) rfl (by kernel_rfl) (by kernel_rfl) (by kernel_rfl) (fun _ _ _ h => h) (Or.inr ⟨by rfl, rfl⟩) (by assumption) ?_
    try simp only [Act.put, List.getElem_toArray, List.getElem_cons_zero, List.getElem_cons_succ, List.setIfInBounds_toArray, List.set_cons_zero, List.set_cons_succ]
    refine wpAnyH_take (i := 10) (v := undef) rfl (by kernel_rfl) (by kernel_rfl) (by kernel_rfl) (fun _ _ _ h => h) (Or.inr ⟨by rfl, rfl⟩) (by assumption) ?_
    try simp only [Act.put, List.getElem_toArray, List.getElem_cons_zero, List.getElem_cons_succ, List.setIfInBounds_toArray, List.set_cons_zero, List.set_cons_succ]
    refine wpAnyH_take (i := 11) (v := undef) rfl (by kernel_rfl) (by kernel_rfl) (by kernel_rfl) (fun _ _ _ h => h) (Or.inr ⟨by rfl, rfl⟩) (by assumption) ?_
    try simp only [Act.put, List.getElem_toArray, List.getElem_cons_zero, List.getElem_cons_succ, List.setIfInBounds_toArray, List.set_cons_zero, List.set_cons_succ]
    refine wpAnyH_take (i := 12) (v := undef) rfl (by kernel_rfl) (by kernel_rfl) (by kernel_rfl) (fun _ _ _ h => h) (Or.inr ⟨by rfl, rfl⟩) (by assumption) ?_
    try simp only [Act.put, List.getElem_toArray, List.getElem_cons_zero, List.getElem_cons_succ, List.setIfInBounds_toArray, List.set_cons_zero, List.set_cons_succ]
    refine wpAnyH_take (i := 13) (v := undef) rfl (by kernel_rfl) (by kernel_rfl) (by kernel_rfl) (fun _ _ _ h => h) (Or.inr ⟨by rfl, rfl⟩) (by assumption) ?_
    try simp only [Act.put, List.getElem_toArray, List.getElem_cons_zero, List.getElem_cons_succ, List.setIfInBounds_toArray, List.set_cons_zero, List.set_cons_succ]
    refine wpAnyH_take (i := 14) (v := undef) rfl (by kernel_rfl) (by kernel_rfl) (by kernel_rfl) (fun _ _ _ h => h) (Or.inr ⟨by rfl, rfl⟩) (by assumption) ?_
    try simp only [Act.put, List.getElem_toArray, List.getElem_cons_zero, List.getElem_cons_succ, List.setIfInBounds_toArray, List.set_cons_zero, List.set_cons_succ]
    refine wpAnyH_take (i := 15) (v := undef) rfl (by kernel_rfl) (by kernel_rfl) (by kernel_rfl) (fun _ _ _ h => h) (Or.inr ⟨by rfl, rfl⟩) (by assumption) ?_
    try simp only [Act.put, List.getElem_toArray, List.getElem_cons_zero, List.getElem_cons_succ, List.setIfInBounds_toArray, List.set_cons_zero, List.set_cons_succ]
    refine wpAnyH_take (i := 16) (v := undef) rfl (by kernel_rfl) (by kernel_rfl) (by kernel_rfl) (fun _ _ _ h => h) (Or.inr ⟨by rfl, rfl⟩) (by assumption) ?_
    try simp only [Act.put, List.getElem_toArray, List.getElem_cons_zero, List.getElem_cons_succ, List.setIfInBounds_toArray, List.set_cons_zero, List.set_cons_succ]
    refine wpAnyH_take (i := 17) (v := undef) rfl (by kernel_rfl) (by kernel_rfl) (by kernel_rfl) (fun _ _ _ h => h) (Or.inr ⟨by rfl, rfl⟩) (by assumption) ?_
    try simp only [Act.put, List.getElem_toArray, List.getElem_cons_zero, List.getElem_cons_succ, List.setIfInBounds_toArray, List.set_cons_zero, List.set_cons_succ]
    refine wpAnyH_take (i := 18) (v := undef) rfl (by kernel_rfl) (by kernel_rfl) (by kernel_rfl) (fun _ _ _ h => h) (Or.inr ⟨by rfl, rfl⟩) (by assumption) ?_
    try simp only [Act.put, List.getElem_toArray, List.getElem_cons_zero, List.getElem_cons_succ, List.setIfInBounds_toArray, List.set_cons_zero, List.set_cons_succ]
    refine wpAnyH_take (i := 19) (v := undef) rfl (by kernel_rfl) (by kernel_rfl) (by kernel_rfl) (fun _ _ _ h => h) (Or.inr ⟨by rfl, rfl⟩) (by assumption) ?_
    try simp only [Act.put, List.getElem_toArray, List.getElem_cons_zero, List.getElem_cons_succ, List.setIfInBounds_toArray, List.set_cons_zero, List.set_cons_succ]
    refine wpAnyH_take (i := 20) (v := ?_) rfl (by kernel_rfl) (by kernel_rfl) (by kernel_rfl) (fun _ _ _ h => h) (Or.inl ⟨by rfl, ?_⟩) (by assumption) ?_
    rotate_left
    · intro w' hSw
      try dsimp only at hSw
      go_simp
      try with_reducible rfl
    try simp only [Act.put, List.getElem_toArray, List.getElem_cons_zero, List.getElem_cons_succ, List.setIfInBounds_toArray, List.set_cons_zero, List.set_cons_succ]
    refine wpAnyH_done (by kernel_rfl) ?_ _
    go_wp2
    go_ret2
    exact ⟨rfl, by go_grown⟩
  exact AllReadyH.nil
theorem set_err {w : World} {hv : Value} {g r k : Int} (S : SgL w hv g r k) (hg : r ≠ 0) (x i p : Int) :
    Calls Tryz.prog 24 #[hv, .int .i64 x, .int .i64 i, .int .i64 p] w fun e w' => e = .returned (.int .i64 r) ∧ Below w.heap.size w w' := by
  have G := S.now.rest
  have b0 : (r != 0) = true := by simpa using hg
  have b1 : (r == 0) = false := by simpa using hg
  clear S hg
  go_enter Tryz.func24, Tryz.ntmps24
  go_wp2_with (go_at_call 58; refine G.mono ?_; rintro e w1 ⟨rfl, hw⟩; rw [hw]; clear hw)
  go_ret
  exact ⟨rfl, by go_grown⟩
theorem pass_err {w : World} {hv : Value} {g r k : Int} (S : SgL w hv g r k) (hg : r ≠ 0) (x p : Int) :
    Calls Tryz.prog 25 #[hv, .int .i64 x, .int .i64 p] w fun e w' => e = .returned (.int .i64 r) ∧ Below w.heap.size w w' := by
  have G := S.now.rest
  have b0 : (r != 0) = true := by simpa using hg
  have b1 : (r == 0) = false := by simpa using hg
  clear S hg
  go_enter Tryz.func25, Tryz.ntmps25
  go_wp2_with (go_at_call 58; refine G.mono ?_; rintro e w1 ⟨rfl, hw⟩; rw [hw]; clear hw)
  go_ret
  exact ⟨rfl, by go_grown⟩
theorem hole_err {w : World} {hv : Value} {g r k : Int} (S : SgL w hv g r k) (hg : r ≠ 0) (x : Int) :
    Calls Tryz.prog 26 #[hv, .int .i64 x] w fun e w' => e = .returned (.int .i64 r) ∧ Below w.heap.size w w' := by
  have G := S.now.rest
  have b0 : (r != 0) = true := by simpa using hg
  have b1 : (r == 0) = false := by simpa using hg
  clear S hg
  go_enter Tryz.func26, Tryz.ntmps26
  go_wp2_with (go_at_call 58; refine G.mono ?_; rintro e w1 ⟨rfl, hw⟩; rw [hw]; clear hw)
  go_ret
  exact ⟨rfl, by go_grown⟩
theorem fail_err {w : World} {hv : Value} {g r k : Int} (S : SgL w hv g r k) (hg : r ≠ 0) (x n : Int) :
    Calls Tryz.prog 27 #[hv, .int .i64 x, .int .i64 n] w fun e w' => e = .returned (.int .i64 r) ∧ Below w.heap.size w w' := by
  have G := S.now.rest
  have b0 : (r != 0) = true := by simpa using hg
  have b1 : (r == 0) = false := by simpa using hg
  clear S hg
  go_enter Tryz.func27, Tryz.ntmps27
  go_wp2_with (go_at_call 58; refine G.mono ?_; rintro e w1 ⟨rfl, hw⟩; rw [hw]; clear hw)
  go_ret
  exact ⟨rfl, by go_grown⟩
theorem begin_err {w : World} {hv : Value} {g r k : Int} (S : SgL w hv g r k) (hg : r ≠ 0) (x : Int) :
    Calls Tryz.prog 28 #[hv, .int .i64 x] w fun e w' => e = .returned (.int .i64 r) ∧ Below w.heap.size w w' := by
  have G := S.now.rest
  have b0 : (r != 0) = true := by simpa using hg
  have b1 : (r == 0) = false := by simpa using hg
  clear S hg
  go_enter Tryz.func28, Tryz.ntmps28
  go_wp2_with (go_at_call 58; refine G.mono ?_; rintro e w1 ⟨rfl, hw⟩; rw [hw]; clear hw)
  go_ret
  exact ⟨rfl, by go_grown⟩
theorem store_err {w : World} {hv : Value} {g r k : Int} (S : SgL w hv g r k) (hg : k ≠ 0) (x i p : Int) :
    Calls Tryz.prog 29 #[hv, .int .i64 x, .int .i64 i, .int .i64 p] w fun e w' => e = .returned (.int .i64 k) ∧ Below w.heap.size w w' := by
  have G := S.now.work
  have b0 : (k != 0) = true := by simpa using hg
  have b1 : (k == 0) = false := by simpa using hg
  clear S hg
  go_enter Tryz.func29, Tryz.ntmps29
  go_wp2_with (go_at_call 65; refine G.mono ?_; rintro e w1 ⟨rfl, hw⟩; rw [hw]; clear hw)
  go_ret
  exact ⟨rfl, by go_grown⟩
theorem finish_err {w : World} {hv : Value} {g r k : Int} (S : SgL w hv g r k) (hg : k ≠ 0)  :
    Calls Tryz.prog 30 #[hv] w fun e w' => e = .returned (.int .i64 k) ∧ Below w.heap.size w w' := by
  have G := S.now.work
  have b0 : (k != 0) = true := by simpa using hg
  have b1 : (k == 0) = false := by simpa using hg
  clear S hg
  go_enter Tryz.func30, Tryz.ntmps30
  go_wp2_with (go_at_call 65; refine G.mono ?_; rintro e w1 ⟨rfl, hw⟩; rw [hw]; clear hw)
  go_ret
  exact ⟨rfl, by go_grown⟩
theorem old_err {w : World} {hv : Value} {g r k : Int} (S : SgL w hv g r k) (hg : g ≠ 0) (x : Int) :
    Calls Tryz.prog 14 #[hv, .int .i64 x] w fun e w' => e = .returned (.slice none 0 0) ∧ Below w.heap.size w w' := by
  have G := S.now.gone
  have b0 : (g != 0) = true := by simpa using hg
  have b1 : (g == 0) = false := by simpa using hg
  clear S hg
  go_enter Tryz.func14, Tryz.ntmps14
  go_wp2_with (go_at_call 48; refine G.mono ?_; rintro e w1 ⟨rfl, hw⟩; rw [hw]; clear hw)
  go_ret
  exact ⟨rfl, by go_grown⟩
theorem left_err {w : World} {hv : Value} {g r k : Int} (S : SgL w hv g r k) (hg : g ≠ 0)  :
    Calls Tryz.prog 33 #[hv] w fun e w' => e = .returned (.int .i64 0) ∧ Below w.heap.size w w' := by
  have G := S.now.gone
  have b0 : (g != 0) = true := by simpa using hg
  have b1 : (g == 0) = false := by simpa using hg
  clear S hg
  go_enter Tryz.func33, Tryz.ntmps33
  go_wp2_with (go_at_call 48; refine G.mono ?_; rintro e w1 ⟨rfl, hw⟩; rw [hw]; clear hw)
  go_ret
  exact ⟨rfl, by go_grown⟩
/-- The spaces of a nil heap. -/
theorem spaces_nil (w : World) (x : Int) : Calls Tryz.prog 84 #[.pointer none, .int .i64 x] w fun e w' => e = .returned (.slice none 0 0) ∧ w' = w := by
  go_enter Tryz.func84, Tryz.ntmps84
  go_wp2
  go_ret
  exact ⟨rfl, rfl⟩
theorem sum_nil (w : World) (x : Int) (f : Value) : Calls Tryz.prog 55 #[.pointer none, .int .i64 x, f] w fun e w' => e = .returned (.int .i64 0) ∧ w' = w := by
  have S := fun W => spaces_nil W x
  go_enter Tryz.func55, Tryz.ntmps55
  go_wp2_with (go_at_call 84; refine (S _).mono ?_; rintro e w1 ⟨rfl, hw⟩; rw [hw]; clear hw)
  go_loopw [7, 14] (fun n' i' wr => n' = .int .i64 0 ∧ i' = .int .i64 0 ∧ wr = w) (fun _ _ _ => 0)
  case atStart => exact ⟨rfl, rfl, rfl⟩
  case round =>
    obtain ⟨rfl, rfl, rfl⟩ := hrel
    go_wp2
    go_ret
    exact ⟨rfl, rfl⟩
theorem used_nilh (w : World) (x : Int) : Calls Tryz.prog 16 #[.pointer none, .int .i64 x] w fun e w' => e = .returned (.int .i64 0) ∧ w' = w := by
  have S := fun W f => sum_nil W x f
  go_enter Tryz.func16, Tryz.ntmps16
  go_wp2_with (go_at_call 55; refine (S _ _).mono ?_; rintro e w1 ⟨rfl, hw⟩; rw [hw]; clear hw)
  go_ret
  exact ⟨rfl, rfl⟩
theorem blocks_nilh (w : World) (x : Int) : Calls Tryz.prog 32 #[.pointer none, .int .i64 x] w fun e w' => e = .returned (.int .i64 0) ∧ w' = w := by
  have S := fun W f => sum_nil W x f
  go_enter Tryz.func32, Tryz.ntmps32
  go_wp2_with (go_at_call 55; refine (S _ _).mono ?_; rintro e w1 ⟨rfl, hw⟩; rw [hw]; clear hw)
  go_ret
  exact ⟨rfl, rfl⟩
theorem closures_nilh (w : World) (x s : Int) : Calls Tryz.prog 31 #[.pointer none, .int .i64 x, .int .i64 s] w fun e w' => e = .returned (.slice none 0 0) ∧ w' = w := by
  have S := fun W => spaces_nil W x
  have O := fun W => one_any W s 0
  rw [show oneB s 0 = false by apply oneB_no.2; omega] at O
  go_enter Tryz.func31, Tryz.ntmps31
  go_wp2_with (first
    | (go_at_call 84; refine (S _).mono ?_; rintro e w1 ⟨rfl, hw⟩; rw [hw]; clear hw)
    | (go_at_call 51; refine (O _).mono ?_; rintro e w1 ⟨rfl, hw⟩; rw [hw]; clear hw))
  go_ret
  exact ⟨rfl, rfl⟩
end Go.Proofs.YtbdoekffadmejaaGreatDoor
