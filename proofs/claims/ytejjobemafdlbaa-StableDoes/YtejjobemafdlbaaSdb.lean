/- The document's table: New, Make, Free, All. -/
import Derived.Test.YtejjobemafdlbaaSda
namespace Go.Proofs.Ytejjobemafdlbaa
open Go.RowKit
set_option linter.unusedVariables false
set_option linter.unusedSimpArgs false

theorem made_zero (n : Nat) : ∀ i, i < n → (madeCells #[.int .i64 0] n)[i]? = some (.int .i64 0) := fun i hi => by simp [madeCells, hi, Nat.mod_one]
theorem rnew_end (w : World) (n p q : Nat) (w2 : World) (hn : 1 ≤ n ∧ n ≤ 256) (hp : w2.heap[p]? = some (.cells (madeCells #[.int .i64 0] n) 3 (0, 0))) (hq : w2.heap[q]? = some (.cells (madeCells #[.int .i64 0] n) 3 (0, 0))) (hne : p ≠ q) (hlo : w.heap.size ≤ p ∧ w.heap.size ≤ q) (B : Below w.heap.size w w2) :
    Rt w.heap.size (w2.alloc (.cells #[.slice (some ⟨p, 0, none⟩) n n, .slice (some ⟨q, 0, none⟩) n n] 41)) w2.heap.size p q n 1 (fun _ => 0) (fun _ => 1) ∧ Below w.heap.size w (w2.alloc (.cells #[.slice (some ⟨p, 0, none⟩) n n, .slice (some ⟨q, 0, none⟩) n n] 41)) :=
  ⟨⟨heap_alloc_new _ _, ⟨_, (Below.heap_alloc _ _ _ (Array.getElem?_eq_some_iff.1 hp).1).trans hp, made_zero n⟩, ⟨_, (Below.heap_alloc _ _ _ (Array.getElem?_eq_some_iff.1 hq).1).trans hq, made_zero n⟩, hne, fun i hi => (by decide), hn, ⟨B.size, hlo.1, hlo.2⟩⟩, B.alloc B.size _⟩
theorem rnew_any (w : World) (n : Nat) (hn : 1 ≤ n ∧ n ≤ 256) :
    Calls Try.prog 9 #[.int .i64 (n : Int)] w fun e w' => ∃ x ab fb, e = .returned (.tuple #[pv x, .int .i64 0]) ∧ Rt w.heap.size w' x ab fb n 1 (fun _ => 0) (fun _ => 1) ∧ Below w.heap.size w w' := by
  have hmk := Go.run_make_row' (P := Try.prog) 31 3 (.int .i64 0) 8 Try.underlying31 info3 rfl .i64 .i64 n (by omega) (by omega)
  have n1 : ¬ (n : Int) < 1 := by omega
  have n2 : ¬ (n : Int) > 256 := by omega
  go_enter Try.func9, Try.ntmps9
  go_wp2
  go_region_held3 (fun _ => True) (trivial) (fail)
  all_goals go_wp2
  all_goals go_ret2
  all_goals (
    have hp : ((w.alloc (.cells (madeCells #[.int .i64 0] n) 3)).alloc (.cells (madeCells #[.int .i64 0] n) 3)).heap[w.heap.size]? = some (.cells (madeCells #[.int .i64 0] n) 3 (0, 0)) := (Below.heap_alloc _ _ _ (by simp)).trans (heap_alloc_new _ _)
    have hq : ((w.alloc (.cells (madeCells #[.int .i64 0] n) 3)).alloc (.cells (madeCells #[.int .i64 0] n) 3)).heap[w.heap.size + 1]? = some (.cells (madeCells #[.int .i64 0] n) 3 (0, 0)) := by
      have := heap_alloc_new (w.alloc (.cells (madeCells #[.int .i64 0] n) 3)) (.cells (madeCells #[.int .i64 0] n) 3)
      rw [World.size_alloc] at this
      exact this
    have B : Below w.heap.size w ((w.alloc (.cells (madeCells #[.int .i64 0] n) 3)).alloc (.cells (madeCells #[.int .i64 0] n) 3)) := ((Below.refl _ w).alloc (Nat.le_refl _) _).alloc (by simp) _
    first
      | (have R := rnew_end w n _ _ _ hn hp hq (by omega) ⟨Nat.le_refl _, by omega⟩ B
         exact ⟨_, _, _, by simp, R.1.later (by exact ⟨rfl, rfl, rfl, Nat.le_refl _, fun _ _ => rfl⟩), R.2.trans ⟨rfl, rfl, rfl, Nat.le_refl _, fun _ _ => rfl⟩⟩)
      | (have R := rnew_end w n _ _ _ hn hq hp (by omega) ⟨by omega, Nat.le_refl _⟩ B
         exact ⟨_, _, _, by simp, R.1.later (by exact ⟨rfl, rfl, rfl, Nat.le_refl _, fun _ _ => rfl⟩), R.2.trans ⟨rfl, rfl, rfl, Nat.le_refl _, fun _ _ => rfl⟩⟩))
theorem rnew_no (w : World) (n : Int) (hn : ¬ (1 ≤ n ∧ n ≤ 256)) :
    Calls Try.prog 9 #[.int .i64 n] w fun e w' => e = .returned (.tuple #[.pointer none, .int .i64 2]) ∧ w' = w := by
  by_cases h : n < 1
  · go_enter Try.func9, Try.ntmps9
    go_wp2
    go_ret2
    exact ⟨rfl, rfl⟩
  · have h2 : n > 256 := by omega
    go_enter Try.func9, Try.ntmps9
    go_wp2
    go_ret2
    exact ⟨rfl, rfl⟩
set_option maxHeartbeats 1000000 in
theorem rmake_any {lo : Nat} {w : World} {x ab fb n : Nat} {b : Int} {A T : Nat → Int} (h : Rt lo w x ab fb n b A T) (hb : b ≤ 1000000) (at' : Int) :
    Calls Try.prog 12 #[pv x, .int .i64 at'] w fun e w' => e = .returned (.tuple #[.int .i64 (mkH n A T at'), .int .i64 (mkE n A at')]) ∧ Rt lo w' x ab fb n b (mkA n A at') T ∧ Kx ab fb w w' := by
  have c := h.c.1
  have le := h.le
  cases ha : isA at' with
  | false =>
    obtain ⟨e1, e2, e3⟩ := mk_no (n := n) (A := A) (T := T) ha
    rw [e1, e2, e3]
    clear e1 e2 e3
    have hna : ¬ (1 ≤ at' ∧ at' ≤ 524288) := fun q => by rw [isA_iff.2 q] at ha; cases ha
    by_cases h1 : at' < 1
    · go_enter Try.func12, Try.ntmps12
      go_wp2
      go_ret2
      exact ⟨rfl, h, Kx.refl _ _ _⟩
    · have h2 : at' > 524288 := by omega
      go_enter Try.func12, Try.ntmps12
      go_wp2
      go_ret2
      exact ⟨rfl, h, Kx.refl _ _ _⟩
  | true =>
    have hya := isA_iff.1 ha
    have h1 : ¬ at' < 1 := by omega
    have h2 : ¬ at' > 524288 := by omega
    have HH := Hid.mk h
    have HA := Hid.mk ha
    clear h ha
    go_enter Try.func12, Try.ntmps12
    go_wp2
    go_loop [6] (fun i => ∃ k : Nat, i = .int .i64 k ∧ k ≤ n ∧ Hid (∀ j, j < k → (A j == 0) = false)) (fun i => n - (intOf i).toNat)
    case atStart => exact ⟨0, rfl, Nat.zero_le _, ⟨fun j hj => absurd hj (Nat.not_lt_zero _)⟩⟩
    case round =>
      obtain ⟨k, rfl, hk, HP⟩ := hrel
      by_cases hlt : k < n
      · have hlt' : (k : Int) < n := by omega
        have c0 := HH.out.c0 k hlt
        have z0 := HH.out.z0 k
        have cx := HH.out.nx
        have n1 : ¬ x = ab := cx.1
        have n2 : ¬ ab = x := fun e => cx.1 e.symm
        cases hz : (A k == 0) with
        | true =>
          have e : lowF n A = k := fst_is hlt hz HP.out
          obtain ⟨e1, e2, e3⟩ := mk_yes (T := T) HA.out e hlt
          have HO := Hid.mk (show Okt n b (upd A k at') T by rw [← e3]; exact HH.out.ok.make at')
          have HS := Hid.mk (HH.out.setA hlt at' b HO.out)
          have RH := rhandle_any HS.out hb k hlt
          have HE : Hid (mkE n A at' = 0 ∧ mkH n A T at' = hnd T k ∧ mkA n A at' = upd A k at') := ⟨e1, by rw [e2]; rfl, e3⟩
          clear e e1 e2 e3 cx
          go_wp2_with (go_at_call 30; refine RH.mono ?_; clear RH; rintro e w1 ⟨rfl, hw⟩; rw [hw]; clear hw)
          go_ret2
          exact ⟨by rw [HE.out.1, HE.out.2.1]; rfl, by rw [HE.out.2.2]; exact HS.out, Kx.set _ _ _ (.inl rfl)⟩
        | false =>
          have HN : Hid (∀ j, j < k + 1 → (A j == 0) = false) := ⟨fun j hj => (Nat.lt_succ_iff_lt_or_eq.1 hj).elim (HP.out j) (fun e => by rw [e]; exact hz)⟩
          go_wp2
          go_round
          case rel => exact ⟨k + 1, by go_num, by omega, HN⟩
          case measure => simp [intOf]; omega
      · obtain rfl : k = n := by omega
        have e : lowF k A = k := fst_none HP.out
        obtain ⟨e1, e2, e3⟩ := mk_full (n := k) (A := A) (T := T) HA.out (by rw [e]; omega)
        have HE : Hid (mkE k A at' = 5 ∧ mkH k A T at' = 0 ∧ mkA k A at' = A) := ⟨e1, e2, e3⟩
        clear e e1 e2 e3
        go_wp2
        go_ret2
        exact ⟨by rw [HE.out.1, HE.out.2.1]; rfl, by rw [HE.out.2.2]; exact HH.out, Kx.refl _ _ _⟩
set_option maxHeartbeats 1000000 in
theorem rfree_any {lo : Nat} {w : World} {x ab fb n : Nat} {b : Int} {A T : Nat → Int} (h : Rt lo w x ab fb n b A T) (hb : b ≤ 1000000) (y : Int) :
    Calls Try.prog 14 #[pv x, .int .i64 y] w fun e w' => e = .returned (.int .i64 (geE n A T y)) ∧ Rt lo w' x ab fb n (b + 1) (frA n A T y) (frT n A T y) ∧ Kx ab fb w w' := by
  have FA := rfind_any h hb y
  have c := h.c.1
  by_cases hf : fd n A T y < n
  · obtain ⟨i, hi⟩ : ∃ i, fd n A T y = i := ⟨_, rfl⟩
    rw [hi] at hf
    obtain ⟨e3, e4⟩ := fr_yes hi hf
    have HO := Hid.mk (show Okt n (b + 1) (upd A i 0) (upd T i (T i + 1)) by rw [← e3, ← e4]; exact h.ok.free y)
    have HO2 := Hid.mk (show Okt n b (upd A i 0) T from fun j hj => by have q := h.ok j hj; unfold upd; split <;> omega)
    have e1 : fdI n A T y = i := by simp [fdI, hi, hf]
    have e5 : geE n A T y = 0 := by simp [geE, hi, hf]
    rw [e1] at FA
    rw [e3, e4, e5]
    have c0 := h.c0 i hf
    have z0 := h.z0 i
    have ok := h.ok i hf
    have hi' : (i : Int) < n := by omega
    have HH := Hid.mk h
    have HS := Hid.mk (h.setA hf 0 b HO2.out)
    have s1 := HS.out.c.2
    have s2 := HS.out.c1 i hf
    have s3 := HS.out.z1 i
    have cx := h.nx
    have n1 : ¬ x = fb := cx.2
    have n2 : ¬ fb = x := fun e => cx.2 e.symm
    obtain ⟨t, ht0⟩ : ∃ t, T i - 1 = t := ⟨_, rfl⟩
    rw [ht0] at s2
    have hte : T i + 1 - 1 = t + 1 := by omega
    have htb : 0 ≤ t ∧ t ≤ 1000000 := by omega
    have HF := Hid.mk (HS.out.setT hf (T i + 1) (b + 1) HO.out)
    rw [hte] at HF
    have s4 := HF.out.c.2
    have wrap1 : IntKind.i64.wrap (t + 1) = t + 1 := by rw [IntKind.wrap_i64]; omega
    clear e1 e3 e4 e5 hi h cx ok hte ht0
    go_enter Try.func14, Try.ntmps14
    go_wp2_with (go_at_call 32; refine FA.mono ?_; clear FA; rintro e w1 ⟨rfl, hw⟩; rw [hw]; clear hw)
    generalize hW : w.setCell ⟨ab, i, none⟩ (.int .i64 0) = W at *
    have HW := Hid.mk hW
    clear hW
    refine wp_region_held_drew (S := (fun W' => W'.cell? ⟨x, 1, none⟩ = some (.slice (some ⟨fb, 0, none⟩) n n))) (by kernel_rfl) ?_ (fun hHeld => ?_)
    · try dsimp only
      go_keep
    refine wpAnyH_take (i := 0) (v := ?_) rfl (by kernel_rfl) (by kernel_rfl) (by kernel_rfl) (fun _ _ _ h => h) (Or.inl ⟨by rfl, ?_⟩) (by assumption) ?_
    rotate_left
    · intro w' hSw
      try dsimp only at hSw
      go_simp
      try with_reducible rfl
    try simp only [Act.put, List.getElem_toArray, List.getElem_cons_zero, List.getElem_cons_succ, List.setIfInBounds_toArray, List.set_cons_zero, List.set_cons_succ]
    refine wpAnyH_take (i := 1) (v := ?_) rfl (by kernel_rfl) (by kernel_rfl) (by kernel_rfl) (fun _ _ _ h => h) (Or.inl ⟨by rfl, ?_⟩) (by assumption) ?_
    rotate_left
    · intro w' hSw
      try dsimp only at hSw
      go_simp
      try with_reducible rfl
    try simp only [Act.put, List.getElem_toArray, List.getElem_cons_zero, List.getElem_cons_succ, List.setIfInBounds_toArray, List.set_cons_zero, List.set_cons_succ]
    refine wpAnyH_take (i := 2) (v := ?_) rfl (by kernel_rfl) (by kernel_rfl) (by kernel_rfl) (fun _ _ _ h => h) (Or.inl ⟨by rfl, ?_⟩) (by assumption) ?_
    rotate_left
    · intro w' hSw
      try dsimp only at hSw
      go_simp
      try with_reducible rfl
    try simp only [Act.put, List.getElem_toArray, List.getElem_cons_zero, List.getElem_cons_succ, List.setIfInBounds_toArray, List.set_cons_zero, List.set_cons_succ]
    refine wpAnyH_take (i := 3) (v := ?_) rfl (by kernel_rfl) (by kernel_rfl) (by kernel_rfl) (fun _ _ _ h => h) (Or.inl ⟨by rfl, ?_⟩) (by assumption) ?_
    rotate_left
    · intro w' hSw
      try dsimp only at hSw
      go_simp
      try with_reducible rfl
    try simp only [Act.put, List.getElem_toArray, List.getElem_cons_zero, List.getElem_cons_succ, List.setIfInBounds_toArray, List.set_cons_zero, List.set_cons_succ]
    refine wpAnyH_take (i := 4) (v := ?_) rfl (by kernel_rfl) (by kernel_rfl) (by kernel_rfl) (fun _ _ _ h => h) (Or.inl ⟨by rfl, ?_⟩) (by assumption) ?_
    rotate_left
    · intro w' hSw
      try dsimp only at hSw
      go_simp
      try with_reducible rfl
    try simp only [Act.put, List.getElem_toArray, List.getElem_cons_zero, List.getElem_cons_succ, List.setIfInBounds_toArray, List.set_cons_zero, List.set_cons_succ]
    refine wpAnyH_take (i := 5) (v := ?_) rfl (by kernel_rfl) (by kernel_rfl) (by kernel_rfl) (fun _ _ _ h => h) (Or.inl ⟨by rfl, ?_⟩) (by assumption) ?_
    rotate_left
    · intro w' hSw
      try dsimp only at hSw
      go_simp
      try with_reducible rfl
    try simp only [Act.put, List.getElem_toArray, List.getElem_cons_zero, List.getElem_cons_succ, List.setIfInBounds_toArray, List.set_cons_zero, List.set_cons_succ]
    refine wpAnyH_take (i := 6) (v := ?_) rfl (by kernel_rfl) (by kernel_rfl) (by kernel_rfl) (fun _ _ _ h => h) (Or.inl ⟨by rfl, ?_⟩) (by assumption) ?_
    rotate_left
    · intro w' hSw
      try dsimp only at hSw
      go_simp
      try with_reducible rfl
    try simp only [Act.put, List.getElem_toArray, List.getElem_cons_zero, List.getElem_cons_succ, List.setIfInBounds_toArray, List.set_cons_zero, List.set_cons_succ]
    refine wpAnyH_take (i := 7) (v := ?_) rfl (by kernel_rfl) (by kernel_rfl) (by kernel_rfl) (fun _ _ _ h => h) (Or.inl ⟨by rfl, ?_⟩) (by assumption) ?_
    rotate_left
    · intro w' hSw
      try dsimp only at hSw
      go_simp
      try with_reducible rfl
    try simp only [Act.put, List.getElem_toArray, List.getElem_cons_zero, List.getElem_cons_succ, List.setIfInBounds_toArray, List.set_cons_zero, List.set_cons_succ]
    refine wpAnyH_take (i := 8) (v := ?_) rfl (by kernel_rfl) (by kernel_rfl) (by kernel_rfl) (fun _ _ _ h => h) (Or.inl ⟨by rfl, ?_⟩) (by assumption) ?_
    rotate_left
    · intro w' hSw
      try dsimp only at hSw
      go_simp
      try with_reducible rfl
    try simp only [Act.put, List.getElem_toArray, List.getElem_cons_zero, List.getElem_cons_succ, List.setIfInBounds_toArray, List.set_cons_zero, List.set_cons_succ]
    refine wpAnyH_take (i := 9) (v := ?_) rfl (by kernel_rfl) (by kernel_rfl) (by kernel_rfl) (fun _ _ _ h => h) (Or.inl ⟨by rfl, ?_⟩) (by assumption) ?_
    rotate_left
    · intro w' hSw
      try dsimp only at hSw
      go_simp
      try with_reducible rfl
    try simp only [Act.put, List.getElem_toArray, List.getElem_cons_zero, List.getElem_cons_succ, List.setIfInBounds_toArray, List.set_cons_zero, List.set_cons_succ]
    refine wpAnyH_take (i := 10) (v := ?_) rfl (by kernel_rfl) (by kernel_rfl) (by kernel_rfl) (fun _ _ _ h => h) (Or.inl ⟨by rfl, ?_⟩) (by assumption) ?_
    rotate_left
    · intro w' hSw
      try dsimp only at hSw
      go_simp
      try with_reducible rfl
    try simp only [Act.put, List.getElem_toArray, List.getElem_cons_zero, List.getElem_cons_succ, List.setIfInBounds_toArray, List.set_cons_zero, List.set_cons_succ]
    refine wpAnyH_ready (rs := [11]) (by kernel_rfl) (by simp) ?_
    refine AllReadyH.cons rfl (fun K hK => ?_) AllReadyH.nil
    go_simp
    refine hK.out _ _ ?_ (fun hHeld => ?_)
    · try dsimp only
      go_keep
    clear hK K
    try simp only [Act.put, List.getElem_toArray, List.getElem_cons_zero, List.getElem_cons_succ, List.setIfInBounds_toArray, List.set_cons_zero, List.set_cons_succ]
    refine wpAnyH_take (i := 12) (v := ?_) rfl (by kernel_rfl) (by kernel_rfl) (by kernel_rfl) (fun _ _ _ h => h) (Or.inl ⟨by rfl, ?_⟩) (by assumption) ?_
    rotate_left
    · intro w' hSw
      try dsimp only at hSw
      go_simp
      try with_reducible rfl
    try simp only [Act.put, List.getElem_toArray, List.getElem_cons_zero, List.getElem_cons_succ, List.setIfInBounds_toArray, List.set_cons_zero, List.set_cons_succ]
    refine wpAnyH_take (i := 13) (v := ?_) rfl (by kernel_rfl) (by kernel_rfl) (by kernel_rfl) (fun _ _ _ h => h) (Or.inl ⟨by rfl, ?_⟩) (by assumption) ?_
    rotate_left
    · intro w' hSw
      try dsimp only at hSw
      go_simp
      try with_reducible rfl
    try simp only [Act.put, List.getElem_toArray, List.getElem_cons_zero, List.getElem_cons_succ, List.setIfInBounds_toArray, List.set_cons_zero, List.set_cons_succ]
    refine wpAnyH_ready (rs := [14]) (by kernel_rfl) (by simp) ?_
    refine AllReadyH.cons rfl (fun K hK => ?_) AllReadyH.nil
    go_simp
    refine hK.out _ _ ?_ (fun hHeld => ?_)
    · try dsimp only
      go_keep
    clear hK K
    try simp only [Act.put, List.getElem_toArray, List.getElem_cons_zero, List.getElem_cons_succ, List.setIfInBounds_toArray, List.set_cons_zero, List.set_cons_succ]
    refine wpAnyH_done (by kernel_rfl) ?_ _
    go_wp2
    go_ret
    exact ⟨rfl, HF.out.later ⟨rfl, rfl, rfl, Nat.le_refl _, fun _ _ => rfl⟩, (by rw [← HW.out]; exact Kx.set _ _ _ (.inl rfl) : Kx ab fb w W).trans ((Kx.set ab fb W (g := fb) (i := i) (v := .int .i64 (t + 1)) (.inr rfl)).trans (Kx.later _ _ ⟨rfl, rfl, rfl, Nat.le_refl _, fun _ _ => rfl⟩))⟩
  · have e1 : fdI n A T y = -1 := by simp [fdI, hf]
    have e5 : geE n A T y = 60 := by simp [geE, hf]
    obtain ⟨e3, e4⟩ := fr_no hf
    rw [e1] at FA
    rw [e3, e4, e5]
    clear e1 e3 e4 e5 hf
    go_enter Try.func14, Try.ntmps14
    go_wp2_with (go_at_call 32; refine FA.mono ?_; clear FA; rintro e w1 ⟨rfl, hw⟩; rw [hw]; clear hw)
    go_ret
    exact ⟨rfl, h.up (by omega), Kx.refl _ _ _⟩
end Go.Proofs.Ytejjobemafdlbaa
