/- What the primitives of numbers tell: the program's tell, and the document's Do. -/
import Derived.Test.YtfopbakhbobgjaaDoorRefN
import Derived.Deep.RegionWith
namespace Go.Proofs.YtfopbakhbobgjaaDoor
open Go.RowKit
set_option linter.unusedVariables false
set_option linter.unusedSimpArgs false

def tellI : Nat → Int → Int → Int
  | 1, a, b => wrap64 (a + b)
  | 2, a, b => wrap64 (a - b)
  | 3, a, b => wrap64 (a * b)
  | 4, a, b => wrap64 (a.tdiv b)
  | 5, a, b => a.tmod b
  | 6, a, b => if a = b then 1 else 0
  | 7, a, b => if a < b then 1 else 0
  | _, _, _ => 0
abbrev isI (a : Int) : Prop := -9223372036854775808 ≤ a ∧ a ≤ 9223372036854775807
def pairV (x e : Int) : Value := .tuple #[.int .i64 x, .int .i64 e]

theorem tell1 (a b : Int) (w : World) : Calls Tryd.prog 21 #[.int .i64 1, .int .i64 a, .int .i64 b] w fun e w' => e = .returned (.int .i64 (tellI 1 a b)) ∧ w' = w := by
  go_enter Tryd.func21, Tryd.ntmps21
  go_wp2
  go_ret
  exact ⟨rfl, rfl⟩
theorem tell2 (a b : Int) (w : World) : Calls Tryd.prog 21 #[.int .i64 2, .int .i64 a, .int .i64 b] w fun e w' => e = .returned (.int .i64 (tellI 2 a b)) ∧ w' = w := by
  go_enter Tryd.func21, Tryd.ntmps21
  go_wp2
  go_ret
  exact ⟨rfl, rfl⟩
theorem tell3 (a b : Int) (w : World) : Calls Tryd.prog 21 #[.int .i64 3, .int .i64 a, .int .i64 b] w fun e w' => e = .returned (.int .i64 (tellI 3 a b)) ∧ w' = w := by
  go_enter Tryd.func21, Tryd.ntmps21
  go_wp2
  go_ret
  exact ⟨rfl, rfl⟩
theorem tell4 (a b : Int) (w : World) (hb : ¬ b = 0) : Calls Tryd.prog 21 #[.int .i64 4, .int .i64 a, .int .i64 b] w fun e w' => e = .returned (.int .i64 (tellI 4 a b)) ∧ w' = w := by
  go_enter Tryd.func21, Tryd.ntmps21
  go_wp2
  go_ret
  exact ⟨rfl, rfl⟩
theorem tell5 (a b : Int) (w : World) (hb : ¬ b = 0) : Calls Tryd.prog 21 #[.int .i64 5, .int .i64 a, .int .i64 b] w fun e w' => e = .returned (.int .i64 (tellI 5 a b)) ∧ w' = w := by
  go_enter Tryd.func21, Tryd.ntmps21
  go_wp2
  go_ret
  exact ⟨rfl, rfl⟩
theorem tell6 (a b : Int) (w : World) : Calls Tryd.prog 21 #[.int .i64 6, .int .i64 a, .int .i64 b] w fun e w' => e = .returned (.int .i64 (tellI 6 a b)) ∧ w' = w := by
  go_enter Tryd.func21, Tryd.ntmps21
  go_wp2_with (go_at_call 26; refine (truth_any _ _).mono ?_; rintro e w' ⟨rfl, rfl⟩)
  all_goals go_ret
  all_goals exact ⟨retInt (by simp_all [tellI]), rfl⟩
theorem tell7 (a b : Int) (w : World) : Calls Tryd.prog 21 #[.int .i64 7, .int .i64 a, .int .i64 b] w fun e w' => e = .returned (.int .i64 (tellI 7 a b)) ∧ w' = w := by
  go_enter Tryd.func21, Tryd.ntmps21
  go_wp2_with (go_at_call 26; refine (truth_any _ _).mono ?_; rintro e w' ⟨rfl, rfl⟩)
  all_goals go_ret
  all_goals exact ⟨retInt (by simp [tellI]; try omega), rfl⟩

theorem tell_any (k : Nat) (h1 : 1 ≤ k) (h7 : k ≤ 7) (a b : Int) (hb : b = 0 → ¬ (k = 4 ∨ k = 5)) (w : World) : Calls Tryd.prog 21 #[.int .i64 k, .int .i64 a, .int .i64 b] w fun e w' => e = .returned (.int .i64 (tellI k a b)) ∧ w' = w := by
  have c : k = 1 ∨ k = 2 ∨ k = 3 ∨ k = 4 ∨ k = 5 ∨ k = 6 ∨ k = 7 := by omega
  rcases c with rfl | rfl | rfl | rfl | rfl | rfl | rfl
  · exact tell1 a b w
  · exact tell2 a b w
  · exact tell3 a b w
  · exact tell4 a b w (fun e => hb e (Or.inl rfl))
  · exact tell5 a b w (fun e => hb e (Or.inr rfl))
  · exact tell6 a b w
  · exact tell7 a b w

/-- what Do answers -/
def doI (n : Int) (a b : Int) : Int × Int := if 1 ≤ n ∧ n ≤ 7 then (if b = 0 ∧ (n = 4 ∨ n = 5) then (0, 40) else (tellI n.toNat a b, 0)) else (0, 34)

theorem wrap_of_mod {x y : Int} (h : x % 18446744073709551616 = y % 18446744073709551616) : wrap64 x = wrap64 y := by unfold wrap64; omega
theorem abs_tdiv (a b : Int) : a.tdiv b = if (decide (a < 0) != decide (b < 0)) = true then - ((a.natAbs : Int) / (b.natAbs : Int)) else (a.natAbs : Int) / (b.natAbs : Int) := by
  rcases Int.natAbs_eq a with h | h <;> rcases Int.natAbs_eq b with h' | h' <;> generalize a.natAbs = x at h ⊢ <;> generalize b.natAbs = y at h' ⊢ <;> subst h h'
  all_goals simp only [Int.neg_tdiv, Int.tdiv_neg, Int.neg_neg, ← Int.ofNat_tdiv, ← Int.natCast_ediv]
  all_goals
    rcases Nat.eq_zero_or_pos x with hx | hx
    · subst hx; simp
    · rcases Nat.eq_zero_or_pos y with hy | hy
      · subst hy; simp
      · have x1 : ¬ ((x : Int) < 0) := by omega
        have y1 : ¬ ((y : Int) < 0) := by omega
        have x2 : - (x : Int) < 0 := by omega
        have y2 : - (y : Int) < 0 := by omega
        simp [x1, y1, x2, y2, hx, hy]
theorem abs_tmod (a b : Int) : a.tmod b = if decide (a < 0) = true then - ((a.natAbs : Int) % (b.natAbs : Int)) else (a.natAbs : Int) % (b.natAbs : Int) := by
  rcases Int.natAbs_eq a with h | h <;> rcases Int.natAbs_eq b with h' | h' <;> generalize a.natAbs = x at h ⊢ <;> generalize b.natAbs = y at h' ⊢ <;> subst h h'
  all_goals simp only [Int.neg_tmod, Int.tmod_neg, ← Int.ofNat_tmod, ← Int.natCast_emod]
  all_goals
    rcases Nat.eq_zero_or_pos x with hx | hx
    · subst hx; simp
    · have x1 : ¬ ((x : Int) < 0) := by omega
      have x2 : - (x : Int) < 0 := by omega
      simp [x1, x2, hx]
theorem tmod_le (a b : Int) (h : isI a) : isI (a.tmod b) := by
  rw [abs_tmod]
  have h1 : ((a.natAbs : Int) % (b.natAbs : Int)) ≤ a.natAbs := by
    rw [← Int.natCast_emod]
    exact Int.ofNat_le.2 (Nat.mod_le _ _)
  have h2 : 0 ≤ ((a.natAbs : Int) % (b.natAbs : Int)) := by rw [← Int.natCast_emod]; omega
  generalize (a.natAbs : Int) % (b.natAbs : Int) = r at *
  obtain ⟨h3, h4⟩ := h
  by_cases n : a < 0
  · simp only [n, decide_true, if_true]; exact ⟨by omega, by omega⟩
  · simp only [n, decide_false]; exact ⟨by simp; omega, by simp; omega⟩
theorem mul_mod (a b : Int) : wrap64 ((IntKind.u64.wrap a * IntKind.u64.wrap b) % 18446744073709551616) = wrap64 (a * b) := by
  refine wrap_of_mod ?_
  rw [IntKind.wrap_u64, IntKind.wrap_u64, Int.emod_emod_of_dvd _ (Int.dvd_refl _), ← Int.mul_emod]

set_option maxHeartbeats 1000000 in
theorem refDo_no (n a b : Int) (w : World) (h : ¬ (1 ≤ n ∧ n ≤ 7)) : Calls Tryd.prog 18 #[.int .i64 n, .int .i64 a, .int .i64 b] w fun e w' => e = .returned (pairV 0 34) ∧ w' = w := by
  by_cases c : n < 1
  · go_enter Tryd.func18, Tryd.ntmps18
    go_wp2
    go_ret2
    exact ⟨rfl, rfl⟩
  · have d : 7 < n := by omega
    go_enter Tryd.func18, Tryd.ntmps18
    go_wp2
    go_ret2
    exact ⟨rfl, rfl⟩
theorem refDo1 (a b : Int) (w : World) : Calls Tryd.prog 18 #[.int .i64 1, .int .i64 a, .int .i64 b] w fun e w' => e = .returned (pairV (tellI 1 a b) 0) ∧ w' = w := by
  by_cases z : b = 0
  · subst z
    go_enter Tryd.func18, Tryd.ntmps18
    go_wp2_with (go_at_call 22; refine (number_any _ _ (by simp only [IntKind.wrap_u64]; omega) (by simp only [IntKind.wrap_u64]; omega)).mono ?_; rintro e w' ⟨rfl, rfl⟩)
    go_ret2
    exact ⟨retPair (wrap_of_mod (by simp only [IntKind.wrap_u64]; omega)) rfl, rfl⟩
  · have z' : (b == 0) = false := by simp [z]
    go_enter Tryd.func18, Tryd.ntmps18
    go_wp2_with (go_at_call 22; refine (number_any _ _ (by simp only [IntKind.wrap_u64]; omega) (by simp only [IntKind.wrap_u64]; omega)).mono ?_; rintro e w' ⟨rfl, rfl⟩)
    go_ret2
    exact ⟨retPair (wrap_of_mod (by simp only [IntKind.wrap_u64]; omega)) rfl, rfl⟩
theorem refDo2 (a b : Int) (w : World) : Calls Tryd.prog 18 #[.int .i64 2, .int .i64 a, .int .i64 b] w fun e w' => e = .returned (pairV (tellI 2 a b) 0) ∧ w' = w := by
  by_cases z : b = 0
  · subst z
    go_enter Tryd.func18, Tryd.ntmps18
    go_wp2_with (go_at_call 22; refine (number_any _ _ (by simp only [IntKind.wrap_u64]; omega) (by simp only [IntKind.wrap_u64]; omega)).mono ?_; rintro e w' ⟨rfl, rfl⟩)
    go_ret2
    exact ⟨retPair (wrap_of_mod (by simp only [IntKind.wrap_u64]; omega)) rfl, rfl⟩
  · have z' : (b == 0) = false := by simp [z]
    go_enter Tryd.func18, Tryd.ntmps18
    go_wp2_with (go_at_call 22; refine (number_any _ _ (by simp only [IntKind.wrap_u64]; omega) (by simp only [IntKind.wrap_u64]; omega)).mono ?_; rintro e w' ⟨rfl, rfl⟩)
    go_ret2
    exact ⟨retPair (wrap_of_mod (by simp only [IntKind.wrap_u64]; omega)) rfl, rfl⟩
theorem refDo3 (a b : Int) (w : World) : Calls Tryd.prog 18 #[.int .i64 3, .int .i64 a, .int .i64 b] w fun e w' => e = .returned (pairV (tellI 3 a b) 0) ∧ w' = w := by
  have E := mul_mod a b
  have pa : 0 ≤ IntKind.u64.wrap a ∧ IntKind.u64.wrap a ≤ 18446744073709551615 := by rw [IntKind.wrap_u64]; omega
  have pb : 0 ≤ IntKind.u64.wrap b ∧ IntKind.u64.wrap b ≤ 18446744073709551615 := by rw [IntKind.wrap_u64]; omega
  obtain ⟨m, hm⟩ : ∃ m, (IntKind.u64.wrap a * IntKind.u64.wrap b) % 18446744073709551616 = m := ⟨_, rfl⟩
  have P := product_any (IntKind.u64.wrap a) (IntKind.u64.wrap b) w pa pb
  have hm2 : 0 ≤ m ∧ m ≤ 18446744073709551615 := by omega
  rw [hm] at E P
  have E' : Hd (wrap64 m = tellI 3 a b) := ⟨E⟩
  clear E hm pa pb
  by_cases z : b = 0
  · subst z
    go_enter Tryd.func18, Tryd.ntmps18
    go_wp2_with (first | (go_at_call 23; refine P.mono ?_; rintro e w' ⟨rfl, rfl⟩) | (go_at_call 22; refine (number_any _ _ hm2.1 hm2.2).mono ?_; rintro e w' ⟨rfl, rfl⟩))
    go_ret2
    exact ⟨retPair E'.out rfl, rfl⟩
  · have z' : (b == 0) = false := by simp [z]
    go_enter Tryd.func18, Tryd.ntmps18
    go_wp2_with (first | (go_at_call 23; refine P.mono ?_; rintro e w' ⟨rfl, rfl⟩) | (go_at_call 22; refine (number_any _ _ hm2.1 hm2.2).mono ?_; rintro e w' ⟨rfl, rfl⟩))
    go_ret2
    exact ⟨retPair E'.out rfl, rfl⟩
theorem refDo6 (a b : Int) (w : World) : Calls Tryd.prog 18 #[.int .i64 6, .int .i64 a, .int .i64 b] w fun e w' => e = .returned (pairV (tellI 6 a b) 0) ∧ w' = w := by
  by_cases z : b = 0
  · subst z
    go_enter Tryd.func18, Tryd.ntmps18
    go_wp2
    all_goals go_ret2
    all_goals exact ⟨retPair (by simp_all [tellI]) rfl, rfl⟩
  · have z' : (b == 0) = false := by simp [z]
    go_enter Tryd.func18, Tryd.ntmps18
    go_wp2
    all_goals go_ret2
    all_goals exact ⟨retPair (by simp_all [tellI]) rfl, rfl⟩
theorem refDo7 (a b : Int) (w : World) : Calls Tryd.prog 18 #[.int .i64 7, .int .i64 a, .int .i64 b] w fun e w' => e = .returned (pairV (tellI 7 a b) 0) ∧ w' = w := by
  by_cases z : b = 0
  · subst z
    go_enter Tryd.func18, Tryd.ntmps18
    go_wp2
    all_goals go_ret2
    all_goals exact ⟨retPair (by simp [tellI]; try omega) rfl, rfl⟩
  · have z' : (b == 0) = false := by simp [z]
    go_enter Tryd.func18, Tryd.ntmps18
    go_wp2
    all_goals go_ret2
    all_goals exact ⟨retPair (by simp [tellI]; try omega) rfl, rfl⟩
theorem refDo45 (n a : Int) (w : World) (h : n = 4 ∨ n = 5) : Calls Tryd.prog 18 #[.int .i64 n, .int .i64 a, .int .i64 0] w fun e w' => e = .returned (pairV 0 40) ∧ w' = w := by
  rcases h with rfl | rfl
  all_goals go_enter Tryd.func18, Tryd.ntmps18
  all_goals go_wp2
  all_goals go_ret2
  all_goals exact ⟨rfl, rfl⟩
theorem quo_eq (a b : Int) (ha : isI a) : wrap64 (if (!(decide (a < 0) == decide (b < 0))) = true then - IntKind.u64.wrap ((a.natAbs : Int) / (b.natAbs : Int)) else IntKind.u64.wrap ((a.natAbs : Int) / (b.natAbs : Int))) = tellI 4 a b := by
  show _ = wrap64 (a.tdiv b)
  rw [abs_tdiv]
  refine wrap_of_mod ?_
  rw [show (!(decide (a < 0) == decide (b < 0))) = (decide (a < 0) != decide (b < 0)) from rfl, IntKind.wrap_u64]
  split <;> omega
theorem rem_eq (a b : Int) (ha : isI a) : wrap64 (if decide (a < 0) = true then - ((a.natAbs : Int) % (b.natAbs : Int)) else ((a.natAbs : Int) % (b.natAbs : Int))) = tellI 5 a b := by
  show _ = a.tmod b
  rw [← abs_tmod]
  have := tmod_le a b ha
  unfold wrap64
  omega
theorem u64_bounds (x : Int) : 0 ≤ IntKind.u64.wrap x ∧ IntKind.u64.wrap x ≤ 18446744073709551615 := by rw [IntKind.wrap_u64]; omega
theorem mod_bounds (a b : Int) (ha : isI a) : 0 ≤ (a.natAbs : Int) % (b.natAbs : Int) ∧ (a.natAbs : Int) % (b.natAbs : Int) ≤ 18446744073709551615 := by
  have h1 : ((a.natAbs : Int) % (b.natAbs : Int)) ≤ a.natAbs := by
    rw [← Int.natCast_emod]
    exact Int.ofNat_le.2 (Nat.mod_le _ _)
  have h2 : 0 ≤ ((a.natAbs : Int) % (b.natAbs : Int)) := by rw [← Int.natCast_emod]; omega
  obtain ⟨h3, h4⟩ := ha
  omega
set_option maxHeartbeats 1000000 in
theorem refDo4 (a b : Int) (w : World) (z : ¬ b = 0) (ha : isI a) (hb : isI b) : Calls Tryd.prog 18 #[.int .i64 4, .int .i64 a, .int .i64 b] w fun e w' => e = .returned (pairV (tellI 4 a b) 0) ∧ w' = w := by
  have z' : (b == 0) = false := by simp [z]
  have Q : Hd _ := ⟨quo_eq a b ha⟩
  go_enter Tryd.func18, Tryd.ntmps18
  go_wp2_with (first
    | (go_at_call_of 25 (Value.int IntKind.i64 a); refine (size_any a _ ha).mono ?_; rintro e w' ⟨rfl, rfl⟩)
    | (go_at_call_of 25 (Value.int IntKind.i64 b); refine (size_any b _ hb).mono ?_; rintro e w' ⟨rfl, rfl⟩)
    | (go_at_call 24; refine (signed_any _ _ _ (u64_bounds _).1 (u64_bounds _).2).mono ?_; rw [Q.out]; rintro e w' ⟨rfl, rfl⟩))
  go_ret2
  exact ⟨rfl, rfl⟩
set_option maxHeartbeats 1000000 in
theorem refDo5 (a b : Int) (w : World) (z : ¬ b = 0) (ha : isI a) (hb : isI b) : Calls Tryd.prog 18 #[.int .i64 5, .int .i64 a, .int .i64 b] w fun e w' => e = .returned (pairV (tellI 5 a b) 0) ∧ w' = w := by
  have z' : (b == 0) = false := by simp [z]
  have Q : Hd _ := ⟨rem_eq a b ha⟩
  have M := mod_bounds a b ha
  go_enter Tryd.func18, Tryd.ntmps18
  go_wp2_with (first
    | (go_at_call_of 25 (Value.int IntKind.i64 a); refine (size_any a _ ha).mono ?_; rintro e w' ⟨rfl, rfl⟩)
    | (go_at_call_of 25 (Value.int IntKind.i64 b); refine (size_any b _ hb).mono ?_; rintro e w' ⟨rfl, rfl⟩)
    | (go_at_call 24; refine (signed_any _ _ _ M.1 M.2).mono ?_; rw [Q.out]; rintro e w' ⟨rfl, rfl⟩))
  go_ret2
  exact ⟨rfl, rfl⟩
theorem doI_no {n a b : Int} (h : ¬ (1 ≤ n ∧ n ≤ 7)) : doI n a b = (0, 34) := by unfold doI; rw [if_neg h]
theorem doI_div {n a : Int} (h : n = 4 ∨ n = 5) : doI n a 0 = (0, 40) := by unfold doI; rw [if_pos (by omega), if_pos ⟨rfl, h⟩]
theorem doI_in {k : Nat} {a b : Int} (h1 : 1 ≤ k) (h7 : k ≤ 7) (hb : b = 0 → ¬ (k = 4 ∨ k = 5)) : doI k a b = (tellI k a b, 0) := by
  unfold doI
  rw [if_pos (by omega), if_neg (by rintro ⟨e, f⟩; exact hb e (by omega)), Int.toNat_natCast]
theorem refDo_any (n a b : Int) (w : World) (ha : isI a) (hb : isI b) : Calls Tryd.prog 18 #[.int .i64 n, .int .i64 a, .int .i64 b] w fun e w' => e = .returned (pairV (doI n a b).1 (doI n a b).2) ∧ w' = w := by
  by_cases h : 1 ≤ n ∧ n ≤ 7
  · obtain ⟨k, rfl⟩ : ∃ k : Nat, n = k := ⟨n.toNat, by omega⟩
    by_cases d : b = 0 ∧ (k = 4 ∨ k = 5)
    · obtain ⟨rfl, e⟩ := d
      rw [doI_div (by omega)]
      exact refDo45 _ a w (by omega)
    · rw [doI_in (by omega) (by omega) (fun e f => d ⟨e, f⟩)]
      have c : k = 1 ∨ k = 2 ∨ k = 3 ∨ k = 4 ∨ k = 5 ∨ k = 6 ∨ k = 7 := by omega
      rcases c with rfl | rfl | rfl | rfl | rfl | rfl | rfl
      · exact refDo1 a b w
      · exact refDo2 a b w
      · exact refDo3 a b w
      · exact refDo4 a b w (fun e => d ⟨e, Or.inl rfl⟩) ha hb
      · exact refDo5 a b w (fun e => d ⟨e, Or.inr rfl⟩) ha hb
      · exact refDo6 a b w
      · exact refDo7 a b w
  · rw [doI_no h]
    exact refDo_no n a b w h
end Go.Proofs.YtfopbakhbobgjaaDoor
