/- The checker's small functions: constructors, places, kinds, what is named. -/
import Derived.Test.YtidplckoolmaiaaDoorCda
namespace Go.Proofs.YtidplckoolmaiaaDoor
open Go.RowKit
set_option linter.unusedVariables false
set_option linter.unusedSimpArgs false

theorem below_drewN {n : Nat} {w w' : World} (h : Below n w w') (k : Nat) : Below n w (w'.drewN k) := by
  induction k with
  | zero => exact h
  | succ k ih => exact ih.drew
abbrev ptr (b : Nat) : Value := .pointer (some ⟨b, 0, none⟩)
theorem below_any (n m : Int) (w : World) : Calls Tryd.prog 11 #[.int .i64 n, .int .i64 m] w fun e w' => e = .returned (.bool (belowI n m)) ∧ w' = w := by
  by_cases h1 : 0 ≤ n
  · go_enter Tryd.func11, Tryd.ntmps11; go_wp2; go_ret; exact ⟨retBool (by simp [belowI, *]), rfl⟩
  · go_enter Tryd.func11, Tryd.ntmps11; go_wp2; go_ret; exact ⟨retBool (by simp [belowI]; omega), rfl⟩
theorem below_yes {n : Int} {l : Nat} (h : belowI n l = true) : 0 ≤ n ∧ n < l := by simpa [belowI] using h
theorem below_nat {n : Int} {l : Nat} (h : belowI n l = true) : ∃ j : Nat, n = j ∧ j < l := by
  have := below_yes h
  exact ⟨n.toNat, by omega, by omega⟩
set_option maxHeartbeats 1000000 in
theorem makeKind_any (m : Mk) (vf : Value) (w : World) (hf : Lst w 1 isInt m.fr vf) : Calls Tryd.prog 58 #[.agg #[.int .i64 m.k, .int .i64 m.i, .int .i64 m.n, vf]] w fun e w' => e = .returned (.bool (mkKind m)) ∧ Below w.heap.size w w' := by
  obtain ⟨gf, cf, rfl, _⟩ := hf
  obtain ⟨k, i, n, fr⟩ := m
  dsimp only
  by_cases h1 : k = 1
  · subst h1; go_enter Tryd.func58, Tryd.ntmps58; go_wp2; go_ret; exact ⟨rfl, by go_grown⟩
  by_cases h2 : k = 2
  · subst h2; go_enter Tryd.func58, Tryd.ntmps58; go_wp2; go_ret; exact ⟨rfl, by go_grown⟩
  by_cases h3 : k = 3
  · subst h3; go_enter Tryd.func58, Tryd.ntmps58; go_wp2; go_ret; exact ⟨rfl, by go_grown⟩
  by_cases h4 : k = 6
  · subst h4; go_enter Tryd.func58, Tryd.ntmps58; go_wp2; go_ret; exact ⟨rfl, by go_grown⟩
  by_cases h5 : k = 7
  · subst h5; go_enter Tryd.func58, Tryd.ntmps58; go_wp2; go_ret; exact ⟨rfl, by go_grown⟩
  go_enter Tryd.func58, Tryd.ntmps58; go_wp2; go_ret; exact ⟨retBool (by simp [mkKind, *]), by go_grown⟩
set_option maxHeartbeats 1000000 in
theorem armKind_any (m : Arm) (w : World) : Calls Tryd.prog 60 #[.agg #[.int .i64 m.k, .int .i64 m.c, .int .i64 m.n, .int .i64 m.t]] w fun e w' => e = .returned (.bool (arKind m)) ∧ Below w.heap.size w w' := by
  obtain ⟨k, i, n, t⟩ := m
  dsimp only
  by_cases h1 : k = 1
  · subst h1; go_enter Tryd.func60, Tryd.ntmps60; go_wp2; go_ret; exact ⟨rfl, by go_grown⟩
  by_cases h2 : k = 2
  · subst h2; go_enter Tryd.func60, Tryd.ntmps60; go_wp2; go_ret; exact ⟨rfl, by go_grown⟩
  go_enter Tryd.func60, Tryd.ntmps60; go_wp2; go_ret; exact ⟨retBool (by simp [arKind, Bool.or_assoc]), by go_grown⟩

section
variable {w : World} {b : Nat} {c : Cd} {z : Int} {x : Ins} {vc vg vi vn vl vk vm va : Value}
theorem con_any (K : Ck w b z x vc vg vi vn vl vk vm va) (V : Cv w c vc vg vi vn) (n : Int) : Calls Tryd.prog 65 #[ptr b, .int .i64 n] w fun e w' => e = .returned (.bool (conB c n)) ∧ w' = w := by
  have k0 := K.c0
  obtain ⟨ga, cap, rfl, _⟩ := V.co
  clear K V
  go_enter Tryd.func65, Tryd.ntmps65
  go_wp2_with (go_at_call 11; refine (below_any _ _ _).mono ?_; rintro e w' ⟨rfl, rfl⟩)
  go_ret
  exact ⟨rfl, rfl⟩
theorem stands_any (K : Ck w b z x vc vg vi vn vl vk vm va) (V : Cv w c vc vg vi vn) (p n : Int) (hp : In64 p) : Calls Tryd.prog 68 #[ptr b, .int .i64 p, .int .i64 n] w fun e w' => e = .returned (.bool (standsI c p n)) ∧ w' = w := by
  have k1 := K.c1
  obtain ⟨ga, cap, rfl, _⟩ := V.gl
  obtain ⟨h1, h2⟩ := hp
  clear K V
  by_cases h : p < 0
  · go_enter Tryd.func68, Tryd.ntmps68
    go_wp2
    go_ret
    exact ⟨retBool (by simp [standsI, h]), rfl⟩
  · go_enter Tryd.func68, Tryd.ntmps68
    go_wp2
    go_ret
    exact ⟨retBool (by unfold standsI; rw [if_neg (by omega)]), rfl⟩
theorem place_any (K : Ck w b z x vc vg vi vn vl vk vm va) (V : Cv w c vc vg vi vn) (p : Int) (hp : In64 p) : Calls Tryd.prog 71 #[ptr b, .int .i64 p] w fun e w' => e = .returned (.bool (standsI c p x.b)) ∧ w' = w := by
  have k7 := K.c7
  have C := stands_any K V p x.b hp
  clear K V
  go_enter Tryd.func71, Tryd.ntmps71
  go_wp2_with (go_at_call 68; refine C.mono ?_; rintro e w' ⟨rfl, rfl⟩)
  go_ret
  exact ⟨rfl, rfl⟩
theorem locals_any (K : Ck w b z x vc vg vi vn vl vk vm va) : Calls Tryd.prog 47 #[ptr b] w fun e w' => e = .returned (.bool (localsI x)) ∧ w' = w := by
  have k5 := K.c5
  have k7 := K.c7
  clear K
  by_cases h : x.op = 5
  · have HH : Hid (localsI x = (decide (1 ≤ x.b) && decide (x.b ≤ 1000))) := ⟨by simp [localsI, h]⟩
    rw [h] at k5
    rw [HH.out]
    clear HH h
    by_cases h1 : 1 ≤ x.b
    all_goals
      go_enter Tryd.func47, Tryd.ntmps47
      go_wp2
      go_ret
      exact ⟨retBool (by first | (simp [*]; done) | (simp; omega)), rfl⟩
  · have HH : Hid (localsI x = (decide (0 ≤ x.b) && decide (x.b ≤ 1000))) := ⟨by simp [localsI, h]⟩
    rw [HH.out]
    clear HH
    by_cases h1 : 0 ≤ x.b
    all_goals
      go_enter Tryd.func47, Tryd.ntmps47
      go_wp2
      go_ret
      exact ⟨retBool (by first | (simp [*]; done) | (simp; omega)), rfl⟩
theorem prim_name (a : Int) : (!(str (tN (rowN a))).toList.isEmpty) = primB a := by
  have h := rowN_lt a
  unfold primB
  generalize rowN a = k at h
  revert k
  decide +kernel
end
end Go.Proofs.YtidplckoolmaiaaDoor
