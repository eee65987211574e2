/- The checker: what a Make names, whether it has places enough, primitives, arms. -/
import Derived.Test.YtidplckoolmaiaaDoorCdd
namespace Go.Proofs.YtidplckoolmaiaaDoor
open Go.RowKit
set_option linter.unusedVariables false
set_option linter.unusedSimpArgs false

section
variable {w : World} {b : Nat} {c : Cd} {z : Int} {x : Ins} {vc vg vi vn vl vk vm va : Value}
theorem prim_any (T : Table w) (K : Ck w b z x vc vg vi vn vl vk vm va) : Calls Tryd.prog 50 #[ptr b] w fun e w' => e = .returned (.bool (primI x)) ∧ Below w.heap.size w w' := by
  have k5 := K.c5
  have k6 := K.c6
  have C := name_any x.a w T
  have HP := Hid.mk (prim_name x.a)
  clear K T
  by_cases h : x.op = 6
  · have R : Hid (primI x = primB x.a) := ⟨by unfold primI; rw [if_pos h]⟩
    rw [R.out]
    rw [h] at k5
    generalize str (tN (rowN x.a)) = s at *
    clear R h
    go_enter Tryd.func50, Tryd.ntmps50
    go_wp2_with (go_at_call 66; refine C.mono ?_; rintro e w' ⟨rfl, B⟩)
    go_ret
    exact ⟨retBool HP.out, B⟩
  · have R : Hid (primI x = true) := ⟨by unfold primI; rw [if_neg h]⟩
    rw [R.out]
    clear R C HP
    go_enter Tryd.func50, Tryd.ntmps50
    go_wp2
    go_ret
    exact ⟨rfl, Below.refl _ _⟩
theorem arms_any (K : Ck w b z x vc vg vi vn vl vk vm va) (V : Cv w c vc vg vi vn) (hx : x.op = 4 → belowI x.a c.ins.length = true) : Calls Tryd.prog 55 #[ptr b] w fun e w' => e = .returned (.bool (armsI c x)) ∧ Below w.heap.size w w' := by
  have k3 := K.c3
  have k5 := K.c5
  have k6 := K.c6
  by_cases h : x.op = 4
  · obtain ⟨j, e, hj⟩ := below_nat (hx h)
    have R : Hid (armsI c x = ((c.ins[j]'hj).op == 5)) := ⟨by unfold armsI; rw [if_pos h, e, insA_at c j hj]⟩
    obtain ⟨g, off, cap, cs, rfl, h1, h2, pc, hx⟩ := V.ins.get j hj
    obtain ⟨wl, wk, wm, wa, rfl, _⟩ := pc
    have c0 : w.cell? ⟨g, off + j * 7, none⟩ = some (.int .i64 (c.ins[j]'hj).op) := hx 0 _ rfl
    generalize c.ins[j]'hj = t at *
    rw [R.out]
    rw [h] at k5
    rw [e] at k6
    have hj' : (j : Int) < c.ins.length := by omega
    have hz : ((4 : Int) != 4) = false := rfl
    unfold maxLen at h2
    clear K V hx R h e
    go_enter Tryd.func55, Tryd.ntmps55
    go_wp2
    go_quiet (fail)
    all_goals go_wp2
    all_goals go_ret
    all_goals exact ⟨rfl, below_drewN (Below.refl _ _) _⟩
  · have R : Hid (armsI c x = true) := ⟨by unfold armsI; rw [if_neg h]⟩
    rw [R.out]
    have hz : (x.op != 4) = true := by simpa using h
    obtain ⟨ga, cap, rfl, _⟩ := V.ins
    clear R K V hx
    go_enter Tryd.func55, Tryd.ntmps55
    go_wp2
    go_quiet (fail)
    all_goals go_wp2
    all_goals go_ret
    all_goals exact ⟨rfl, below_drewN (Below.refl _ _) _⟩
set_option maxHeartbeats 1000000 in
theorem named_3 (K : Ck w b z x vc vg vi vn vl vk vm va) (V : Cv w c vc vg vi vn) (i n : Int) (fr : List Int) (vf : Value) (hf : Lst w 1 isInt fr vf) : Calls Tryd.prog 63 #[ptr b, .agg #[.int .i64 3, .int .i64 i, .int .i64 n, vf]] w fun e w' => e = .returned (.bool (namedI c ⟨3, i, n, fr⟩)) ∧ Below w.heap.size w w' := by
  obtain ⟨gf, cf, rfl, _⟩ := hf
  have B : Below w.heap.size w (w.alloc (.cells #[.int .i64 3, .int .i64 i, .int .i64 n, .slice gf fr.length cf] 30)) := by go_grown
  have k2 := (K.later B).c2
  have R : Hid (namedI c ⟨3, i, n, fr⟩ = (belowI i c.inf.length && ((infA c i).k == 3))) := ⟨by simp [namedI]⟩
  rw [R.out]
  clear R
  rcases Bool.eq_false_or_eq_true (belowI i c.inf.length) with q | q
  · obtain ⟨j, rfl, hj⟩ := below_nat q
    rw [infA_at c j hj, q]
    obtain ⟨g, off, cap, cs, rfl, h1, h2, pc, hx⟩ := (V.later B).inf.get j hj
    unfold isInf at pc
    subst pc
    have c0 : (w.alloc (.cells #[.int .i64 3, .int .i64 j, .int .i64 n, .slice gf fr.length cf] 30)).cell? ⟨g, off + j * 4, none⟩ = some (.int .i64 (c.inf[j]'hj).k) := hx 0 _ rfl
    generalize c.inf[j]'hj = t at *
    have hj' : (j : Int) < c.inf.length := by omega
    have CB := below_any j c.inf.length
    rw [q] at CB
    unfold maxLen at h2
    clear K V hx B q
    go_enter Tryd.func63, Tryd.ntmps63
    go_wp2
    go_quiet ((go_at_call 11; exact Calls.quiet_of_same (CB _)))
    all_goals go_wp2
    all_goals go_ret
    all_goals exact ⟨rfl, below_drewN (by go_grown) _⟩
  · rw [q]
    obtain ⟨ga, cap, rfl, _⟩ := V.inf
    have CB := below_any i c.inf.length
    rw [q] at CB
    clear K V B q
    go_enter Tryd.func63, Tryd.ntmps63
    go_wp2
    go_quiet ((go_at_call 11; exact Calls.quiet_of_same (CB _)))
    all_goals go_wp2
    all_goals go_ret
    all_goals exact ⟨rfl, below_drewN (by go_grown) _⟩
set_option maxHeartbeats 1000000 in
theorem named_6 (K : Ck w b z x vc vg vi vn vl vk vm va) (V : Cv w c vc vg vi vn) (i n : Int) (fr : List Int) (vf : Value) (hf : Lst w 1 isInt fr vf) : Calls Tryd.prog 63 #[ptr b, .agg #[.int .i64 6, .int .i64 i, .int .i64 n, vf]] w fun e w' => e = .returned (.bool (namedI c ⟨6, i, n, fr⟩)) ∧ Below w.heap.size w w' := by
  obtain ⟨gf, cf, rfl, _⟩ := hf
  have B : Below w.heap.size w (w.alloc (.cells #[.int .i64 6, .int .i64 i, .int .i64 n, .slice gf fr.length cf] 30)) := by go_grown
  have k2 := (K.later B).c2
  have R : Hid (namedI c ⟨6, i, n, fr⟩ = (belowI i c.inf.length && ((infA c i).k == 6))) := ⟨by simp [namedI]⟩
  rw [R.out]
  clear R
  rcases Bool.eq_false_or_eq_true (belowI i c.inf.length) with q | q
  · obtain ⟨j, rfl, hj⟩ := below_nat q
    rw [infA_at c j hj, q]
    obtain ⟨g, off, cap, cs, rfl, h1, h2, pc, hx⟩ := (V.later B).inf.get j hj
    unfold isInf at pc
    subst pc
    have c0 : (w.alloc (.cells #[.int .i64 6, .int .i64 j, .int .i64 n, .slice gf fr.length cf] 30)).cell? ⟨g, off + j * 4, none⟩ = some (.int .i64 (c.inf[j]'hj).k) := hx 0 _ rfl
    generalize c.inf[j]'hj = t at *
    have hj' : (j : Int) < c.inf.length := by omega
    have CB := below_any j c.inf.length
    rw [q] at CB
    unfold maxLen at h2
    clear K V hx B q
    go_enter Tryd.func63, Tryd.ntmps63
    go_wp2
    go_quiet ((go_at_call 11; exact Calls.quiet_of_same (CB _)))
    all_goals go_wp2
    all_goals go_ret
    all_goals exact ⟨rfl, below_drewN (by go_grown) _⟩
  · rw [q]
    obtain ⟨ga, cap, rfl, _⟩ := V.inf
    have CB := below_any i c.inf.length
    rw [q] at CB
    clear K V B q
    go_enter Tryd.func63, Tryd.ntmps63
    go_wp2
    go_quiet ((go_at_call 11; exact Calls.quiet_of_same (CB _)))
    all_goals go_wp2
    all_goals go_ret
    all_goals exact ⟨rfl, below_drewN (by go_grown) _⟩
set_option maxHeartbeats 1000000 in
theorem named_1 (K : Ck w b z x vc vg vi vn vl vk vm va) (V : Cv w c vc vg vi vn) (i n : Int) (fr : List Int) (vf : Value) (hf : Lst w 1 isInt fr vf) : Calls Tryd.prog 63 #[ptr b, .agg #[.int .i64 1, .int .i64 i, .int .i64 n, vf]] w fun e w' => e = .returned (.bool (namedI c ⟨1, i, n, fr⟩)) ∧ Below w.heap.size w w' := by
  obtain ⟨gf, cf, rfl, _⟩ := hf
  have B : Below w.heap.size w (w.alloc (.cells #[.int .i64 1, .int .i64 i, .int .i64 n, .slice gf fr.length cf] 30)) := by go_grown
  have C := con_any (K.later B) (V.later B) i
  clear K V B
  go_enter Tryd.func63, Tryd.ntmps63
  go_wp2_with (go_at_call 65; refine C.mono ?_; rintro e w' ⟨rfl, rfl⟩)
  go_ret
  exact ⟨rfl, by go_grown⟩
set_option maxHeartbeats 1000000 in
theorem named_7 (K : Ck w b z x vc vg vi vn vl vk vm va) (V : Cv w c vc vg vi vn) (i n : Int) (fr : List Int) (vf : Value) (hf : Lst w 1 isInt fr vf) : Calls Tryd.prog 63 #[ptr b, .agg #[.int .i64 7, .int .i64 i, .int .i64 n, vf]] w fun e w' => e = .returned (.bool (namedI c ⟨7, i, n, fr⟩)) ∧ Below w.heap.size w w' := by
  obtain ⟨gf, cf, rfl, _⟩ := hf
  have B : ∀ d, Below w.heap.size w ((w.alloc (.cells #[.int .i64 7, .int .i64 i, .int .i64 n, .slice gf fr.length cf] 30)).drewN d) := fun d => below_drewN (by go_grown) d
  have k0 := (K.later (B 0)).c0
  have R : Hid (namedI c ⟨7, i, n, fr⟩ = (conB c i && (decide (0 ≤ n) && decide (n < coA c i)))) := ⟨by simp [namedI]⟩
  rw [R.out]
  clear R
  have C : ∀ d, Calls Tryd.prog 65 #[ptr b, .int .i64 i] ((w.alloc (.cells #[.int .i64 7, .int .i64 i, .int .i64 n, .slice gf fr.length cf] 30)).drewN d) fun e w' => e = .returned (.bool (conB c i)) ∧ w' = ((w.alloc (.cells #[.int .i64 7, .int .i64 i, .int .i64 n, .slice gf fr.length cf] 30)).drewN d) := fun d => con_any (K.later (B d)) (V.later (B d)) i
  have k0 : (w.alloc (.cells #[.int .i64 7, .int .i64 i, .int .i64 n, .slice gf fr.length cf] 30)).cell? ⟨b, 0, none⟩ = some vc := k0
  rcases Bool.eq_false_or_eq_true (conB c i) with q | q
  · obtain ⟨j, rfl, hj⟩ := below_nat q
    rw [coA_at c j hj, q]
    obtain ⟨g, off, cap, cs, rfl, h1, h2, pc, hx⟩ := (V.later (B 0)).co.get j hj
    obtain ⟨s, rfl⟩ := pc
    have c1 : (w.alloc (.cells #[.int .i64 7, .int .i64 j, .int .i64 n, .slice gf fr.length cf] 30)).cell? ⟨g, off + j * 2 + 1, none⟩ = some (.int .i64 (c.co[j]'hj)) := hx 1 _ rfl
    generalize c.co[j]'hj = t at *
    have hj' : (j : Int) < c.co.length := by omega
    rw [q] at C
    unfold maxLen at h2
    clear K V hx B q
    by_cases hn : 0 ≤ n
    · have hd : decide (0 ≤ n) = true := by simpa using hn
      go_enter Tryd.func63, Tryd.ntmps63
      go_wp2
      go_quiet ((go_at_call 65; exact Calls.quiet_of_same (C _)))
      all_goals go_wp2
      all_goals go_ret
      all_goals exact ⟨retBool (by simp [hn]), below_drewN (by go_grown) _⟩
    · have hd : decide (0 ≤ n) = false := by simpa using hn
      go_enter Tryd.func63, Tryd.ntmps63
      go_wp2
      go_quiet ((go_at_call 65; exact Calls.quiet_of_same (C _)))
      all_goals go_wp2
      all_goals go_ret
      all_goals exact ⟨retBool (by simp; intros; omega), below_drewN (by go_grown) _⟩
  · rw [q]
    obtain ⟨ga, cap, rfl, _⟩ := V.co
    rw [q] at C
    clear K V B q
    go_enter Tryd.func63, Tryd.ntmps63
    go_wp2
    go_quiet ((go_at_call 65; exact Calls.quiet_of_same (C _)))
    all_goals go_wp2
    all_goals go_ret
    all_goals exact ⟨rfl, below_drewN (by go_grown) _⟩
set_option maxHeartbeats 1000000 in
theorem named_any (K : Ck w b z x vc vg vi vn vl vk vm va) (V : Cv w c vc vg vi vn) (m : Mk) (vf : Value) (hf : Lst w 1 isInt m.fr vf) : Calls Tryd.prog 63 #[ptr b, .agg #[.int .i64 m.k, .int .i64 m.i, .int .i64 m.n, vf]] w fun e w' => e = .returned (.bool (namedI c m)) ∧ Below w.heap.size w w' := by
  obtain ⟨k, i, n, fr⟩ := m
  by_cases h1 : k = 1
  · subst h1; exact named_1 K V i n fr vf hf
  by_cases h3 : k = 3
  · subst h3; exact named_3 K V i n fr vf hf
  by_cases h6 : k = 6
  · subst h6; exact named_6 K V i n fr vf hf
  by_cases h7 : k = 7
  · subst h7; exact named_7 K V i n fr vf hf
  have R : Hid (namedI c ⟨k, i, n, fr⟩ = true) := ⟨by simp [namedI, *]⟩
  rw [R.out]
  obtain ⟨gf, cf, rfl, _⟩ := hf
  clear R K V
  dsimp only
  go_enter Tryd.func63, Tryd.ntmps63
  go_wp2
  go_ret
  exact ⟨rfl, by go_grown⟩
end
end Go.Proofs.YtidplckoolmaiaaDoor
