/- What is wrong with a constructor, an info, a global, an instruction at its place. -/
import Derived.Test.YtidplckoolmaiaaDoorCdl
namespace Go.Proofs.YtidplckoolmaiaaDoor
open Go.RowKit
set_option linter.unusedVariables false
set_option linter.unusedSimpArgs false

section
variable {w : World} {b : Nat} {c : Cd} {z : Int} {x : Ins} {vc vg vi vn vl vk vm va : Value}
theorem wrongCon_any (s : ByteArray) (a : Int) (w : World) : Calls Tryd.prog 20 #[.agg #[.string s, .int .i64 a]] w fun e w' => e = .returned (.int .i64 (wrongCon a)) ∧ Below w.heap.size w w' := by
  by_cases h1 : a < 0
  · have R : Hid (wrongCon a = 33) := ⟨by unfold wrongCon; rw [if_pos (Or.inl h1)]⟩
    rw [R.out]
    go_enter Tryd.func20, Tryd.ntmps20; go_wp2; go_ret; exact ⟨rfl, by go_grown⟩
  by_cases h2 : 8 < a
  · have R : Hid (wrongCon a = 33) := ⟨by unfold wrongCon; rw [if_pos (Or.inr h2)]⟩
    rw [R.out]
    go_enter Tryd.func20, Tryd.ntmps20; go_wp2; go_ret; exact ⟨rfl, by go_grown⟩
  have R : Hid (wrongCon a = 0) := ⟨by unfold wrongCon; rw [if_neg (by omega)]⟩
  rw [R.out]
  go_enter Tryd.func20, Tryd.ntmps20; go_wp2; go_ret; exact ⟨rfl, by go_grown⟩
set_option maxHeartbeats 1000000 in
theorem wrongGlo_any (V : Cv w c vc vg vi vn) (s : ByteArray) (g : Int) : Calls Tryd.prog 24 #[.agg #[vc, vg, vi, vn], .agg #[.string s, .int .i64 g]] w fun e w' => e = .returned (.int .i64 (wrongGlo c g)) ∧ Below w.heap.size w w' := by
  have HV := Hid.mk V
  obtain ⟨⟨gc, cc, rfl, _⟩, ⟨gg, cg, rfl, _⟩, ⟨gi, ci, rfl, _⟩, ⟨gn, cn, rfl, _⟩⟩ := V
  have CB := below_any g c.inf.length
  rcases Bool.eq_false_or_eq_true (belowI g c.inf.length) with q | q
  · obtain ⟨j, rfl, hj⟩ := below_nat q
    have R : Hid (wrongGlo c j = if ¬ (c.inf[j]'hj).f = 0 then 6 else 0) := ⟨by unfold wrongGlo; rw [if_neg (by rw [q]; simp), infA_at c j hj]⟩
    have B : Below w.heap.size w ((w.alloc (.cells #[.slice gc c.co.length cc, .slice gg c.gl.length cg, .slice gi c.inf.length ci, .slice gn c.ins.length cn] 27)).alloc (.cells #[.string s, .int .i64 j] 56)) := by go_grown
    obtain ⟨g', off, cap, cs, e, h1, h2, pc, hx⟩ := (HV.out.later B).inf.get j hj
    simp only [Value.slice.injEq] at e
    obtain ⟨rfl, _, rfl⟩ := e
    unfold isInf at pc
    subst pc
    have c2 := hx 2 _ rfl
    generalize c.inf[j]'hj = t at *
    rw [R.out]
    rw [q] at CB
    have hj' : (j : Int) < c.inf.length := by omega
    unfold maxLen at h2
    clear hx R B q HV
    by_cases h : t.f = 0
    · rw [if_neg (by simpa using h)]
      rw [h] at c2
      clear h
      go_enter Tryd.func24, Tryd.ntmps24
      go_wp2_with (go_at_call 11; refine (CB _).mono ?_; rintro e w' ⟨rfl, rfl⟩)
      go_ret
      exact ⟨rfl, by go_grown⟩
    · rw [if_pos h]
      go_enter Tryd.func24, Tryd.ntmps24
      go_wp2_with (go_at_call 11; refine (CB _).mono ?_; rintro e w' ⟨rfl, rfl⟩)
      go_ret
      exact ⟨rfl, by go_grown⟩
  · have R : Hid (wrongGlo c g = 4) := ⟨by unfold wrongGlo; rw [if_pos q]⟩
    rw [R.out]
    rw [q] at CB
    clear R q HV
    go_enter Tryd.func24, Tryd.ntmps24
    go_wp2_with (go_at_call 11; refine (CB _).mono ?_; rintro e w' ⟨rfl, rfl⟩)
    go_ret
    exact ⟨rfl, by go_grown⟩
theorem infoBad (f : Inf) (hk : f.k = 3 ∨ f.k = 6) (h : (f.k = 3 ∧ (f.a < 1 ∨ 8 < f.a)) ∨ (f.k = 6 ∧ ¬ f.a = 0) ∨ f.f < 0 ∨ 255 < f.f) : wrongInf c f = 33 := by
  unfold wrongInf; rw [if_neg (fun q => q hk), if_pos h]
set_option maxRecDepth 100000 in
set_option maxHeartbeats 2000000 in
theorem wrongInf_3 (V : Cv w c vc vg vi vn) (a f t : Int) : Calls Tryd.prog 22 #[.agg #[vc, vg, vi, vn], .agg #[.int .i64 3, .int .i64 a, .int .i64 f, .int .i64 t]] w fun e w' => e = .returned (.int .i64 (wrongInf c ⟨3, a, f, t⟩)) ∧ Below w.heap.size w w' := by
  have HV := Hid.mk V
  obtain ⟨⟨gc, cc, rfl, _⟩, ⟨gg, cg, rfl, _⟩, ⟨gi, ci, rfl, _⟩, ⟨gn, cn, rfl, _⟩⟩ := V
  have CB := below_any t c.ins.length
  by_cases a1 : a < 1
  · rw [infoBad ⟨3, a, f, t⟩ (by simp) (by simp; omega)]
    clear HV
    go_enter Tryd.func22, Tryd.ntmps22; go_wp2; go_ret; exact ⟨rfl, by go_grown⟩
  by_cases a2 : 8 < a
  · rw [infoBad ⟨3, a, f, t⟩ (by simp) (by simp; omega)]
    clear HV
    go_enter Tryd.func22, Tryd.ntmps22; go_wp2; go_ret; exact ⟨rfl, by go_grown⟩
  by_cases a3 : f < 0
  · rw [infoBad ⟨3, a, f, t⟩ (by simp) (by simp; omega)]
    clear HV
    go_enter Tryd.func22, Tryd.ntmps22; go_wp2; go_ret; exact ⟨rfl, by go_grown⟩
  by_cases a4 : 255 < f
  · rw [infoBad ⟨3, a, f, t⟩ (by simp) (by simp; omega)]
    clear HV
    go_enter Tryd.func22, Tryd.ntmps22; go_wp2; go_ret; exact ⟨rfl, by go_grown⟩
  have a1' : 1 ≤ a := by omega
  have a2' : a ≤ 8 := by omega
  have a3' : 0 ≤ f := by omega
  have a4' : f ≤ 255 := by omega
  have nb : ¬ (((3 : Int) = 6 → False) ∧ False) := by simp
  clear nb
  rcases Bool.eq_false_or_eq_true (belowI t c.ins.length) with q | q
  · obtain ⟨j, rfl, hj⟩ := below_nat q
    have R : Hid (wrongInf c ⟨3, a, f, j⟩ = if ¬ (c.ins[j]'hj).b = a + f then 7 else 0) := ⟨by unfold wrongInf; rw [if_neg (by simp), if_neg (by simp; omega), if_neg (by rw [q]; simp), insA_at c j hj]⟩
    have B : Below w.heap.size w ((w.alloc (.cells #[.slice gc c.co.length cc, .slice gg c.gl.length cg, .slice gi c.inf.length ci, .slice gn c.ins.length cn] 27)).alloc (.cells #[.int .i64 3, .int .i64 a, .int .i64 f, .int .i64 j] 48)) := by go_grown
    obtain ⟨g', off, cap, cs, e, h1, h2, pc, hx⟩ := (HV.out.later B).ins.get j hj
    simp only [Value.slice.injEq] at e
    obtain ⟨rfl, _, rfl⟩ := e
    obtain ⟨wl, wk, wm, wa, rfl, _⟩ := pc
    have c2 := hx 2 _ rfl
    generalize c.ins[j]'hj = t at *
    rw [R.out]
    rw [q] at CB
    have hj' : (j : Int) < c.ins.length := by omega
    unfold maxLen at h2
    clear hx R B q HV a1 a2 a3 a4
    by_cases h : t.b = a + f
    · rw [if_neg (by simpa using h)]
      have hd : (t.b != a + f) = false := by simpa using h
      generalize t.b = tb at *
      clear h
      go_enter Tryd.func22, Tryd.ntmps22
      go_wp2_with (go_at_call 11; refine (CB _).mono ?_; rintro e w' ⟨rfl, rfl⟩)
      go_quiet (fail)
      all_goals go_wp2
      all_goals go_ret
      all_goals exact ⟨rfl, below_drewN (by go_grown) _⟩
    · rw [if_pos h]
      have hd : (t.b != a + f) = true := by simpa using h
      generalize t.b = tb at *
      clear h
      go_enter Tryd.func22, Tryd.ntmps22
      go_wp2_with (go_at_call 11; refine (CB _).mono ?_; rintro e w' ⟨rfl, rfl⟩)
      go_quiet (fail)
      all_goals go_wp2
      all_goals go_ret
      all_goals exact ⟨rfl, below_drewN (by go_grown) _⟩
  · have R : Hid (wrongInf c ⟨3, a, f, t⟩ = 4) := ⟨by unfold wrongInf; rw [if_neg (by simp), if_neg (by simp; omega), if_pos q]⟩
    rw [R.out]
    rw [q] at CB
    clear R q HV a1 a2 a3 a4
    go_enter Tryd.func22, Tryd.ntmps22
    go_wp2_with (go_at_call 11; refine (CB _).mono ?_; rintro e w' ⟨rfl, rfl⟩)
    go_ret
    exact ⟨rfl, by go_grown⟩
set_option maxRecDepth 100000 in
set_option maxHeartbeats 2000000 in
theorem wrongInf_6 (V : Cv w c vc vg vi vn) (a f t : Int) : Calls Tryd.prog 22 #[.agg #[vc, vg, vi, vn], .agg #[.int .i64 6, .int .i64 a, .int .i64 f, .int .i64 t]] w fun e w' => e = .returned (.int .i64 (wrongInf c ⟨6, a, f, t⟩)) ∧ Below w.heap.size w w' := by
  have HV := Hid.mk V
  obtain ⟨⟨gc, cc, rfl, _⟩, ⟨gg, cg, rfl, _⟩, ⟨gi, ci, rfl, _⟩, ⟨gn, cn, rfl, _⟩⟩ := V
  have CB := below_any t c.ins.length
  by_cases a1 : a < 0
  · rw [infoBad ⟨6, a, f, t⟩ (by simp) (by simp; omega)]
    clear HV
    go_enter Tryd.func22, Tryd.ntmps22; go_wp2; go_ret; exact ⟨rfl, by go_grown⟩
  by_cases a2 : 0 < a
  · rw [infoBad ⟨6, a, f, t⟩ (by simp) (by simp; omega)]
    clear HV
    go_enter Tryd.func22, Tryd.ntmps22; go_wp2; go_ret; exact ⟨rfl, by go_grown⟩
  by_cases a3 : f < 0
  · rw [infoBad ⟨6, a, f, t⟩ (by simp) (by simp; omega)]
    clear HV
    go_enter Tryd.func22, Tryd.ntmps22; go_wp2; go_ret; exact ⟨rfl, by go_grown⟩
  by_cases a4 : 255 < f
  · rw [infoBad ⟨6, a, f, t⟩ (by simp) (by simp; omega)]
    clear HV
    go_enter Tryd.func22, Tryd.ntmps22; go_wp2; go_ret; exact ⟨rfl, by go_grown⟩
  have a1' : 0 ≤ a := by omega
  have a2' : a ≤ 0 := by omega
  have a3' : 0 ≤ f := by omega
  have a4' : f ≤ 255 := by omega
  have nb : ¬ (((3 : Int) = 6 → False) ∧ False) := by simp
  clear nb
  rcases Bool.eq_false_or_eq_true (belowI t c.ins.length) with q | q
  · obtain ⟨j, rfl, hj⟩ := below_nat q
    have R : Hid (wrongInf c ⟨6, a, f, j⟩ = if ¬ (c.ins[j]'hj).b = a + f then 7 else 0) := ⟨by unfold wrongInf; rw [if_neg (by simp), if_neg (by simp; omega), if_neg (by rw [q]; simp), insA_at c j hj]⟩
    have B : Below w.heap.size w ((w.alloc (.cells #[.slice gc c.co.length cc, .slice gg c.gl.length cg, .slice gi c.inf.length ci, .slice gn c.ins.length cn] 27)).alloc (.cells #[.int .i64 6, .int .i64 a, .int .i64 f, .int .i64 j] 48)) := by go_grown
    obtain ⟨g', off, cap, cs, e, h1, h2, pc, hx⟩ := (HV.out.later B).ins.get j hj
    simp only [Value.slice.injEq] at e
    obtain ⟨rfl, _, rfl⟩ := e
    obtain ⟨wl, wk, wm, wa, rfl, _⟩ := pc
    have c2 := hx 2 _ rfl
    generalize c.ins[j]'hj = t at *
    rw [R.out]
    rw [q] at CB
    have hj' : (j : Int) < c.ins.length := by omega
    unfold maxLen at h2
    clear hx R B q HV a1 a2 a3 a4
    by_cases h : t.b = a + f
    · rw [if_neg (by simpa using h)]
      have hd : (t.b != a + f) = false := by simpa using h
      generalize t.b = tb at *
      clear h
      go_enter Tryd.func22, Tryd.ntmps22
      go_wp2_with (go_at_call 11; refine (CB _).mono ?_; rintro e w' ⟨rfl, rfl⟩)
      go_quiet (fail)
      all_goals go_wp2
      all_goals go_ret
      all_goals exact ⟨rfl, below_drewN (by go_grown) _⟩
    · rw [if_pos h]
      have hd : (t.b != a + f) = true := by simpa using h
      generalize t.b = tb at *
      clear h
      go_enter Tryd.func22, Tryd.ntmps22
      go_wp2_with (go_at_call 11; refine (CB _).mono ?_; rintro e w' ⟨rfl, rfl⟩)
      go_quiet (fail)
      all_goals go_wp2
      all_goals go_ret
      all_goals exact ⟨rfl, below_drewN (by go_grown) _⟩
  · have R : Hid (wrongInf c ⟨6, a, f, t⟩ = 4) := ⟨by unfold wrongInf; rw [if_neg (by simp), if_neg (by simp; omega), if_pos q]⟩
    rw [R.out]
    rw [q] at CB
    clear R q HV a1 a2 a3 a4
    go_enter Tryd.func22, Tryd.ntmps22
    go_wp2_with (go_at_call 11; refine (CB _).mono ?_; rintro e w' ⟨rfl, rfl⟩)
    go_ret
    exact ⟨rfl, by go_grown⟩
set_option maxHeartbeats 1000000 in
theorem wrongInf_any (V : Cv w c vc vg vi vn) (f : Inf) : Calls Tryd.prog 22 #[.agg #[vc, vg, vi, vn], .agg #[.int .i64 f.k, .int .i64 f.a, .int .i64 f.f, .int .i64 f.t]] w fun e w' => e = .returned (.int .i64 (wrongInf c f)) ∧ Below w.heap.size w w' := by
  obtain ⟨k, a, f, t⟩ := f
  by_cases h3 : k = 3
  · subst h3; exact wrongInf_3 V a f t
  by_cases h6 : k = 6
  · subst h6; exact wrongInf_6 V a f t
  have R : Hid (wrongInf c ⟨k, a, f, t⟩ = 6) := ⟨by unfold wrongInf; rw [if_pos (by simp; omega)]⟩
  rw [R.out]
  obtain ⟨⟨gc, cc, rfl, _⟩, ⟨gg, cg, rfl, _⟩, ⟨gi, ci, rfl, _⟩, ⟨gn, cn, rfl, _⟩⟩ := V
  clear R
  dsimp only
  go_enter Tryd.func22, Tryd.ntmps22; go_wp2; go_ret; exact ⟨rfl, by go_grown⟩
end
end Go.Proofs.YtidplckoolmaiaaDoor
