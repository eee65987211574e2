/- The checker: what is named, whether there are places enough, where ways go. -/
import Derived.Test.YtidplckoolmaiaaDoorCdc
import Derived.Deep.RegionHeld3
namespace Go.Proofs.YtidplckoolmaiaaDoor
open Go.RowKit
set_option linter.unusedVariables false
set_option linter.unusedSimpArgs false

section
variable {w : World} {b : Nat} {c : Cd} {z : Int} {x : Ins} {vc vg vi vn vl vk vm va : Value}
theorem there_any (K : Ck w b z x vc vg vi vn vl vk vm va) (V : Cv w c vc vg vi vn) (y : Int × Int) : Calls Tryd.prog 54 #[ptr b, .agg #[.int .i64 y.1, .int .i64 y.2]] w fun e w' => e = .returned (.bool (thereI c y)) ∧ Below w.heap.size w w' := by
  have k3 := (K.later (w' := w.alloc (.cells #[.int .i64 y.1, .int .i64 y.2] 91)) (by go_grown)).c3
  obtain ⟨ga, cap, rfl, _⟩ := V.ins
  clear K V
  go_enter Tryd.func54, Tryd.ntmps54
  go_wp2
  go_quiet ((go_at_call 11; exact Calls.quiet_of_same (below_any _ _ _)))
  all_goals go_wp2
  all_goals go_ret
  all_goals exact ⟨rfl, below_drewN (by go_grown) _⟩
theorem insA_at (c : Cd) (j : Nat) (h : j < c.ins.length) : insA c j = c.ins[j]'h := by
  simp [insA, List.getD_eq_getElem?_getD, h]
theorem infA_at (c : Cd) (j : Nat) (h : j < c.inf.length) : infA c j = c.inf[j]'h := by
  simp [infA, List.getD_eq_getElem?_getD, h]
theorem coA_at (c : Cd) (j : Nat) (h : j < c.co.length) : coA c j = c.co[j]'h := by
  simp [coA, List.getD_eq_getElem?_getD, h]
theorem fits_any (K : Ck w b z x vc vg vi vn vl vk vm va) (V : Cv w c vc vg vi vn) (y : Int × Int) (hy : thereI c y = true) : Calls Tryd.prog 56 #[ptr b, .agg #[.int .i64 y.1, .int .i64 y.2]] w fun e w' => e = .returned (.bool (fitsI c y)) ∧ Below w.heap.size w w' := by
  have B : Below w.heap.size w (w.alloc (.cells #[.int .i64 y.1, .int .i64 y.2] 91)) := by go_grown
  have k3 := (K.later B).c3
  obtain ⟨y1, y2⟩ := y
  obtain ⟨j, rfl, hj⟩ := below_nat hy
  have R : Hid (fitsI c (↑j, y2) = ((c.ins[j]'hj).b == y2)) := ⟨by unfold fitsI; rw [insA_at c j hj]⟩
  obtain ⟨g, off, cap, cs, rfl, h1, h2, pc, hx⟩ := (V.later B).ins.get j hj
  obtain ⟨wl, wk, wm, wa, rfl, _⟩ := pc
  have c2 := hx 2 _ rfl
  generalize c.ins[j]'hj = t at *
  rw [R.out]
  have hj' : (j : Int) < c.ins.length := by omega
  unfold maxLen at h2
  clear K V hx R B hy
  dsimp only at k3 ⊢
  go_enter Tryd.func56, Tryd.ntmps56
  go_wp2
  go_quiet (fail)
  all_goals go_wp2
  all_goals go_ret
  all_goals exact ⟨rfl, below_drewN (by go_grown) _⟩
theorem fields_any (K : Ck w b z x vc vg vi vn vl vk vm va) (V : Cv w c vc vg vi vn) (a : Arm) (ha : armN c a = true) : Calls Tryd.prog 72 #[ptr b, .agg #[.int .i64 a.k, .int .i64 a.c, .int .i64 a.n, .int .i64 a.t]] w fun e w' => e = .returned (.int .i64 (fieldsI c a)) ∧ Below w.heap.size w w' := by
  obtain ⟨k, i, n, t⟩ := a
  by_cases hk : k = 1
  · subst hk
    have B : Below w.heap.size w (w.alloc (.cells #[.int .i64 1, .int .i64 i, .int .i64 n, .int .i64 t] 73)) := by go_grown
    have k0 := (K.later B).c0
    obtain ⟨j, rfl, hj⟩ := below_nat (by simpa [armN, conB] using ha)
    have R : Hid (fieldsI c ⟨1, ↑j, n, t⟩ = c.co[j]'hj) := ⟨by unfold fieldsI; rw [if_pos rfl, coA_at c j hj]⟩
    obtain ⟨g, off, cap, cs, rfl, h1, h2, pc, hx⟩ := (V.later B).co.get j hj
    obtain ⟨s, rfl⟩ := pc
    have c1 := hx 1 _ rfl
    generalize c.co[j]'hj = t at *
    rw [R.out]
    have hj' : (j : Int) < c.co.length := by omega
    unfold maxLen at h2
    clear K V hx R B ha
    dsimp only at k0 ⊢
    go_enter Tryd.func72, Tryd.ntmps72
    go_wp2
    go_quiet (fail)
    all_goals go_wp2
    all_goals go_ret
    all_goals exact ⟨rfl, below_drewN (by go_grown) _⟩
  · have R : Hid (fieldsI c ⟨k, i, n, t⟩ = 0) := ⟨by unfold fieldsI; rw [if_neg hk]⟩
    rw [R.out]
    clear R K V ha
    dsimp only
    go_enter Tryd.func72, Tryd.ntmps72
    go_wp2
    go_ret
    exact ⟨rfl, by go_grown⟩
end
end Go.Proofs.YtidplckoolmaiaaDoor
