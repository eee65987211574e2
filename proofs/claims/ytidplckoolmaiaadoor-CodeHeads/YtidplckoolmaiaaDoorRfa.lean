/- The document's own check: constructors, places, what a Make takes. -/
import Derived.Test.YtidplckoolmaiaaDoorCdm
namespace Go.Proofs.YtidplckoolmaiaaDoor
open Go.RowKit
set_option linter.unusedVariables false
set_option linter.unusedSimpArgs false

section
variable {w : World} {c : Cd} {vc vg vi vn : Value}
theorem rcon_any (V : Cv w c vc vg vi vn) (n : Int) : Calls Tryd.prog 45 #[.agg #[vc, vg, vi, vn], .int .i64 n] w fun e w' => e = .returned (.bool (conB c n)) ∧ Below w.heap.size w w' := by
  obtain ⟨⟨gc, cc, rfl, _⟩, ⟨gg, cg, rfl, _⟩, ⟨gi, ci, rfl, _⟩, ⟨gn, cn, rfl, _⟩⟩ := V
  by_cases h1 : 0 ≤ n
  · go_enter Tryd.func45, Tryd.ntmps45; go_wp2; go_ret; exact ⟨retBool (by simp [conB, belowI, *]), by go_grown⟩
  · go_enter Tryd.func45, Tryd.ntmps45; go_wp2; go_ret; exact ⟨retBool (by simp [conB, belowI]; omega), by go_grown⟩
theorem rthere_any (V : Cv w c vc vg vi vn) (n : Int) : Calls Tryd.prog 35 #[.agg #[vc, vg, vi, vn], .int .i64 n] w fun e w' => e = .returned (.bool (belowI n c.ins.length)) ∧ Below w.heap.size w w' := by
  obtain ⟨⟨gc, cc, rfl, _⟩, ⟨gg, cg, rfl, _⟩, ⟨gi, ci, rfl, _⟩, ⟨gn, cn, rfl, _⟩⟩ := V
  by_cases h1 : 0 ≤ n
  · go_enter Tryd.func35, Tryd.ntmps35; go_wp2; go_ret; exact ⟨retBool (by simp [belowI, *]), by go_grown⟩
  · go_enter Tryd.func35, Tryd.ntmps35; go_wp2; go_ret; exact ⟨retBool (by simp [belowI]; omega), by go_grown⟩
/-- how many places a Make takes -/
def takesI (c : Cd) (m : Mk) : Int :=
  if m.k = 2 then 0
  else if m.k = 7 then 1
  else if m.k = 1 then if conB c m.i = true then coA c m.i else -1
  else if (belowI m.i c.inf.length && ((infA c m.i).k == m.k)) = true then (infA c m.i).f else -1
set_option maxRecDepth 100000 in
set_option maxHeartbeats 2000000 in
theorem takes_any (V : Cv w c vc vg vi vn) (m : Mk) (vf : Value) (hf : Lst w 1 isInt m.fr vf) : Calls Tryd.prog 44 #[.agg #[vc, vg, vi, vn], .agg #[.int .i64 m.k, .int .i64 m.i, .int .i64 m.n, vf]] w fun e w' => e = .returned (.int .i64 (takesI c m)) ∧ Below w.heap.size w w' := by
  have HV := Hid.mk V
  obtain ⟨⟨gc, cc, rfl, _⟩, ⟨gg, cg, rfl, _⟩, ⟨gi, ci, rfl, _⟩, ⟨gn, cn, rfl, _⟩⟩ := V
  have hf0 := hf
  obtain ⟨gf, cf, rfl, _⟩ := hf
  obtain ⟨k, i, n, fr⟩ := m
  by_cases h2 : k = 2
  · subst h2
    have R : Hid (takesI c ⟨2, i, n, fr⟩ = 0) := ⟨by simp [takesI]⟩
    rw [R.out]
    clear HV R hf0
    dsimp only
    go_enter Tryd.func44, Tryd.ntmps44; go_wp2; go_ret; exact ⟨rfl, by go_grown⟩
  by_cases h7 : k = 7
  · subst h7
    have R : Hid (takesI c ⟨7, i, n, fr⟩ = 1) := ⟨by simp [takesI]⟩
    rw [R.out]
    clear HV R hf0
    dsimp only
    go_enter Tryd.func44, Tryd.ntmps44; go_wp2; go_ret; exact ⟨rfl, by go_grown⟩
  by_cases h1 : k = 1
  · subst h1
    have B : Below w.heap.size w ((w.alloc (.cells #[.slice gc c.co.length cc, .slice gg c.gl.length cg, .slice gi c.inf.length ci, .slice gn c.ins.length cn] 27)).alloc (.cells #[.int .i64 1, .int .i64 i, .int .i64 n, .slice gf fr.length cf] 30)) := by go_grown
    have C := rcon_any (HV.out.later B) i
    rcases Bool.eq_false_or_eq_true (conB c i) with q | q
    · obtain ⟨j, rfl, hj⟩ := below_nat (l := c.co.length) q
      have R : Hid (takesI c ⟨1, j, n, fr⟩ = c.co[j]'hj) := ⟨by simp [takesI, q, coA_at c j hj]⟩
      have HH : Hid (∀ W, Below ((w.alloc (.cells #[.slice gc c.co.length cc, .slice gg c.gl.length cg, .slice gi c.inf.length ci, .slice gn c.ins.length cn] 27)).alloc (.cells #[.int .i64 1, .int .i64 j, .int .i64 n, .slice gf fr.length cf] 30)).heap.size ((w.alloc (.cells #[.slice gc c.co.length cc, .slice gg c.gl.length cg, .slice gi c.inf.length ci, .slice gn c.ins.length cn] 27)).alloc (.cells #[.int .i64 1, .int .i64 j, .int .i64 n, .slice gf fr.length cf] 30)) W → ∃ g off, gc = some ⟨g, off, none⟩ ∧ W.cell? ⟨g, off + j * 2 + 1, none⟩ = some (.int .i64 (c.co[j]'hj))) := ⟨fun W hW => by
        obtain ⟨g, off, cap, cs, e, _, _, pc, hx⟩ := (HV.out.later (belowOn B hW)).co.get j hj
        simp only [Value.slice.injEq] at e
        obtain ⟨rfl, _, rfl⟩ := e
        obtain ⟨s, rfl⟩ := pc
        exact ⟨g, off, rfl, hx 1 _ rfl⟩⟩
      have h2' := HV.out.co.len
      unfold maxLen at h2'
      obtain ⟨g, off, rfl, _⟩ := HH.out _ (Below.refl _ _)
      have hj' : (j : Int) < c.co.length := by omega
      have k0 : ((w.alloc (.cells #[.slice (some ⟨g, off, none⟩) c.co.length cc, .slice gg c.gl.length cg, .slice gi c.inf.length ci, .slice gn c.ins.length cn] 27)).alloc (.cells #[.int .i64 1, .int .i64 j, .int .i64 n, .slice gf fr.length cf] 30)).cell? ⟨w.heap.size, 0, none⟩ = some (.slice (some ⟨g, off, none⟩) c.co.length cc) := cellLater (w := w.alloc _) (by go_grown) (cellNew _ _ _ _ _ rfl)
      have k1 : ((w.alloc (.cells #[.slice (some ⟨g, off, none⟩) c.co.length cc, .slice gg c.gl.length cg, .slice gi c.inf.length ci, .slice gn c.ins.length cn] 27)).alloc (.cells #[.int .i64 1, .int .i64 j, .int .i64 n, .slice gf fr.length cf] 30)).cell? ⟨w.heap.size + 1, 1, none⟩ = some (.int .i64 j) := by
        have := cellNew (w.alloc (.cells #[.slice (some ⟨g, off, none⟩) c.co.length cc, .slice gg c.gl.length cg, .slice gi c.inf.length ci, .slice gn c.ins.length cn] 27)) #[.int .i64 1, .int .i64 j, .int .i64 n, .slice gf fr.length cf] 30 1 _ rfl
        rwa [World.size_alloc] at this
      rw [R.out]
      rw [q] at C
      generalize c.co[j]'hj = t at *
      clear HV R hf0 B q
      dsimp only
      go_enter Tryd.func44, Tryd.ntmps44
      go_wp2_with (go_at_call 45; refine C.mono ?_; rintro e w3 ⟨rfl, B3⟩; obtain ⟨g', off', eg, cx⟩ := HH.out _ B3; cases eg; have p0 := cellLater B3 k0; have p1 := cellLater B3 k1; have HB := Hid.mk B3; clear B3)
      go_ret
      exact ⟨rfl, belowOn (by go_grown) HB.out⟩
    · have R : Hid (takesI c ⟨1, i, n, fr⟩ = -1) := ⟨by simp [takesI, q]⟩
      rw [R.out]
      rw [q] at C
      clear HV R hf0 B q
      dsimp only
      go_enter Tryd.func44, Tryd.ntmps44
      go_wp2_with (go_at_call 45; refine C.mono ?_; rintro e w3 ⟨rfl, B3⟩; have HB := Hid.mk B3; clear B3)
      go_ret
      exact ⟨rfl, belowOn (by go_grown) HB.out⟩
  have B : Below w.heap.size w ((w.alloc (.cells #[.slice gc c.co.length cc, .slice gg c.gl.length cg, .slice gi c.inf.length ci, .slice gn c.ins.length cn] 27)).alloc (.cells #[.int .i64 k, .int .i64 i, .int .i64 n, .slice gf fr.length cf] 30)) := by go_grown
  by_cases i0 : 0 ≤ i
  · have i0' : decide (0 ≤ i) = true := by simpa using i0
    by_cases i1 : i < c.inf.length
    · have i1' : decide (i < c.inf.length) = true := by simpa using i1
      obtain ⟨j, rfl⟩ : ∃ j : Nat, i = j := ⟨i.toNat, by omega⟩
      have hj : j < c.inf.length := by omega
      have hb : belowI (j : Int) c.inf.length = true := by simp [belowI]; omega
      obtain ⟨g, off, cap, cs, e, hh1, hh2, pc, hx⟩ := (HV.out.later B).inf.get j hj
      simp only [Value.slice.injEq] at e
      obtain ⟨rfl, _, rfl⟩ := e
      unfold isInf at pc
      subst pc
      have c0 : ((w.alloc (.cells #[.slice gc c.co.length cc, .slice gg c.gl.length cg, .slice (some ⟨g, off, none⟩) c.inf.length ci, .slice gn c.ins.length cn] 27)).alloc (.cells #[.int .i64 k, .int .i64 j, .int .i64 n, .slice gf fr.length cf] 30)).cell? ⟨g, off + j * 4, none⟩ = some (.int .i64 (c.inf[j]'hj).k) := hx 0 _ rfl
      have c2 : ((w.alloc (.cells #[.slice gc c.co.length cc, .slice gg c.gl.length cg, .slice (some ⟨g, off, none⟩) c.inf.length ci, .slice gn c.ins.length cn] 27)).alloc (.cells #[.int .i64 k, .int .i64 j, .int .i64 n, .slice gf fr.length cf] 30)).cell? ⟨g, off + j * 4 + 2, none⟩ = some (.int .i64 (c.inf[j]'hj).f) := hx 2 _ rfl
      have R : Hid (takesI c ⟨k, j, n, fr⟩ = if (c.inf[j]'hj).k = k then (c.inf[j]'hj).f else -1) := ⟨by simp [takesI, hb, infA_at c j hj, *]⟩
      unfold maxLen at hh2
      rw [R.out]
      generalize c.inf[j]'hj = t at *
      clear HV R hf0 B hx hb
      dsimp only
      by_cases q : t.k = k
      · rw [if_pos q]
        have q' : (t.k == k) = true := by simpa using q
        generalize t.k = tk at *
        clear q
        go_enter Tryd.func44, Tryd.ntmps44
        go_wp2
        go_quiet (fail)
        all_goals go_wp2
        all_goals go_ret
        all_goals exact ⟨rfl, below_drewN (by go_grown) _⟩
      · rw [if_neg q]
        have q' : (t.k == k) = false := by simpa using q
        go_enter Tryd.func44, Tryd.ntmps44
        go_wp2
        go_quiet (fail)
        all_goals go_wp2
        all_goals go_ret
        all_goals exact ⟨rfl, below_drewN (by go_grown) _⟩
    · have i1' : decide (i < c.inf.length) = false := by simpa using i1
      have R : Hid (takesI c ⟨k, i, n, fr⟩ = -1) := ⟨by simp [takesI, *, belowI, i1]⟩
      rw [R.out]
      clear HV R hf0 B
      dsimp only
      go_enter Tryd.func44, Tryd.ntmps44
      go_wp2
      go_quiet (fail)
      all_goals go_wp2
      all_goals go_ret
      all_goals exact ⟨rfl, below_drewN (by go_grown) _⟩
  · have i0' : decide (0 ≤ i) = false := by simpa using i0
    have R : Hid (takesI c ⟨k, i, n, fr⟩ = -1) := ⟨by simp [takesI, *, belowI, i0]⟩
    rw [R.out]
    clear HV R hf0 B
    dsimp only
    go_enter Tryd.func44, Tryd.ntmps44
    go_wp2
    go_quiet (fail)
    all_goals go_wp2
    all_goals go_ret
    all_goals exact ⟨rfl, below_drewN (by go_grown) _⟩
end
end Go.Proofs.YtidplckoolmaiaaDoor
