/- The checker: whether a Make has places enough. -/
import Derived.Test.YtidplckoolmaiaaDoorCde
namespace Go.Proofs.YtidplckoolmaiaaDoor
open Go.RowKit
set_option linter.unusedVariables false
set_option linter.unusedSimpArgs false

section
theorem cell_new (w : World) (cs : Array Value) (t : TypeId) (o : Nat) (u : Value) (h : cs[o]? = some u) : (w.alloc (.cells cs t)).cell? ⟨w.heap.size, o, none⟩ = some u := by
  simp only [World.cell?, heap_alloc_new]
  exact h
variable {w : World} {b : Nat} {c : Cd} {z : Int} {x : Ins} {vc vg vi vn vl vk vm va : Value}
set_option maxHeartbeats 1000000 in
theorem enough_1 (K : Ck w b z x vc vg vi vn vl vk vm va) (V : Cv w c vc vg vi vn) (i n : Int) (fr : List Int) (vf : Value) (hf : Lst w 1 isInt fr vf) : Calls Tryd.prog 61 #[ptr b, .agg #[.int .i64 1, .int .i64 i, .int .i64 n, vf]] w fun e w' => e = .returned (.bool (enoughI c ⟨1, i, n, fr⟩)) ∧ Below w.heap.size w w' := by
  have HF := Hid.mk hf
  obtain ⟨gf, cf, rfl, _⟩ := hf
  have B : ∀ d, Below w.heap.size w ((w.alloc (.cells #[.int .i64 1, .int .i64 i, .int .i64 n, .slice gf fr.length cf] 30)).drewN d) := fun d => below_drewN (by go_grown) d
  have R : Hid (enoughI c ⟨1, i, n, fr⟩ = (!namedI c ⟨1, i, n, fr⟩ || ((fr.length : Int) == coA c i))) := ⟨by simp [enoughI]⟩
  rw [R.out]
  clear R
  have C : ∀ d, Calls Tryd.prog 63 #[ptr b, .agg #[.int .i64 1, .int .i64 i, .int .i64 n, .slice gf fr.length cf]] ((w.alloc (.cells #[.int .i64 1, .int .i64 i, .int .i64 n, .slice gf fr.length cf] 30)).drewN d) fun e w' => e = .returned (.bool (namedI c ⟨1, i, n, fr⟩)) ∧ Below ((w.alloc (.cells #[.int .i64 1, .int .i64 i, .int .i64 n, .slice gf fr.length cf] 30)).drewN d).heap.size ((w.alloc (.cells #[.int .i64 1, .int .i64 i, .int .i64 n, .slice gf fr.length cf] 30)).drewN d) w' := fun d => named_any (K.later (B d)) (V.later (B d)) ⟨1, i, n, fr⟩ _ (HF.out.later (B d) fun _ _ h => h)
  rcases Bool.eq_false_or_eq_true (namedI c ⟨1, i, n, fr⟩) with q | q
  · obtain ⟨j, rfl, hj⟩ := below_nat (l := c.co.length) (by simpa [namedI, conB] using q)
    rw [coA_at c j hj, q]
    have k0 := (K.later (B 0)).c0
    obtain ⟨g, off, cap, cs, rfl, h1, h2, pc, hx⟩ := (V.later (B 0)).co.get j hj
    obtain ⟨s, rfl⟩ := pc
    have c1 : (w.alloc (.cells #[.int .i64 1, .int .i64 j, .int .i64 n, .slice gf fr.length cf] 30)).cell? ⟨g, off + j * 2 + 1, none⟩ = some (.int .i64 (c.co[j]'hj)) := hx 1 _ rfl
    have k0 : (w.alloc (.cells #[.int .i64 1, .int .i64 j, .int .i64 n, .slice gf fr.length cf] 30)).cell? ⟨b, 0, none⟩ = some (.slice (some ⟨g, off, none⟩) c.co.length cap) := k0
    generalize c.co[j]'hj = t at *
    have hj' : (j : Int) < c.co.length := by omega
    rw [q] at C
    unfold maxLen at h2
    have b1 : (w.alloc (.cells #[.int .i64 1, .int .i64 j, .int .i64 n, .slice gf fr.length cf] 30)).cell? ⟨w.heap.size, 1, none⟩ = some (.int .i64 j) := cell_new _ _ _ _ _ rfl
    have b0 : (w.alloc (.cells #[.int .i64 1, .int .i64 j, .int .i64 n, .slice gf fr.length cf] 30)).cell? ⟨w.heap.size, 0, none⟩ = some (.int .i64 1) := cell_new _ _ _ _ _ rfl
    have b2 : (w.alloc (.cells #[.int .i64 1, .int .i64 j, .int .i64 n, .slice gf fr.length cf] 30)).cell? ⟨w.heap.size, 2, none⟩ = some (.int .i64 n) := cell_new _ _ _ _ _ rfl
    have b3 : (w.alloc (.cells #[.int .i64 1, .int .i64 j, .int .i64 n, .slice gf fr.length cf] 30)).cell? ⟨w.heap.size, 3, none⟩ = some (.slice gf fr.length cf) := cell_new _ _ _ _ _ rfl
    have HS : Hid (∀ d w3, Below ((w.alloc (.cells #[.int .i64 1, .int .i64 j, .int .i64 n, .slice gf fr.length cf] 30)).drewN d).heap.size ((w.alloc (.cells #[.int .i64 1, .int .i64 j, .int .i64 n, .slice gf fr.length cf] 30)).drewN d) w3 → w3.cell? ⟨g, off + j * 2 + 1, none⟩ = some (.int .i64 t) ∧ w3.cell? ⟨b, 0, none⟩ = some (.slice (some ⟨g, off, none⟩) c.co.length cap) ∧ w3.cell? ⟨w.heap.size, 0, none⟩ = some (.int .i64 1) ∧ w3.cell? ⟨w.heap.size, 1, none⟩ = some (.int .i64 j) ∧ w3.cell? ⟨w.heap.size, 2, none⟩ = some (.int .i64 n) ∧ w3.cell? ⟨w.heap.size, 3, none⟩ = some (.slice gf fr.length cf)) := by
      refine ⟨fun d w3 h => ?_⟩
      have h' : Below (w.alloc (.cells #[.int .i64 1, .int .i64 j, .int .i64 n, .slice gf fr.length cf] 30)).heap.size (w.alloc (.cells #[.int .i64 1, .int .i64 j, .int .i64 n, .slice gf fr.length cf] 30)) w3 := (below_drewN (Below.refl _ _) d).trans h
      have kk : ∀ p o u, (w.alloc (.cells #[.int .i64 1, .int .i64 j, .int .i64 n, .slice gf fr.length cf] 30)).cell? ⟨p, o, none⟩ = some u → w3.cell? ⟨p, o, none⟩ = some u := fun p o u e => (h'.cell (p := ⟨p, o, none⟩) (World.block_lt_of_cell? _ _ e)).trans e
      exact ⟨kk _ _ _ c1, kk _ _ _ k0, kk _ _ _ b0, kk _ _ _ b1, kk _ _ _ b2, kk _ _ _ b3⟩
    clear K V hx B q HF b0 b1 b2 b3
    go_enter Tryd.func61, Tryd.ntmps61
    go_wp2
    go_region_held3 (fun w' => w'.cell? ⟨g, off + j * 2 + 1, none⟩ = some (.int .i64 t) ∧ w'.cell? ⟨b, 0, none⟩ = some (.slice (some ⟨g, off, none⟩) c.co.length cap) ∧ w'.cell? ⟨w.heap.size, 0, none⟩ = some (.int .i64 1) ∧ w'.cell? ⟨w.heap.size, 1, none⟩ = some (.int .i64 j) ∧ w'.cell? ⟨w.heap.size, 2, none⟩ = some (.int .i64 n) ∧ w'.cell? ⟨w.heap.size, 3, none⟩ = some (.slice gf fr.length cf)) (go_keep) (first | (go_at_call 63; refine (C 1).mono ?_; rintro e w3 ⟨rfl, B3⟩; obtain ⟨s1, s2, s3, s4, s5, s6⟩ := HS.out _ _ B3; have HB := Hid.mk B3; clear B3))
    all_goals go_wp2
    all_goals go_ret
    all_goals exact ⟨rfl, belowOn (below_drewN (by go_grown) 1) HB.out⟩
  · rw [q]
    rw [q] at C
    have HS : Hid (∀ d w3, Below ((w.alloc (.cells #[.int .i64 1, .int .i64 i, .int .i64 n, .slice gf fr.length cf] 30)).drewN d).heap.size ((w.alloc (.cells #[.int .i64 1, .int .i64 i, .int .i64 n, .slice gf fr.length cf] 30)).drewN d) w3 → w3.cell? ⟨w.heap.size, 0, none⟩ = some (.int .i64 1) ∧ w3.cell? ⟨w.heap.size, 1, none⟩ = some (.int .i64 i) ∧ w3.cell? ⟨w.heap.size, 2, none⟩ = some (.int .i64 n) ∧ w3.cell? ⟨w.heap.size, 3, none⟩ = some (.slice gf fr.length cf)) := by
      refine ⟨fun d w3 h => ?_⟩
      have h' : Below (w.alloc (.cells #[.int .i64 1, .int .i64 i, .int .i64 n, .slice gf fr.length cf] 30)).heap.size (w.alloc (.cells #[.int .i64 1, .int .i64 i, .int .i64 n, .slice gf fr.length cf] 30)) w3 := (below_drewN (Below.refl _ _) d).trans h
      have kk : ∀ p o u, (w.alloc (.cells #[.int .i64 1, .int .i64 i, .int .i64 n, .slice gf fr.length cf] 30)).cell? ⟨p, o, none⟩ = some u → w3.cell? ⟨p, o, none⟩ = some u := fun p o u e => (h'.cell (p := ⟨p, o, none⟩) (World.block_lt_of_cell? _ _ e)).trans e
      exact ⟨kk _ _ _ (cell_new _ _ _ _ _ rfl), kk _ _ _ (cell_new _ _ _ _ _ rfl), kk _ _ _ (cell_new _ _ _ _ _ rfl), kk _ _ _ (cell_new _ _ _ _ _ rfl)⟩
    clear K V B q HF
    go_enter Tryd.func61, Tryd.ntmps61
    go_wp2
    refine wp_region_held_drew (S := (fun w' => w'.cell? ⟨w.heap.size, 0, none⟩ = some (.int .i64 1) ∧ w'.cell? ⟨w.heap.size, 1, none⟩ = some (.int .i64 i) ∧ w'.cell? ⟨w.heap.size, 2, none⟩ = some (.int .i64 n) ∧ w'.cell? ⟨w.heap.size, 3, none⟩ = some (.slice gf fr.length cf))) (by kernel_rfl) ?_ (fun hHeld => ?_)
    · try dsimp only
      go_keep
    refine wpAnyH_take (i := 0) (v := ?_) rfl (by kernel_rfl) (by kernel_rfl) (by kernel_rfl) (fun _ _ _ h => h) (Or.inl ⟨by rfl, ?_⟩) (by assumption) ?_
    rotate_left
    · intro w' hSw
      try dsimp only at hSw
      go_simp
      try with_reducible rfl
    try simp only [Act.put, List.getElem_toArray, List.getElem_cons_zero, List.getElem_cons_succ, List.setIfInBounds_toArray, List.set_cons_zero, List.set_cons_succ]
    refine wpAnyH_take (i := 1) (v := ?_) rfl (by kernel_rfl) (by kernel_rfl) (by kernel_rfl) (fun _ _ _ h => h) (Or.inl ⟨by rfl, ?_⟩) (by assumption) ?_
    rotate_left
    · intro w' hSw
      try dsimp only at hSw
      go_simp
      try with_reducible rfl
    try simp only [Act.put, List.getElem_toArray, List.getElem_cons_zero, List.getElem_cons_succ, List.setIfInBounds_toArray, List.set_cons_zero, List.set_cons_succ]
    refine wpAnyH_ready (rs := [2]) (by kernel_rfl) (by simp) ?_
    refine AllReadyH.cons rfl (fun K hK => ?_) ?_
    · go_simp
      (go_at_call 63; refine (C 1).mono ?_; rintro e w3 ⟨rfl, B3⟩; obtain ⟨s3, s4, s5, s6⟩ := HS.out _ _ B3; have HB := Hid.mk B3; clear B3)
      try go_wp2_with fail
      refine hK.out _ _ ?_ (fun hHeld => ?_)
      · try dsimp only
        go_keep
      clear hK K
      try simp only [Act.put, List.getElem_toArray, List.getElem_cons_zero, List.getElem_cons_succ, List.setIfInBounds_toArray, List.set_cons_zero, List.set_cons_succ]
      refine wpAnyH_take (i := 3) (v := ?_) rfl (by kernel_rfl) (by kernel_rfl) (by kernel_rfl) (fun _ _ _ h => h) (Or.inl ⟨by rfl, ?_⟩) (by assumption) ?_
      rotate_left
      · intro w' hSw
        try dsimp only at hSw
        go_simp
        try with_reducible rfl
      try simp only [Act.put, List.getElem_toArray, List.getElem_cons_zero, List.getElem_cons_succ, List.setIfInBounds_toArray, List.set_cons_zero, List.set_cons_succ]
      refine wpAnyH_take (i := 4) (v := ?_) rfl (by kernel_rfl) (by kernel_rfl) (by kernel_rfl) (fun _ _ _ h => h) (Or.inl ⟨by rfl, ?_⟩) (by assumption) ?_
      rotate_left
      · intro w' hSw
        try dsimp only at hSw
        go_simp
        try with_reducible rfl
      try simp only [Act.put, List.getElem_toArray, List.getElem_cons_zero, List.getElem_cons_succ, List.setIfInBounds_toArray, List.set_cons_zero, List.set_cons_succ]
      refine wpAnyH_take (i := 5) (v := undef) rfl (by kernel_rfl) (by kernel_rfl) (by kernel_rfl) (fun _ _ _ h => h) (Or.inr ⟨by rfl, rfl⟩) (by assumption) ?_
      try simp only [Act.put, List.getElem_toArray, List.getElem_cons_zero, List.getElem_cons_succ, List.setIfInBounds_toArray, List.set_cons_zero, List.set_cons_succ]
      refine wpAnyH_take (i := 6) (v := undef) rfl (by kernel_rfl) (by kernel_rfl) (by kernel_rfl) (fun _ _ _ h => h) (Or.inr ⟨by rfl, rfl⟩) (by assumption) ?_
      try simp only [Act.put, List.getElem_toArray, List.getElem_cons_zero, List.getElem_cons_succ, List.setIfInBounds_toArray, List.set_cons_zero, List.set_cons_succ]
      refine wpAnyH_take (i := 7) (v := undef) rfl (by kernel_rfl) (by kernel_rfl) (by kernel_rfl) (fun _ _ _ h => h) (Or.inr ⟨by rfl, rfl⟩) (by assumption) ?_
      try simp only [Act.put, List.getElem_toArray, List.getElem_cons_zero, List.getElem_cons_succ, List.setIfInBounds_toArray, List.set_cons_zero, List.set_cons_succ]
      refine wpAnyH_take (i := 8) (v := undef) rfl (by kernel_rfl) (by kernel_rfl) (by kernel_rfl) (fun _ _ _ h => h) (Or.inr ⟨by rfl, rfl⟩) (by assumption) ?_
      try simp only [Act.put, List.getElem_toArray, List.getElem_cons_zero, List.getElem_cons_succ, List.setIfInBounds_toArray, List.set_cons_zero, List.set_cons_succ]
      refine wpAnyH_take (i := 9) (v := undef) rfl (by kernel_rfl) (by kernel_rfl) (by kernel_rfl) (fun _ _ _ h => h) (Or.inr ⟨by rfl, rfl⟩) (by assumption) ?_
      try simp only [Act.put, List.getElem_toArray, List.getElem_cons_zero, List.getElem_cons_succ, List.setIfInBounds_toArray, List.set_cons_zero, List.set_cons_succ]
      refine wpAnyH_take (i := 10) (v := undef) rfl (by kernel_rfl) (by kernel_rfl) (by kernel_rfl) (fun _ _ _ h => h) (Or.inr ⟨by rfl, rfl⟩) (by assumption) ?_
      try simp only [Act.put, List.getElem_toArray, List.getElem_cons_zero, List.getElem_cons_succ, List.setIfInBounds_toArray, List.set_cons_zero, List.set_cons_succ]
      refine wpAnyH_take (i := 11) (v := undef) rfl (by kernel_rfl) (by kernel_rfl) (by kernel_rfl) (fun _ _ _ h => h) (Or.inr ⟨by rfl, rfl⟩) (by assumption) ?_
      try simp only [Act.put, List.getElem_toArray, List.getElem_cons_zero, List.getElem_cons_succ, List.setIfInBounds_toArray, List.set_cons_zero, List.set_cons_succ]
      refine wpAnyH_take (i := 12) (v := undef) rfl (by kernel_rfl) (by kernel_rfl) (by kernel_rfl) (fun _ _ _ h => h) (Or.inr ⟨by rfl, rfl⟩) (by assumption) ?_
      try simp only [Act.put, List.getElem_toArray, List.getElem_cons_zero, List.getElem_cons_succ, List.setIfInBounds_toArray, List.set_cons_zero, List.set_cons_succ]
      refine wpAnyH_take (i := 13) (v := undef) rfl (by kernel_rfl) (by kernel_rfl) (by kernel_rfl) (fun _ _ _ h => h) (Or.inr ⟨by rfl, rfl⟩) (by assumption) ?_
      try simp only [Act.put, List.getElem_toArray, List.getElem_cons_zero, List.getElem_cons_succ, List.setIfInBounds_toArray, List.set_cons_zero, List.set_cons_succ]
      refine wpAnyH_take (i := 14) (v := undef) rfl (by kernel_rfl) (by kernel_rfl) (by kernel_rfl) (fun _ _ _ h => h) (Or.inr ⟨by rfl, rfl⟩) (by assumption) ?_
      try simp only [Act.put, List.getElem_toArray, List.getElem_cons_zero, List.getElem_cons_succ, List.setIfInBounds_toArray, List.set_cons_zero, List.set_cons_succ]
      refine wpAnyH_take (i := 15) (v := undef) rfl (by kernel_rfl) (by kernel_rfl) (by kernel_rfl) (fun _ _ _ h => h) (Or.inr ⟨by rfl, rfl⟩) (by assumption) ?_
      try simp only [Act.put, List.getElem_toArray, List.getElem_cons_zero, List.getElem_cons_succ, List.setIfInBounds_toArray, List.set_cons_zero, List.set_cons_succ]
      refine wpAnyH_take (i := 16) (v := undef) rfl (by kernel_rfl) (by kernel_rfl) (by kernel_rfl) (fun _ _ _ h => h) (Or.inr ⟨by rfl, rfl⟩) (by assumption) ?_
      try simp only [Act.put, List.getElem_toArray, List.getElem_cons_zero, List.getElem_cons_succ, List.setIfInBounds_toArray, List.set_cons_zero, List.set_cons_succ]
      refine wpAnyH_take (i := 17) (v := undef) rfl (by kernel_rfl) (by kernel_rfl) (by kernel_rfl) (fun _ _ _ h => h) (Or.inr ⟨by rfl, rfl⟩) (by assumption) ?_
      try simp only [Act.put, List.getElem_toArray, List.getElem_cons_zero, List.getElem_cons_succ, List.setIfInBounds_toArray, List.set_cons_zero, List.set_cons_succ]
      refine wpAnyH_take (i := 18) (v := undef) rfl (by kernel_rfl) (by kernel_rfl) (by kernel_rfl) (fun _ _ _ h => h) (Or.inr ⟨by rfl, rfl⟩) (by assumption) ?_
      try simp only [Act.put, List.getElem_toArray, List.getElem_cons_zero, List.getElem_cons_succ, List.setIfInBounds_toArray, List.set_cons_zero, List.set_cons_succ]
      refine wpAnyH_take (i := 19) (v := ?_) rfl (by kernel_rfl) (by kernel_rfl) (by kernel_rfl) (fun _ _ _ h => h) (Or.inl ⟨by rfl, ?_⟩) (by assumption) ?_
      rotate_left
      · intro w' hSw
        try dsimp only at hSw
        go_simp
        try with_reducible rfl
      try simp only [Act.put, List.getElem_toArray, List.getElem_cons_zero, List.getElem_cons_succ, List.setIfInBounds_toArray, List.set_cons_zero, List.set_cons_succ]
      refine wpAnyH_take (i := 20) (v := ?_) rfl (by kernel_rfl) (by kernel_rfl) (by kernel_rfl) (fun _ _ _ h => h) (Or.inl ⟨by rfl, ?_⟩) (by assumption) ?_
      rotate_left
      · intro w' hSw
        try dsimp only at hSw
        go_simp
        try with_reducible rfl
      try simp only [Act.put, List.getElem_toArray, List.getElem_cons_zero, List.getElem_cons_succ, List.setIfInBounds_toArray, List.set_cons_zero, List.set_cons_succ]
      refine wpAnyH_done (by kernel_rfl) ?_ _
      go_wp2
      go_ret
      exact ⟨rfl, belowOn (below_drewN (by go_grown) 1) HB.out⟩
    exact AllReadyH.nil
set_option maxHeartbeats 1000000 in
theorem enough_3 (K : Ck w b z x vc vg vi vn vl vk vm va) (V : Cv w c vc vg vi vn) (i n : Int) (fr : List Int) (vf : Value) (hf : Lst w 1 isInt fr vf) : Calls Tryd.prog 61 #[ptr b, .agg #[.int .i64 3, .int .i64 i, .int .i64 n, vf]] w fun e w' => e = .returned (.bool (enoughI c ⟨3, i, n, fr⟩)) ∧ Below w.heap.size w w' := by
  have HF := Hid.mk hf
  obtain ⟨gf, cf, rfl, _⟩ := hf
  have B : ∀ d, Below w.heap.size w ((w.alloc (.cells #[.int .i64 3, .int .i64 i, .int .i64 n, .slice gf fr.length cf] 30)).drewN d) := fun d => below_drewN (by go_grown) d
  have R : Hid (enoughI c ⟨3, i, n, fr⟩ = (!namedI c ⟨3, i, n, fr⟩ || ((fr.length : Int) == (infA c i).f))) := ⟨by simp [enoughI]⟩
  rw [R.out]
  clear R
  have C : ∀ d, Calls Tryd.prog 63 #[ptr b, .agg #[.int .i64 3, .int .i64 i, .int .i64 n, .slice gf fr.length cf]] ((w.alloc (.cells #[.int .i64 3, .int .i64 i, .int .i64 n, .slice gf fr.length cf] 30)).drewN d) fun e w' => e = .returned (.bool (namedI c ⟨3, i, n, fr⟩)) ∧ Below ((w.alloc (.cells #[.int .i64 3, .int .i64 i, .int .i64 n, .slice gf fr.length cf] 30)).drewN d).heap.size ((w.alloc (.cells #[.int .i64 3, .int .i64 i, .int .i64 n, .slice gf fr.length cf] 30)).drewN d) w' := fun d => named_any (K.later (B d)) (V.later (B d)) ⟨3, i, n, fr⟩ _ (HF.out.later (B d) fun _ _ h => h)
  rcases Bool.eq_false_or_eq_true (namedI c ⟨3, i, n, fr⟩) with q | q
  · obtain ⟨j, rfl, hj⟩ := below_nat (l := c.inf.length) (by have := q; simp [namedI] at this; exact this.1)
    rw [infA_at c j hj, q]
    have k0 := (K.later (B 0)).c2
    obtain ⟨g, off, cap, cs, rfl, h1, h2, pc, hx⟩ := (V.later (B 0)).inf.get j hj
    unfold isInf at pc
    subst pc
    have c1 : (w.alloc (.cells #[.int .i64 3, .int .i64 j, .int .i64 n, .slice gf fr.length cf] 30)).cell? ⟨g, off + j * 4 + 2, none⟩ = some (.int .i64 ((c.inf[j]'hj).f)) := hx 2 _ rfl
    have k0 : (w.alloc (.cells #[.int .i64 3, .int .i64 j, .int .i64 n, .slice gf fr.length cf] 30)).cell? ⟨b, 2, none⟩ = some (.slice (some ⟨g, off, none⟩) c.inf.length cap) := k0
    generalize c.inf[j]'hj = t at *
    have hj' : (j : Int) < c.inf.length := by omega
    rw [q] at C
    unfold maxLen at h2
    have b1 : (w.alloc (.cells #[.int .i64 3, .int .i64 j, .int .i64 n, .slice gf fr.length cf] 30)).cell? ⟨w.heap.size, 1, none⟩ = some (.int .i64 j) := cell_new _ _ _ _ _ rfl
    have b0 : (w.alloc (.cells #[.int .i64 3, .int .i64 j, .int .i64 n, .slice gf fr.length cf] 30)).cell? ⟨w.heap.size, 0, none⟩ = some (.int .i64 3) := cell_new _ _ _ _ _ rfl
    have b2 : (w.alloc (.cells #[.int .i64 3, .int .i64 j, .int .i64 n, .slice gf fr.length cf] 30)).cell? ⟨w.heap.size, 2, none⟩ = some (.int .i64 n) := cell_new _ _ _ _ _ rfl
    have b3 : (w.alloc (.cells #[.int .i64 3, .int .i64 j, .int .i64 n, .slice gf fr.length cf] 30)).cell? ⟨w.heap.size, 3, none⟩ = some (.slice gf fr.length cf) := cell_new _ _ _ _ _ rfl
    have HS : Hid (∀ d w3, Below ((w.alloc (.cells #[.int .i64 3, .int .i64 j, .int .i64 n, .slice gf fr.length cf] 30)).drewN d).heap.size ((w.alloc (.cells #[.int .i64 3, .int .i64 j, .int .i64 n, .slice gf fr.length cf] 30)).drewN d) w3 → w3.cell? ⟨g, off + j * 4 + 2, none⟩ = some (.int .i64 t.f) ∧ w3.cell? ⟨b, 2, none⟩ = some (.slice (some ⟨g, off, none⟩) c.inf.length cap) ∧ w3.cell? ⟨w.heap.size, 0, none⟩ = some (.int .i64 3) ∧ w3.cell? ⟨w.heap.size, 1, none⟩ = some (.int .i64 j) ∧ w3.cell? ⟨w.heap.size, 2, none⟩ = some (.int .i64 n) ∧ w3.cell? ⟨w.heap.size, 3, none⟩ = some (.slice gf fr.length cf)) := by
      refine ⟨fun d w3 h => ?_⟩
      have h' : Below (w.alloc (.cells #[.int .i64 3, .int .i64 j, .int .i64 n, .slice gf fr.length cf] 30)).heap.size (w.alloc (.cells #[.int .i64 3, .int .i64 j, .int .i64 n, .slice gf fr.length cf] 30)) w3 := (below_drewN (Below.refl _ _) d).trans h
      have kk : ∀ p o u, (w.alloc (.cells #[.int .i64 3, .int .i64 j, .int .i64 n, .slice gf fr.length cf] 30)).cell? ⟨p, o, none⟩ = some u → w3.cell? ⟨p, o, none⟩ = some u := fun p o u e => (h'.cell (p := ⟨p, o, none⟩) (World.block_lt_of_cell? _ _ e)).trans e
      exact ⟨kk _ _ _ c1, kk _ _ _ k0, kk _ _ _ b0, kk _ _ _ b1, kk _ _ _ b2, kk _ _ _ b3⟩
    clear K V hx B q HF b0 b1 b2 b3
    go_enter Tryd.func61, Tryd.ntmps61
    go_wp2
    go_region_held3 (fun w' => w'.cell? ⟨g, off + j * 4 + 2, none⟩ = some (.int .i64 t.f) ∧ w'.cell? ⟨b, 2, none⟩ = some (.slice (some ⟨g, off, none⟩) c.inf.length cap) ∧ w'.cell? ⟨w.heap.size, 0, none⟩ = some (.int .i64 3) ∧ w'.cell? ⟨w.heap.size, 1, none⟩ = some (.int .i64 j) ∧ w'.cell? ⟨w.heap.size, 2, none⟩ = some (.int .i64 n) ∧ w'.cell? ⟨w.heap.size, 3, none⟩ = some (.slice gf fr.length cf)) (go_keep) (first | (go_at_call 63; refine (C 1).mono ?_; rintro e w3 ⟨rfl, B3⟩; obtain ⟨s1, s2, s3, s4, s5, s6⟩ := HS.out _ _ B3; have HB := Hid.mk B3; clear B3))
    all_goals go_wp2
    all_goals go_ret
    all_goals exact ⟨rfl, belowOn (below_drewN (by go_grown) 1) HB.out⟩
  · rw [q]
    rw [q] at C
    have HS : Hid (∀ d w3, Below ((w.alloc (.cells #[.int .i64 3, .int .i64 i, .int .i64 n, .slice gf fr.length cf] 30)).drewN d).heap.size ((w.alloc (.cells #[.int .i64 3, .int .i64 i, .int .i64 n, .slice gf fr.length cf] 30)).drewN d) w3 → w3.cell? ⟨w.heap.size, 0, none⟩ = some (.int .i64 3) ∧ w3.cell? ⟨w.heap.size, 1, none⟩ = some (.int .i64 i) ∧ w3.cell? ⟨w.heap.size, 2, none⟩ = some (.int .i64 n) ∧ w3.cell? ⟨w.heap.size, 3, none⟩ = some (.slice gf fr.length cf)) := by
      refine ⟨fun d w3 h => ?_⟩
      have h' : Below (w.alloc (.cells #[.int .i64 3, .int .i64 i, .int .i64 n, .slice gf fr.length cf] 30)).heap.size (w.alloc (.cells #[.int .i64 3, .int .i64 i, .int .i64 n, .slice gf fr.length cf] 30)) w3 := (below_drewN (Below.refl _ _) d).trans h
      have kk : ∀ p o u, (w.alloc (.cells #[.int .i64 3, .int .i64 i, .int .i64 n, .slice gf fr.length cf] 30)).cell? ⟨p, o, none⟩ = some u → w3.cell? ⟨p, o, none⟩ = some u := fun p o u e => (h'.cell (p := ⟨p, o, none⟩) (World.block_lt_of_cell? _ _ e)).trans e
      exact ⟨kk _ _ _ (cell_new _ _ _ _ _ rfl), kk _ _ _ (cell_new _ _ _ _ _ rfl), kk _ _ _ (cell_new _ _ _ _ _ rfl), kk _ _ _ (cell_new _ _ _ _ _ rfl)⟩
    clear K V B q HF
    go_enter Tryd.func61, Tryd.ntmps61
    go_wp2
    refine wp_region_held_drew (S := (fun w' => w'.cell? ⟨w.heap.size, 0, none⟩ = some (.int .i64 3) ∧ w'.cell? ⟨w.heap.size, 1, none⟩ = some (.int .i64 i) ∧ w'.cell? ⟨w.heap.size, 2, none⟩ = some (.int .i64 n) ∧ w'.cell? ⟨w.heap.size, 3, none⟩ = some (.slice gf fr.length cf))) (by kernel_rfl) ?_ (fun hHeld => ?_)
    · try dsimp only
      go_keep
    refine wpAnyH_take (i := 0) (v := ?_) rfl (by kernel_rfl) (by kernel_rfl) (by kernel_rfl) (fun _ _ _ h => h) (Or.inl ⟨by rfl, ?_⟩) (by assumption) ?_
    rotate_left
    · intro w' hSw
      try dsimp only at hSw
      go_simp
      try with_reducible rfl
    try simp only [Act.put, List.getElem_toArray, List.getElem_cons_zero, List.getElem_cons_succ, List.setIfInBounds_toArray, List.set_cons_zero, List.set_cons_succ]
    refine wpAnyH_take (i := 1) (v := ?_) rfl (by kernel_rfl) (by kernel_rfl) (by kernel_rfl) (fun _ _ _ h => h) (Or.inl ⟨by rfl, ?_⟩) (by assumption) ?_
    rotate_left
    · intro w' hSw
      try dsimp only at hSw
      go_simp
      try with_reducible rfl
    try simp only [Act.put, List.getElem_toArray, List.getElem_cons_zero, List.getElem_cons_succ, List.setIfInBounds_toArray, List.set_cons_zero, List.set_cons_succ]
    refine wpAnyH_ready (rs := [2]) (by kernel_rfl) (by simp) ?_
    refine AllReadyH.cons rfl (fun K hK => ?_) ?_
    · go_simp
      (go_at_call 63; refine (C 1).mono ?_; rintro e w3 ⟨rfl, B3⟩; obtain ⟨s3, s4, s5, s6⟩ := HS.out _ _ B3; have HB := Hid.mk B3; clear B3)
      try go_wp2_with fail
      refine hK.out _ _ ?_ (fun hHeld => ?_)
      · try dsimp only
        go_keep
      clear hK K
      try simp only [Act.put, List.getElem_toArray, List.getElem_cons_zero, List.getElem_cons_succ, List.setIfInBounds_toArray, List.set_cons_zero, List.set_cons_succ]
      refine wpAnyH_take (i := 3) (v := ?_) rfl (by kernel_rfl) (by kernel_rfl) (by kernel_rfl) (fun _ _ _ h => h) (Or.inl ⟨by rfl, ?_⟩) (by assumption) ?_
      rotate_left
      · intro w' hSw
        try dsimp only at hSw
        go_simp
        try with_reducible rfl
      try simp only [Act.put, List.getElem_toArray, List.getElem_cons_zero, List.getElem_cons_succ, List.setIfInBounds_toArray, List.set_cons_zero, List.set_cons_succ]
      refine wpAnyH_take (i := 4) (v := ?_) rfl (by kernel_rfl) (by kernel_rfl) (by kernel_rfl) (fun _ _ _ h => h) (Or.inl ⟨by rfl, ?_⟩) (by assumption) ?_
      rotate_left
      · intro w' hSw
        try dsimp only at hSw
        go_simp
        try with_reducible rfl
      try simp only [Act.put, List.getElem_toArray, List.getElem_cons_zero, List.getElem_cons_succ, List.setIfInBounds_toArray, List.set_cons_zero, List.set_cons_succ]
      refine wpAnyH_take (i := 5) (v := undef) rfl (by kernel_rfl) (by kernel_rfl) (by kernel_rfl) (fun _ _ _ h => h) (Or.inr ⟨by rfl, rfl⟩) (by assumption) ?_
      try simp only [Act.put, List.getElem_toArray, List.getElem_cons_zero, List.getElem_cons_succ, List.setIfInBounds_toArray, List.set_cons_zero, List.set_cons_succ]
      refine wpAnyH_take (i := 6) (v := undef) rfl (by kernel_rfl) (by kernel_rfl) (by kernel_rfl) (fun _ _ _ h => h) (Or.inr ⟨by rfl, rfl⟩) (by assumption) ?_
      try simp only [Act.put, List.getElem_toArray, List.getElem_cons_zero, List.getElem_cons_succ, List.setIfInBounds_toArray, List.set_cons_zero, List.set_cons_succ]
      refine wpAnyH_take (i := 7) (v := undef) rfl (by kernel_rfl) (by kernel_rfl) (by kernel_rfl) (fun _ _ _ h => h) (Or.inr ⟨by rfl, rfl⟩) (by assumption) ?_
      try simp only [Act.put, List.getElem_toArray, List.getElem_cons_zero, List.getElem_cons_succ, List.setIfInBounds_toArray, List.set_cons_zero, List.set_cons_succ]
      refine wpAnyH_take (i := 8) (v := undef) rfl (by kernel_rfl) (by kernel_rfl) (by kernel_rfl) (fun _ _ _ h => h) (Or.inr ⟨by rfl, rfl⟩) (by assumption) ?_
      try simp only [Act.put, List.getElem_toArray, List.getElem_cons_zero, List.getElem_cons_succ, List.setIfInBounds_toArray, List.set_cons_zero, List.set_cons_succ]
      refine wpAnyH_take (i := 9) (v := undef) rfl (by kernel_rfl) (by kernel_rfl) (by kernel_rfl) (fun _ _ _ h => h) (Or.inr ⟨by rfl, rfl⟩) (by assumption) ?_
      try simp only [Act.put, List.getElem_toArray, List.getElem_cons_zero, List.getElem_cons_succ, List.setIfInBounds_toArray, List.set_cons_zero, List.set_cons_succ]
      refine wpAnyH_take (i := 10) (v := undef) rfl (by kernel_rfl) (by kernel_rfl) (by kernel_rfl) (fun _ _ _ h => h) (Or.inr ⟨by rfl, rfl⟩) (by assumption) ?_
      try simp only [Act.put, List.getElem_toArray, List.getElem_cons_zero, List.getElem_cons_succ, List.setIfInBounds_toArray, List.set_cons_zero, List.set_cons_succ]
      refine wpAnyH_take (i := 11) (v := undef) rfl (by kernel_rfl) (by kernel_rfl) (by kernel_rfl) (fun _ _ _ h => h) (Or.inr ⟨by rfl, rfl⟩) (by assumption) ?_
      try simp only [Act.put, List.getElem_toArray, List.getElem_cons_zero, List.getElem_cons_succ, List.setIfInBounds_toArray, List.set_cons_zero, List.set_cons_succ]
      refine wpAnyH_take (i := 12) (v := undef) rfl (by kernel_rfl) (by kernel_rfl) (by kernel_rfl) (fun _ _ _ h => h) (Or.inr ⟨by rfl, rfl⟩) (by assumption) ?_
      try simp only [Act.put, List.getElem_toArray, List.getElem_cons_zero, List.getElem_cons_succ, List.setIfInBounds_toArray, List.set_cons_zero, List.set_cons_succ]
      refine wpAnyH_take (i := 13) (v := undef) rfl (by kernel_rfl) (by kernel_rfl) (by kernel_rfl) (fun _ _ _ h => h) (Or.inr ⟨by rfl, rfl⟩) (by assumption) ?_
      try simp only [Act.put, List.getElem_toArray, List.getElem_cons_zero, List.getElem_cons_succ, List.setIfInBounds_toArray, List.set_cons_zero, List.set_cons_succ]
      refine wpAnyH_take (i := 14) (v := undef) rfl (by kernel_rfl) (by kernel_rfl) (by kernel_rfl) (fun _ _ _ h => h) (Or.inr ⟨by rfl, rfl⟩) (by assumption) ?_
      try simp only [Act.put, List.getElem_toArray, List.getElem_cons_zero, List.getElem_cons_succ, List.setIfInBounds_toArray, List.set_cons_zero, List.set_cons_succ]
      refine wpAnyH_take (i := 15) (v := undef) rfl (by kernel_rfl) (by kernel_rfl) (by kernel_rfl) (fun _ _ _ h => h) (Or.inr ⟨by rfl, rfl⟩) (by assumption) ?_
      try simp only [Act.put, List.getElem_toArray, List.getElem_cons_zero, List.getElem_cons_succ, List.setIfInBounds_toArray, List.set_cons_zero, List.set_cons_succ]
      refine wpAnyH_take (i := 16) (v := undef) rfl (by kernel_rfl) (by kernel_rfl) (by kernel_rfl) (fun _ _ _ h => h) (Or.inr ⟨by rfl, rfl⟩) (by assumption) ?_
      try simp only [Act.put, List.getElem_toArray, List.getElem_cons_zero, List.getElem_cons_succ, List.setIfInBounds_toArray, List.set_cons_zero, List.set_cons_succ]
      refine wpAnyH_take (i := 17) (v := undef) rfl (by kernel_rfl) (by kernel_rfl) (by kernel_rfl) (fun _ _ _ h => h) (Or.inr ⟨by rfl, rfl⟩) (by assumption) ?_
      try simp only [Act.put, List.getElem_toArray, List.getElem_cons_zero, List.getElem_cons_succ, List.setIfInBounds_toArray, List.set_cons_zero, List.set_cons_succ]
      refine wpAnyH_take (i := 18) (v := undef) rfl (by kernel_rfl) (by kernel_rfl) (by kernel_rfl) (fun _ _ _ h => h) (Or.inr ⟨by rfl, rfl⟩) (by assumption) ?_
      try simp only [Act.put, List.getElem_toArray, List.getElem_cons_zero, List.getElem_cons_succ, List.setIfInBounds_toArray, List.set_cons_zero, List.set_cons_succ]
      refine wpAnyH_take (i := 19) (v := ?_) rfl (by kernel_rfl) (by kernel_rfl) (by kernel_rfl) (fun _ _ _ h => h) (Or.inl ⟨by rfl, ?_⟩) (by assumption) ?_
      rotate_left
      · intro w' hSw
        try dsimp only at hSw
        go_simp
        try with_reducible rfl
      try simp only [Act.put, List.getElem_toArray, List.getElem_cons_zero, List.getElem_cons_succ, List.setIfInBounds_toArray, List.set_cons_zero, List.set_cons_succ]
      refine wpAnyH_take (i := 20) (v := ?_) rfl (by kernel_rfl) (by kernel_rfl) (by kernel_rfl) (fun _ _ _ h => h) (Or.inl ⟨by rfl, ?_⟩) (by assumption) ?_
      rotate_left
      · intro w' hSw
        try dsimp only at hSw
        go_simp
        try with_reducible rfl
      try simp only [Act.put, List.getElem_toArray, List.getElem_cons_zero, List.getElem_cons_succ, List.setIfInBounds_toArray, List.set_cons_zero, List.set_cons_succ]
      refine wpAnyH_done (by kernel_rfl) ?_ _
      go_wp2
      go_ret
      exact ⟨rfl, belowOn (below_drewN (by go_grown) 1) HB.out⟩
    exact AllReadyH.nil
set_option maxHeartbeats 1000000 in
theorem enough_6 (K : Ck w b z x vc vg vi vn vl vk vm va) (V : Cv w c vc vg vi vn) (i n : Int) (fr : List Int) (vf : Value) (hf : Lst w 1 isInt fr vf) : Calls Tryd.prog 61 #[ptr b, .agg #[.int .i64 6, .int .i64 i, .int .i64 n, vf]] w fun e w' => e = .returned (.bool (enoughI c ⟨6, i, n, fr⟩)) ∧ Below w.heap.size w w' := by
  have HF := Hid.mk hf
  obtain ⟨gf, cf, rfl, _⟩ := hf
  have B : ∀ d, Below w.heap.size w ((w.alloc (.cells #[.int .i64 6, .int .i64 i, .int .i64 n, .slice gf fr.length cf] 30)).drewN d) := fun d => below_drewN (by go_grown) d
  have R : Hid (enoughI c ⟨6, i, n, fr⟩ = (!namedI c ⟨6, i, n, fr⟩ || ((fr.length : Int) == (infA c i).f))) := ⟨by simp [enoughI]⟩
  rw [R.out]
  clear R
  have C : ∀ d, Calls Tryd.prog 63 #[ptr b, .agg #[.int .i64 6, .int .i64 i, .int .i64 n, .slice gf fr.length cf]] ((w.alloc (.cells #[.int .i64 6, .int .i64 i, .int .i64 n, .slice gf fr.length cf] 30)).drewN d) fun e w' => e = .returned (.bool (namedI c ⟨6, i, n, fr⟩)) ∧ Below ((w.alloc (.cells #[.int .i64 6, .int .i64 i, .int .i64 n, .slice gf fr.length cf] 30)).drewN d).heap.size ((w.alloc (.cells #[.int .i64 6, .int .i64 i, .int .i64 n, .slice gf fr.length cf] 30)).drewN d) w' := fun d => named_any (K.later (B d)) (V.later (B d)) ⟨6, i, n, fr⟩ _ (HF.out.later (B d) fun _ _ h => h)
  rcases Bool.eq_false_or_eq_true (namedI c ⟨6, i, n, fr⟩) with q | q
  · obtain ⟨j, rfl, hj⟩ := below_nat (l := c.inf.length) (by have := q; simp [namedI] at this; exact this.1)
    rw [infA_at c j hj, q]
    have k0 := (K.later (B 0)).c2
    obtain ⟨g, off, cap, cs, rfl, h1, h2, pc, hx⟩ := (V.later (B 0)).inf.get j hj
    unfold isInf at pc
    subst pc
    have c1 : (w.alloc (.cells #[.int .i64 6, .int .i64 j, .int .i64 n, .slice gf fr.length cf] 30)).cell? ⟨g, off + j * 4 + 2, none⟩ = some (.int .i64 ((c.inf[j]'hj).f)) := hx 2 _ rfl
    have k0 : (w.alloc (.cells #[.int .i64 6, .int .i64 j, .int .i64 n, .slice gf fr.length cf] 30)).cell? ⟨b, 2, none⟩ = some (.slice (some ⟨g, off, none⟩) c.inf.length cap) := k0
    generalize c.inf[j]'hj = t at *
    have hj' : (j : Int) < c.inf.length := by omega
    rw [q] at C
    unfold maxLen at h2
    have b1 : (w.alloc (.cells #[.int .i64 6, .int .i64 j, .int .i64 n, .slice gf fr.length cf] 30)).cell? ⟨w.heap.size, 1, none⟩ = some (.int .i64 j) := cell_new _ _ _ _ _ rfl
    have b0 : (w.alloc (.cells #[.int .i64 6, .int .i64 j, .int .i64 n, .slice gf fr.length cf] 30)).cell? ⟨w.heap.size, 0, none⟩ = some (.int .i64 6) := cell_new _ _ _ _ _ rfl
    have b2 : (w.alloc (.cells #[.int .i64 6, .int .i64 j, .int .i64 n, .slice gf fr.length cf] 30)).cell? ⟨w.heap.size, 2, none⟩ = some (.int .i64 n) := cell_new _ _ _ _ _ rfl
    have b3 : (w.alloc (.cells #[.int .i64 6, .int .i64 j, .int .i64 n, .slice gf fr.length cf] 30)).cell? ⟨w.heap.size, 3, none⟩ = some (.slice gf fr.length cf) := cell_new _ _ _ _ _ rfl
    have HS : Hid (∀ d w3, Below ((w.alloc (.cells #[.int .i64 6, .int .i64 j, .int .i64 n, .slice gf fr.length cf] 30)).drewN d).heap.size ((w.alloc (.cells #[.int .i64 6, .int .i64 j, .int .i64 n, .slice gf fr.length cf] 30)).drewN d) w3 → w3.cell? ⟨g, off + j * 4 + 2, none⟩ = some (.int .i64 t.f) ∧ w3.cell? ⟨b, 2, none⟩ = some (.slice (some ⟨g, off, none⟩) c.inf.length cap) ∧ w3.cell? ⟨w.heap.size, 0, none⟩ = some (.int .i64 6) ∧ w3.cell? ⟨w.heap.size, 1, none⟩ = some (.int .i64 j) ∧ w3.cell? ⟨w.heap.size, 2, none⟩ = some (.int .i64 n) ∧ w3.cell? ⟨w.heap.size, 3, none⟩ = some (.slice gf fr.length cf)) := by
      refine ⟨fun d w3 h => ?_⟩
      have h' : Below (w.alloc (.cells #[.int .i64 6, .int .i64 j, .int .i64 n, .slice gf fr.length cf] 30)).heap.size (w.alloc (.cells #[.int .i64 6, .int .i64 j, .int .i64 n, .slice gf fr.length cf] 30)) w3 := (below_drewN (Below.refl _ _) d).trans h
      have kk : ∀ p o u, (w.alloc (.cells #[.int .i64 6, .int .i64 j, .int .i64 n, .slice gf fr.length cf] 30)).cell? ⟨p, o, none⟩ = some u → w3.cell? ⟨p, o, none⟩ = some u := fun p o u e => (h'.cell (p := ⟨p, o, none⟩) (World.block_lt_of_cell? _ _ e)).trans e
      exact ⟨kk _ _ _ c1, kk _ _ _ k0, kk _ _ _ b0, kk _ _ _ b1, kk _ _ _ b2, kk _ _ _ b3⟩
    clear K V hx B q HF b0 b1 b2 b3
    go_enter Tryd.func61, Tryd.ntmps61
    go_wp2
    go_region_held3 (fun w' => w'.cell? ⟨g, off + j * 4 + 2, none⟩ = some (.int .i64 t.f) ∧ w'.cell? ⟨b, 2, none⟩ = some (.slice (some ⟨g, off, none⟩) c.inf.length cap) ∧ w'.cell? ⟨w.heap.size, 0, none⟩ = some (.int .i64 6) ∧ w'.cell? ⟨w.heap.size, 1, none⟩ = some (.int .i64 j) ∧ w'.cell? ⟨w.heap.size, 2, none⟩ = some (.int .i64 n) ∧ w'.cell? ⟨w.heap.size, 3, none⟩ = some (.slice gf fr.length cf)) (go_keep) (first | (go_at_call 63; refine (C 1).mono ?_; rintro e w3 ⟨rfl, B3⟩; obtain ⟨s1, s2, s3, s4, s5, s6⟩ := HS.out _ _ B3; have HB := Hid.mk B3; clear B3))
    all_goals go_wp2
    all_goals go_ret
    all_goals exact ⟨rfl, belowOn (below_drewN (by go_grown) 1) HB.out⟩
  · rw [q]
    rw [q] at C
    have HS : Hid (∀ d w3, Below ((w.alloc (.cells #[.int .i64 6, .int .i64 i, .int .i64 n, .slice gf fr.length cf] 30)).drewN d).heap.size ((w.alloc (.cells #[.int .i64 6, .int .i64 i, .int .i64 n, .slice gf fr.length cf] 30)).drewN d) w3 → w3.cell? ⟨w.heap.size, 0, none⟩ = some (.int .i64 6) ∧ w3.cell? ⟨w.heap.size, 1, none⟩ = some (.int .i64 i) ∧ w3.cell? ⟨w.heap.size, 2, none⟩ = some (.int .i64 n) ∧ w3.cell? ⟨w.heap.size, 3, none⟩ = some (.slice gf fr.length cf)) := by
      refine ⟨fun d w3 h => ?_⟩
      have h' : Below (w.alloc (.cells #[.int .i64 6, .int .i64 i, .int .i64 n, .slice gf fr.length cf] 30)).heap.size (w.alloc (.cells #[.int .i64 6, .int .i64 i, .int .i64 n, .slice gf fr.length cf] 30)) w3 := (below_drewN (Below.refl _ _) d).trans h
      have kk : ∀ p o u, (w.alloc (.cells #[.int .i64 6, .int .i64 i, .int .i64 n, .slice gf fr.length cf] 30)).cell? ⟨p, o, none⟩ = some u → w3.cell? ⟨p, o, none⟩ = some u := fun p o u e => (h'.cell (p := ⟨p, o, none⟩) (World.block_lt_of_cell? _ _ e)).trans e
      exact ⟨kk _ _ _ (cell_new _ _ _ _ _ rfl), kk _ _ _ (cell_new _ _ _ _ _ rfl), kk _ _ _ (cell_new _ _ _ _ _ rfl), kk _ _ _ (cell_new _ _ _ _ _ rfl)⟩
    clear K V B q HF
    go_enter Tryd.func61, Tryd.ntmps61
    go_wp2
    refine wp_region_held_drew (S := (fun w' => w'.cell? ⟨w.heap.size, 0, none⟩ = some (.int .i64 6) ∧ w'.cell? ⟨w.heap.size, 1, none⟩ = some (.int .i64 i) ∧ w'.cell? ⟨w.heap.size, 2, none⟩ = some (.int .i64 n) ∧ w'.cell? ⟨w.heap.size, 3, none⟩ = some (.slice gf fr.length cf))) (by kernel_rfl) ?_ (fun hHeld => ?_)
    · try dsimp only
      go_keep
    refine wpAnyH_take (i := 0) (v := ?_) rfl (by kernel_rfl) (by kernel_rfl) (by kernel_rfl) (fun _ _ _ h => h) (Or.inl ⟨by rfl, ?_⟩) (by assumption) ?_
    rotate_left
    · intro w' hSw
      try dsimp only at hSw
      go_simp
      try with_reducible rfl
    try simp only [Act.put, List.getElem_toArray, List.getElem_cons_zero, List.getElem_cons_succ, List.setIfInBounds_toArray, List.set_cons_zero, List.set_cons_succ]
    refine wpAnyH_take (i := 1) (v := ?_) rfl (by kernel_rfl) (by kernel_rfl) (by kernel_rfl) (fun _ _ _ h => h) (Or.inl ⟨by rfl, ?_⟩) (by assumption) ?_
    rotate_left
    · intro w' hSw
      try dsimp only at hSw
      go_simp
      try with_reducible rfl
    try simp only [Act.put, List.getElem_toArray, List.getElem_cons_zero, List.getElem_cons_succ, List.setIfInBounds_toArray, List.set_cons_zero, List.set_cons_succ]
    refine wpAnyH_ready (rs := [2]) (by kernel_rfl) (by simp) ?_
    refine AllReadyH.cons rfl (fun K hK => ?_) ?_
    · go_simp
      (go_at_call 63; refine (C 1).mono ?_; rintro e w3 ⟨rfl, B3⟩; obtain ⟨s3, s4, s5, s6⟩ := HS.out _ _ B3; have HB := Hid.mk B3; clear B3)
      try go_wp2_with fail
      refine hK.out _ _ ?_ (fun hHeld => ?_)
      · try dsimp only
        go_keep
      clear hK K
      try simp only [Act.put, List.getElem_toArray, List.getElem_cons_zero, List.getElem_cons_succ, List.setIfInBounds_toArray, List.set_cons_zero, List.set_cons_succ]
      refine wpAnyH_take (i := 3) (v := ?_) rfl (by kernel_rfl) (by kernel_rfl) (by kernel_rfl) (fun _ _ _ h => h) (Or.inl ⟨by rfl, ?_⟩) (by assumption) ?_
      rotate_left
      · intro w' hSw
        try dsimp only at hSw
        go_simp
        try with_reducible rfl
      try simp only [Act.put, List.getElem_toArray, List.getElem_cons_zero, List.getElem_cons_succ, List.setIfInBounds_toArray, List.set_cons_zero, List.set_cons_succ]
      refine wpAnyH_take (i := 4) (v := ?_) rfl (by kernel_rfl) (by kernel_rfl) (by kernel_rfl) (fun _ _ _ h => h) (Or.inl ⟨by rfl, ?_⟩) (by assumption) ?_
      rotate_left
      · intro w' hSw
        try dsimp only at hSw
        go_simp
        try with_reducible rfl
      try simp only [Act.put, List.getElem_toArray, List.getElem_cons_zero, List.getElem_cons_succ, List.setIfInBounds_toArray, List.set_cons_zero, List.set_cons_succ]
      refine wpAnyH_take (i := 5) (v := undef) rfl (by kernel_rfl) (by kernel_rfl) (by kernel_rfl) (fun _ _ _ h => h) (Or.inr ⟨by rfl, rfl⟩) (by assumption) ?_
      try simp only [Act.put, List.getElem_toArray, List.getElem_cons_zero, List.getElem_cons_succ, List.setIfInBounds_toArray, List.set_cons_zero, List.set_cons_succ]
      refine wpAnyH_take (i := 6) (v := undef) rfl (by kernel_rfl) (by kernel_rfl) (by kernel_rfl) (fun _ _ _ h => h) (Or.inr ⟨by rfl, rfl⟩) (by assumption) ?_
      try simp only [Act.put, List.getElem_toArray, List.getElem_cons_zero, List.getElem_cons_succ, List.setIfInBounds_toArray, List.set_cons_zero, List.set_cons_succ]
      refine wpAnyH_take (i := 7) (v := undef) rfl (by kernel_rfl) (by kernel_rfl) (by kernel_rfl) (fun _ _ _ h => h) (Or.inr ⟨by rfl, rfl⟩) (by assumption) ?_
      try simp only [Act.put, List.getElem_toArray, List.getElem_cons_zero, List.getElem_cons_succ, List.setIfInBounds_toArray, List.set_cons_zero, List.set_cons_succ]
      refine wpAnyH_take (i := 8) (v := undef) rfl (by kernel_rfl) (by kernel_rfl) (by kernel_rfl) (fun _ _ _ h => h) (Or.inr ⟨by rfl, rfl⟩) (by assumption) ?_
      try simp only [Act.put, List.getElem_toArray, List.getElem_cons_zero, List.getElem_cons_succ, List.setIfInBounds_toArray, List.set_cons_zero, List.set_cons_succ]
      refine wpAnyH_take (i := 9) (v := undef) rfl (by kernel_rfl) (by kernel_rfl) (by kernel_rfl) (fun _ _ _ h => h) (Or.inr ⟨by rfl, rfl⟩) (by assumption) ?_
      try simp only [Act.put, List.getElem_toArray, List.getElem_cons_zero, List.getElem_cons_succ, List.setIfInBounds_toArray, List.set_cons_zero, List.set_cons_succ]
      refine wpAnyH_take (i := 10) (v := undef) rfl (by kernel_rfl) (by kernel_rfl) (by kernel_rfl) (fun _ _ _ h => h) (Or.inr ⟨by rfl, rfl⟩) (by assumption) ?_
      try simp only [Act.put, List.getElem_toArray, List.getElem_cons_zero, List.getElem_cons_succ, List.setIfInBounds_toArray, List.set_cons_zero, List.set_cons_succ]
      refine wpAnyH_take (i := 11) (v := undef) rfl (by kernel_rfl) (by kernel_rfl) (by kernel_rfl) (fun _ _ _ h => h) (Or.inr ⟨by rfl, rfl⟩) (by assumption) ?_
      try simp only [Act.put, List.getElem_toArray, List.getElem_cons_zero, List.getElem_cons_succ, List.setIfInBounds_toArray, List.set_cons_zero, List.set_cons_succ]
      refine wpAnyH_take (i := 12) (v := undef) rfl (by kernel_rfl) (by kernel_rfl) (by kernel_rfl) (fun _ _ _ h => h) (Or.inr ⟨by rfl, rfl⟩) (by assumption) ?_
      try simp only [Act.put, List.getElem_toArray, List.getElem_cons_zero, List.getElem_cons_succ, List.setIfInBounds_toArray, List.set_cons_zero, List.set_cons_succ]
      refine wpAnyH_take (i := 13) (v := undef) rfl (by kernel_rfl) (by kernel_rfl) (by kernel_rfl) (fun _ _ _ h => h) (Or.inr ⟨by rfl, rfl⟩) (by assumption) ?_
      try simp only [Act.put, List.getElem_toArray, List.getElem_cons_zero, List.getElem_cons_succ, List.setIfInBounds_toArray, List.set_cons_zero, List.set_cons_succ]
      refine wpAnyH_take (i := 14) (v := undef) rfl (by kernel_rfl) (by kernel_rfl) (by kernel_rfl) (fun _ _ _ h => h) (Or.inr ⟨by rfl, rfl⟩) (by assumption) ?_
      try simp only [Act.put, List.getElem_toArray, List.getElem_cons_zero, List.getElem_cons_succ, List.setIfInBounds_toArray, List.set_cons_zero, List.set_cons_succ]
      refine wpAnyH_take (i := 15) (v := undef) rfl (by kernel_rfl) (by kernel_rfl) (by kernel_rfl) (fun _ _ _ h => h) (Or.inr ⟨by rfl, rfl⟩) (by assumption) ?_
      try simp only [Act.put, List.getElem_toArray, List.getElem_cons_zero, List.getElem_cons_succ, List.setIfInBounds_toArray, List.set_cons_zero, List.set_cons_succ]
      refine wpAnyH_take (i := 16) (v := undef) rfl (by kernel_rfl) (by kernel_rfl) (by kernel_rfl) (fun _ _ _ h => h) (Or.inr ⟨by rfl, rfl⟩) (by assumption) ?_
      try simp only [Act.put, List.getElem_toArray, List.getElem_cons_zero, List.getElem_cons_succ, List.setIfInBounds_toArray, List.set_cons_zero, List.set_cons_succ]
      refine wpAnyH_take (i := 17) (v := undef) rfl (by kernel_rfl) (by kernel_rfl) (by kernel_rfl) (fun _ _ _ h => h) (Or.inr ⟨by rfl, rfl⟩) (by assumption) ?_
      try simp only [Act.put, List.getElem_toArray, List.getElem_cons_zero, List.getElem_cons_succ, List.setIfInBounds_toArray, List.set_cons_zero, List.set_cons_succ]
      refine wpAnyH_take (i := 18) (v := undef) rfl (by kernel_rfl) (by kernel_rfl) (by kernel_rfl) (fun _ _ _ h => h) (Or.inr ⟨by rfl, rfl⟩) (by assumption) ?_
      try simp only [Act.put, List.getElem_toArray, List.getElem_cons_zero, List.getElem_cons_succ, List.setIfInBounds_toArray, List.set_cons_zero, List.set_cons_succ]
      refine wpAnyH_take (i := 19) (v := ?_) rfl (by kernel_rfl) (by kernel_rfl) (by kernel_rfl) (fun _ _ _ h => h) (Or.inl ⟨by rfl, ?_⟩) (by assumption) ?_
      rotate_left
      · intro w' hSw
        try dsimp only at hSw
        go_simp
        try with_reducible rfl
      try simp only [Act.put, List.getElem_toArray, List.getElem_cons_zero, List.getElem_cons_succ, List.setIfInBounds_toArray, List.set_cons_zero, List.set_cons_succ]
      refine wpAnyH_take (i := 20) (v := ?_) rfl (by kernel_rfl) (by kernel_rfl) (by kernel_rfl) (fun _ _ _ h => h) (Or.inl ⟨by rfl, ?_⟩) (by assumption) ?_
      rotate_left
      · intro w' hSw
        try dsimp only at hSw
        go_simp
        try with_reducible rfl
      try simp only [Act.put, List.getElem_toArray, List.getElem_cons_zero, List.getElem_cons_succ, List.setIfInBounds_toArray, List.set_cons_zero, List.set_cons_succ]
      refine wpAnyH_done (by kernel_rfl) ?_ _
      go_wp2
      go_ret
      exact ⟨rfl, belowOn (below_drewN (by go_grown) 1) HB.out⟩
    exact AllReadyH.nil
set_option maxHeartbeats 1000000 in
theorem enough_any (K : Ck w b z x vc vg vi vn vl vk vm va) (V : Cv w c vc vg vi vn) (m : Mk) (vf : Value) (hf : Lst w 1 isInt m.fr vf) : Calls Tryd.prog 61 #[ptr b, .agg #[.int .i64 m.k, .int .i64 m.i, .int .i64 m.n, vf]] w fun e w' => e = .returned (.bool (enoughI c m)) ∧ Below w.heap.size w w' := by
  obtain ⟨k, i, n, fr⟩ := m
  by_cases h1 : k = 1
  · subst h1; exact enough_1 K V i n fr vf hf
  by_cases h3 : k = 3
  · subst h3; exact enough_3 K V i n fr vf hf
  by_cases h6 : k = 6
  · subst h6; exact enough_6 K V i n fr vf hf
  by_cases h7 : k = 7
  · subst h7
    have R : Hid (enoughI c ⟨7, i, n, fr⟩ = ((fr.length : Int) == 1)) := ⟨by simp [enoughI]⟩
    rw [R.out]
    obtain ⟨gf, cf, rfl, _⟩ := hf
    clear R K V
    dsimp only
    go_enter Tryd.func61, Tryd.ntmps61
    go_wp2
    go_ret
    exact ⟨rfl, by go_grown⟩
  have R : Hid (enoughI c ⟨k, i, n, fr⟩ = true) := ⟨by simp [enoughI, *]⟩
  rw [R.out]
  obtain ⟨gf, cf, rfl, _⟩ := hf
  clear R K V
  dsimp only
  go_enter Tryd.func61, Tryd.ntmps61
  go_wp2
  go_ret
  exact ⟨rfl, by go_grown⟩
end
end Go.Proofs.YtidplckoolmaiaaDoor
