/- The checker: whether an instruction has as much as it must. -/
import Derived.Test.YtidplckoolmaiaaDoorCdf
import Derived.Test.YtidplckoolmaiaaDoorCdh
namespace Go.Proofs.YtidplckoolmaiaaDoor
open Go.RowKit
set_option linter.unusedVariables false
set_option linter.unusedSimpArgs false

section
variable {w : World} {b : Nat} {c : Cd} {z : Int} {x : Ins} {vc vg vi vn vl vk vm va : Value}
set_option maxHeartbeats 2000000 in
theorem counts_any (T : Table w) (K : Ck w b z x vc vg vi vn vl vk vm va) (V : Cv w c vc vg vi vn) (I : Iv w x vl vk vm va) : Calls Tryd.prog 48 #[ptr b] w fun e w' => e = .returned (.bool (countsI c x)) ∧ Below w.heap.size w w' := by
  have k5 := K.c5
  have k6 := K.c6
  have k8 := K.c8
  have k10 := K.c10
  have k11 := K.c11
  have HI := Hid.mk I
  obtain ⟨⟨gl, cl, rfl, hl, _⟩, ⟨gk, ck, rfl, _⟩, ⟨gm, cm, rfl, hm, _⟩, ⟨ga, ca, rfl, har, _⟩⟩ := I
  have hl2 := hl.2
  have hm2 := hm.2
  have ha2 := har.2
  unfold maxLen at hl2 hm2 ha2
  clear hl hm har
  by_cases h1 : x.op = 1
  · have R : Hid (countsI c x = (decide (0 < x.ms.length) && x.ms.all (enoughI c))) := ⟨by unfold countsI; rw [if_pos h1]⟩
    rw [R.out]
    have C := all57_61 x.ms _ w HI.out.ms (ptr b) (enoughI c) (fun W hW m _ vf hf => enough_any (K.later hW) (V.later hW) m vf hf)
    rw [h1] at k5
    clear R h1 HI K V T
    generalize x.ms.all (enoughI c) = rv at *
    generalize x.ms.length = n at *
    by_cases h : 0 < n
    · have h' : (0 : Int) < n := by omega
      go_enter Tryd.func48, Tryd.ntmps48
      go_wp2_with (go_at_call 57; refine C.mono ?_; rintro e w' ⟨rfl, B3⟩)
      go_ret
      exact ⟨retBool (by simp [h]), B3⟩
    · have h' : ¬ (0 : Int) < n := by omega
      go_enter Tryd.func48, Tryd.ntmps48
      go_wp2
      go_ret
      exact ⟨retBool (by first | (simp; done) | (simp; omega)), Below.refl _ _⟩
  by_cases h2 : x.op = 2
  · have R : Hid (countsI c x = decide (x.li.length ≤ 8)) := ⟨by unfold countsI; rw [if_neg h1, if_pos h2]⟩
    rw [R.out]
    rw [h2] at k5
    clear R h1 h2 HI K V T
    go_enter Tryd.func48, Tryd.ntmps48
    go_wp2
    go_ret
    exact ⟨retBool (by rw [decide_eq_decide]; omega), Below.refl _ _⟩
  by_cases h3 : x.op = 5
  · have R : Hid (countsI c x = decide (0 < x.ar.length)) := ⟨by unfold countsI; rw [if_neg h1, if_neg h2, if_pos h3]⟩
    rw [R.out]
    rw [h3] at k5
    clear R h1 h2 h3 HI K V T
    go_enter Tryd.func48, Tryd.ntmps48
    go_wp2
    go_ret
    exact ⟨retBool (by first | rfl | (rw [decide_eq_decide]; omega)), Below.refl _ _⟩
  by_cases h4 : x.op = 6
  · have R : Hid (countsI c x = (!primB x.a || ((x.li.length : Int) == tA (rowN x.a)))) := ⟨by unfold countsI; rw [if_neg h1, if_neg h2, if_neg h3, if_pos h4]⟩
    rw [R.out]
    have C : ∀ d, Calls Tryd.prog 50 #[ptr b] (w.drewN d) fun e w' => e = .returned (.bool (primB x.a)) ∧ Below (w.drewN d).heap.size (w.drewN d) w' := fun d => by
      have := prim_any (T.later (below_drewN (Below.refl _ _) d)) (K.later (below_drewN (Below.refl _ _) d))
      have e : primI x = primB x.a := by unfold primI; rw [if_pos h4]
      rwa [e] at this
    have HS : Hid (∀ w3, Below (w.drewN 1).heap.size (w.drewN 1) w3 → w3.cell? ⟨b, 6, none⟩ = some (.int .i64 x.a) ∧ w3.cell? ⟨b, 8, none⟩ = some (.slice gl x.li.length cl)) := ⟨fun w3 h => ⟨cellLater (belowOn (below_drewN (Below.refl _ _) 1) h) k6, cellLater (belowOn (below_drewN (Below.refl _ _) 1) h) k8⟩⟩
    have A : ∀ w3, Below (w.drewN 1).heap.size (w.drewN 1) w3 → Calls Tryd.prog 62 #[.int .i64 x.a] w3 fun e w' => e = .returned (.int .i64 (tA (rowN x.a))) ∧ Below w3.heap.size w3 w' := fun w3 h => arity_any x.a w3 (T.later (belowOn (below_drewN (Below.refl _ _) 1) h))
    rw [h4] at k5
    clear R h1 h2 h3 h4 HI K V T
    generalize tA (rowN x.a) = ta at *
    rcases Bool.eq_false_or_eq_true (primB x.a) with q | q
    · rw [q]
      rw [q] at C
      clear q
      go_enter Tryd.func48, Tryd.ntmps48
      go_wp2
      go_region_held3 (fun w' => w'.cell? ⟨b, 6, none⟩ = some (.int .i64 x.a) ∧ w'.cell? ⟨b, 8, none⟩ = some (.slice gl x.li.length cl)) (go_keep) (first | (go_at_call 62; refine (A _ HB.out).mono ?_; rintro e w4 ⟨rfl, B4⟩; have t1 := cellLater B4 s1; have t2 := cellLater B4 s2; have HD := Hid.mk B4; clear B4) | (go_at_call 50; refine (C 1).mono ?_; rintro e w3 ⟨rfl, B3⟩; obtain ⟨s1, s2⟩ := HS.out _ B3; have HB := Hid.mk B3; clear B3))
      all_goals go_wp2
      all_goals go_ret
      all_goals exact ⟨rfl, belowOn (below_drewN (Below.refl _ _) 1) (belowOn HB.out HD.out)⟩
    · rw [q]
      rw [q] at C
      clear q A
      go_enter Tryd.func48, Tryd.ntmps48
      go_wp2
      refine wp_region_held_drew (S := (fun w' => w'.cell? ⟨b, 6, none⟩ = some (.int .i64 x.a) ∧ w'.cell? ⟨b, 8, none⟩ = some (.slice gl x.li.length cl))) (by kernel_rfl) ?_ (fun hHeld => ?_)
      · try dsimp only
        go_keep
      refine wpAnyH_take (i := 0) (v := ?_) rfl (by kernel_rfl) (by kernel_rfl) (by kernel_rfl) (fun _ _ _ h => h) (Or.inl ⟨by rfl, ?_⟩) (by assumption) ?_
      rotate_left
      · intro w' hSw
        try dsimp only at hSw
        go_simp
        try with_reducible rfl
      try simp only [Act.put, List.getElem_toArray, List.getElem_cons_zero, List.getElem_cons_succ, List.setIfInBounds_toArray, List.set_cons_zero, List.set_cons_succ]
      refine wpAnyH_ready (rs := [1]) (by kernel_rfl) (by simp) ?_
      refine AllReadyH.cons rfl (fun K hK => ?_) ?_
      · go_simp
        (go_at_call 50; refine (C 1).mono ?_; rintro e w3 ⟨rfl, B3⟩; obtain ⟨s1, s2⟩ := HS.out _ B3; have HB := Hid.mk B3; clear B3)
        try go_wp2_with fail
        refine hK.out _ _ ?_ (fun hHeld => ?_)
        · try dsimp only
          go_keep
        clear hK K
        try simp only [Act.put, List.getElem_toArray, List.getElem_cons_zero, List.getElem_cons_succ, List.setIfInBounds_toArray, List.set_cons_zero, List.set_cons_succ]
        refine wpAnyH_take (i := 2) (v := ?_) rfl (by kernel_rfl) (by kernel_rfl) (by kernel_rfl) (fun _ _ _ h => h) (Or.inl ⟨by rfl, ?_⟩) (by assumption) ?_
        rotate_left
        · intro w' hSw
          try dsimp only at hSw
          go_simp
          try with_reducible rfl
        try simp only [Act.put, List.getElem_toArray, List.getElem_cons_zero, List.getElem_cons_succ, List.setIfInBounds_toArray, List.set_cons_zero, List.set_cons_succ]
        refine wpAnyH_take (i := 3) (v := ?_) rfl (by kernel_rfl) (by kernel_rfl) (by kernel_rfl) (fun _ _ _ h => h) (Or.inl ⟨by rfl, ?_⟩) (by assumption) ?_
        rotate_left
        · intro w' hSw
          try dsimp only at hSw
          go_simp
          try with_reducible rfl
        try simp only [Act.put, List.getElem_toArray, List.getElem_cons_zero, List.getElem_cons_succ, List.setIfInBounds_toArray, List.set_cons_zero, List.set_cons_succ]
        refine wpAnyH_take (i := 4) (v := undef) rfl (by kernel_rfl) (by kernel_rfl) (by kernel_rfl) (fun _ _ _ h => h) (Or.inr ⟨by rfl, rfl⟩) (by assumption) ?_
        try simp only [Act.put, List.getElem_toArray, List.getElem_cons_zero, List.getElem_cons_succ, List.setIfInBounds_toArray, List.set_cons_zero, List.set_cons_succ]
        refine wpAnyH_take (i := 5) (v := undef) rfl (by kernel_rfl) (by kernel_rfl) (by kernel_rfl) (fun _ _ _ h => h) (Or.inr ⟨by rfl, rfl⟩) (by assumption) ?_
        try simp only [Act.put, List.getElem_toArray, List.getElem_cons_zero, List.getElem_cons_succ, List.setIfInBounds_toArray, List.set_cons_zero, List.set_cons_succ]
        refine wpAnyH_take (i := 6) (v := undef) rfl (by kernel_rfl) (by kernel_rfl) (by kernel_rfl) (fun _ _ _ h => h) (Or.inr ⟨by rfl, rfl⟩) (by assumption) ?_
        try simp only [Act.put, List.getElem_toArray, List.getElem_cons_zero, List.getElem_cons_succ, List.setIfInBounds_toArray, List.set_cons_zero, List.set_cons_succ]
        refine wpAnyH_take (i := 7) (v := undef) rfl (by kernel_rfl) (by kernel_rfl) (by kernel_rfl) (fun _ _ _ h => h) (Or.inr ⟨by rfl, rfl⟩) (by assumption) ?_
        try simp only [Act.put, List.getElem_toArray, List.getElem_cons_zero, List.getElem_cons_succ, List.setIfInBounds_toArray, List.set_cons_zero, List.set_cons_succ]
        refine wpAnyH_take (i := 8) (v := undef) rfl (by kernel_rfl) (by kernel_rfl) (by kernel_rfl) (fun _ _ _ h => h) (Or.inr ⟨by rfl, rfl⟩) (by assumption) ?_
        try simp only [Act.put, List.getElem_toArray, List.getElem_cons_zero, List.getElem_cons_succ, List.setIfInBounds_toArray, List.set_cons_zero, List.set_cons_succ]
        refine wpAnyH_take (i := 9) (v := undef) rfl (by kernel_rfl) (by kernel_rfl) (by kernel_rfl) (fun _ _ _ h => h) (Or.inr ⟨by rfl, rfl⟩) (by assumption) ?_
        try simp only [Act.put, List.getElem_toArray, List.getElem_cons_zero, List.getElem_cons_succ, List.setIfInBounds_toArray, List.set_cons_zero, List.set_cons_succ]
        refine wpAnyH_take (i := 10) (v := undef) rfl (by kernel_rfl) (by kernel_rfl) (by kernel_rfl) (fun _ _ _ h => h) (Or.inr ⟨by rfl, rfl⟩) (by assumption) ?_
        try simp only [Act.put, List.getElem_toArray, List.getElem_cons_zero, List.getElem_cons_succ, List.setIfInBounds_toArray, List.set_cons_zero, List.set_cons_succ]
        refine wpAnyH_take (i := 11) (v := undef) rfl (by kernel_rfl) (by kernel_rfl) (by kernel_rfl) (fun _ _ _ h => h) (Or.inr ⟨by rfl, rfl⟩) (by assumption) ?_
        try simp only [Act.put, List.getElem_toArray, List.getElem_cons_zero, List.getElem_cons_succ, List.setIfInBounds_toArray, List.set_cons_zero, List.set_cons_succ]
        refine wpAnyH_take (i := 12) (v := undef) rfl (by kernel_rfl) (by kernel_rfl) (by kernel_rfl) (fun _ _ _ h => h) (Or.inr ⟨by rfl, rfl⟩) (by assumption) ?_
        try simp only [Act.put, List.getElem_toArray, List.getElem_cons_zero, List.getElem_cons_succ, List.setIfInBounds_toArray, List.set_cons_zero, List.set_cons_succ]
        refine wpAnyH_take (i := 13) (v := undef) rfl (by kernel_rfl) (by kernel_rfl) (by kernel_rfl) (fun _ _ _ h => h) (Or.inr ⟨by rfl, rfl⟩) (by assumption) ?_
        try simp only [Act.put, List.getElem_toArray, List.getElem_cons_zero, List.getElem_cons_succ, List.setIfInBounds_toArray, List.set_cons_zero, List.set_cons_succ]
        refine wpAnyH_take (i := 14) (v := undef) rfl (by kernel_rfl) (by kernel_rfl) (by kernel_rfl) (fun _ _ _ h => h) (Or.inr ⟨by rfl, rfl⟩) (by assumption) ?_
        try simp only [Act.put, List.getElem_toArray, List.getElem_cons_zero, List.getElem_cons_succ, List.setIfInBounds_toArray, List.set_cons_zero, List.set_cons_succ]
        refine wpAnyH_take (i := 15) (v := undef) rfl (by kernel_rfl) (by kernel_rfl) (by kernel_rfl) (fun _ _ _ h => h) (Or.inr ⟨by rfl, rfl⟩) (by assumption) ?_
        try simp only [Act.put, List.getElem_toArray, List.getElem_cons_zero, List.getElem_cons_succ, List.setIfInBounds_toArray, List.set_cons_zero, List.set_cons_succ]
        refine wpAnyH_take (i := 16) (v := undef) rfl (by kernel_rfl) (by kernel_rfl) (by kernel_rfl) (fun _ _ _ h => h) (Or.inr ⟨by rfl, rfl⟩) (by assumption) ?_
        try simp only [Act.put, List.getElem_toArray, List.getElem_cons_zero, List.getElem_cons_succ, List.setIfInBounds_toArray, List.set_cons_zero, List.set_cons_succ]
        refine wpAnyH_take (i := 17) (v := ?_) rfl (by kernel_rfl) (by kernel_rfl) (by kernel_rfl) (fun _ _ _ h => h) (Or.inl ⟨by rfl, ?_⟩) (by assumption) ?_
        rotate_left
        · intro w' hSw
          try dsimp only at hSw
          go_simp
          try with_reducible rfl
        try simp only [Act.put, List.getElem_toArray, List.getElem_cons_zero, List.getElem_cons_succ, List.setIfInBounds_toArray, List.set_cons_zero, List.set_cons_succ]
        refine wpAnyH_take (i := 18) (v := ?_) rfl (by kernel_rfl) (by kernel_rfl) (by kernel_rfl) (fun _ _ _ h => h) (Or.inl ⟨by rfl, ?_⟩) (by assumption) ?_
        rotate_left
        · intro w' hSw
          try dsimp only at hSw
          go_simp
          try with_reducible rfl
        try simp only [Act.put, List.getElem_toArray, List.getElem_cons_zero, List.getElem_cons_succ, List.setIfInBounds_toArray, List.set_cons_zero, List.set_cons_succ]
        refine wpAnyH_done (by kernel_rfl) ?_ _
        go_wp2
        go_ret
        exact ⟨rfl, belowOn (below_drewN (Below.refl _ _) 1) HB.out⟩
      exact AllReadyH.nil
  have R : Hid (countsI c x = true) := ⟨by unfold countsI; rw [if_neg h1, if_neg h2, if_neg h3, if_neg h4]⟩
  rw [R.out]
  clear R K V T HI
  generalize x.op = o at *
  go_enter Tryd.func48, Tryd.ntmps48
  go_wp2
  go_ret
  exact ⟨rfl, Below.refl _ _⟩
end
end Go.Proofs.YtidplckoolmaiaaDoor
