/- The checker: the places of an instruction. -/
import Derived.Test.YtidplckoolmaiaaDoorCdg
import Derived.Laws.EntriesVeiled
namespace Go.Proofs.YtidplckoolmaiaaDoor
open Go.RowKit
set_option linter.unusedVariables false
set_option linter.unusedSimpArgs false

section
variable {w : World} {b : Nat} {c : Cd} {z : Int} {x : Ins} {vc vg vi vn vl vk vm va : Value}
theorem all_place {W : World} (K : Ck W b z x vc vg vi vn vl vk vm va) (V : Cv W c vc vg vi vn) (l : List Int) (v : Value) (h : Lst W 1 isInt l v) : Calls Tryd.prog 70 #[v, .func (.func 71) #[ptr b] #[]] W fun e w' => e = .returned (.bool (l.all fun p => standsI c p x.b)) ∧ Below W.heap.size W w' :=
  all70_71 l v W h (ptr b) (fun p => standsI c p x.b) (fun W' hW p _ hp => (place_any (K.later hW) (V.later hW) p hp).mono fun e w' ⟨q, r⟩ => ⟨q, by rw [r]; exact Below.refl _ _⟩)
set_option maxHeartbeats 2000000 in
theorem places_any (K : Ck w b z x vc vg vi vn vl vk vm va) (V : Cv w c vc vg vi vn) (I : Iv w x vl vk vm va) (hb : 0 ≤ x.b ∧ x.b ≤ 1000) (hm : x.ms.length ≤ 1000000000) (ha : In64 x.a) : Calls Tryd.prog 51 #[ptr b] w fun e w' => e = .returned (.bool (placesI c x)) ∧ Below w.heap.size w w' := by
  have HI := Hid.mk I
  obtain ⟨⟨gl, cl, rfl, _⟩, ⟨gk, ck, rfl, _⟩, ⟨gm, cm, rfl, _⟩, ⟨ga, ca, rfl, _⟩⟩ := I
  obtain ⟨W0, hW0⟩ : ∃ W0, W0 = w.alloc (.cells #[ptr b] 88) := ⟨_, rfl⟩
  obtain ⟨W1, hW1⟩ : ∃ W1, W1 = (W0.alloc (.cells #[.int .i64 x.op, .int .i64 x.a, .int .i64 x.b, .slice gl x.li.length cl, .slice gk x.ke.length ck, .slice gm x.ms.length cm, .slice ga x.ar.length ca] 42)) := ⟨_, rfl⟩
  have B0 : Below w.heap.size w W0 := by subst hW0; go_grown
  have B : Below w.heap.size w W1 := by subst hW1 hW0; go_grown
  have K0 := K.later B0
  have K1 := K.later B
  have V1 := V.later B
  have I1 := HI.out.later B
  have k5 := K0.c5
  have k6 := K0.c6
  have k7 := K0.c7
  have k8 := K0.c8
  have k9 := K0.c9
  have k10 := K0.c10
  have k11 := K0.c11
  have Q : W1.cell? ⟨w.heap.size, 0, none⟩ = some (ptr b) := by
    subst hW1
    refine cellLater (w := W0) (by go_grown) ?_
    subst hW0
    exact cellNew _ _ _ _ _ rfl
  have sz : W0.heap.size = w.heap.size + 1 := by subst hW0; simp
  have R2 : W1.cell? ⟨w.heap.size + 1, 2, none⟩ = some (.int .i64 x.b) := by rw [← sz, hW1]; exact cellNew _ _ _ _ _ rfl
  have R5 : W1.cell? ⟨w.heap.size + 1, 5, none⟩ = some (.slice gm x.ms.length cm) := by rw [← sz, hW1]; exact cellNew _ _ _ _ _ rfl
  have HB := Hid.mk B
  clear B B0 K0 sz
  by_cases h1 : x.op = 1
  · have R : Hid (placesI c x = x.ms.all (mkPl c (x.b + x.ms.length))) := ⟨by unfold placesI; rw [if_pos h1]⟩
    rw [R.out]
    obtain ⟨W2, hW2⟩ : ∃ W2, W2 = W1.alloc (.cells #[.func (.func 67) #[] #[ptr w.heap.size, ptr (w.heap.size + 1)]] 51) := ⟨_, rfl⟩
    have B2 : Below W1.heap.size W1 W2 := by subst hW2; go_grown
    have S : W2.cell? ⟨W1.heap.size, 0, none⟩ = some (.func (.func 67) #[] #[ptr w.heap.size, ptr (w.heap.size + 1)]) := by subst hW2; exact cellNew _ _ _ _ _ rfl
    have sz1 : W1.heap.size = w.heap.size + 2 := by subst hW1 hW0; simp
    rw [sz1] at S
    have C := all57_69 x.ms _ W2 (I1.later B2).ms (ptr (w.heap.size + 2)) (mkPl c (x.b + x.ms.length)) (fun W hW m _ vf hf => mkPl_any (K1.later (belowOn B2 hW)) (V1.later (belowOn B2 hW)) w.heap.size (w.heap.size + 1) (w.heap.size + 2) (cellLater (belowOn B2 hW) Q) (cellLater (belowOn B2 hW) R2) (cellLater (belowOn B2 hW) R5) ((I1.later (belowOn B2 hW)).ms) hb hm (cellLater hW S) m vf hf)
    have HB2 := Hid.mk (belowOn HB.out B2)
    clear K V K1 V1 I1 HI R Q R2 R5 S B2 sz1 HB
    generalize x.ms.all (mkPl c (x.b + x.ms.length)) = rv at *
    subst hW2 hW1 hW0
    rw [h1] at k5 C HB2
    rw [h1] at *
    clear h1
    go_enter Tryd.func51, Tryd.ntmps51
    go_wp2_with (go_at_call 57; refine C.mono ?_; rintro e w' ⟨rfl, B3⟩)
    go_ret
    exact ⟨rfl, belowOn HB2.out B3⟩
  clear R2 R5 hm
  by_cases h2 : x.op = 2
  · have R : Hid (placesI c x = (standsI c x.a x.b && x.li.all fun p => standsI c p x.b)) := ⟨by unfold placesI; rw [if_neg h1, if_pos h2]⟩
    rw [R.out]
    have C := place_any K1 V1 x.a ha
    have D := all_place K1 V1 x.li _ I1.li
    clear K V K1 V1 I1 HI R
    generalize (x.li.all fun p => standsI c p x.b) = rv at *
    generalize standsI c x.a x.b = sv at *
    subst hW1 hW0
    rw [h2] at *
    cases sv
    · go_enter Tryd.func51, Tryd.ntmps51
      go_wp2_with (go_at_call 71; refine C.mono ?_; rintro e w' ⟨rfl, rfl⟩)
      go_ret
      exact ⟨rfl, HB.out⟩
    · go_enter Tryd.func51, Tryd.ntmps51
      go_wp2_with (first | (go_at_call 71; refine C.mono ?_; rintro e w' ⟨rfl, rfl⟩) | (go_at_call 70; refine D.mono ?_; rintro e w' ⟨rfl, B3⟩))
      go_ret
      exact ⟨rfl, belowOn HB.out B3⟩
  by_cases h3 : x.op = 3
  · have R : Hid (placesI c x = standsI c x.a x.b) := ⟨by unfold placesI; rw [if_neg h1, if_neg h2, if_pos h3]⟩
    rw [R.out]
    have C := place_any K1 V1 x.a ha
    clear K V K1 V1 I1 HI R
    generalize standsI c x.a x.b = sv at *
    subst hW1 hW0
    rw [h3] at *
    go_enter Tryd.func51, Tryd.ntmps51
    go_wp2_with (go_at_call 71; refine C.mono ?_; rintro e w' ⟨rfl, rfl⟩)
    go_ret
    exact ⟨rfl, HB.out⟩
  by_cases h4 : x.op = 4
  · have R : Hid (placesI c x = ((x.li.all fun p => standsI c p x.b) && x.ke.all fun p => standsI c p x.b)) := ⟨by unfold placesI; rw [if_neg h1, if_neg h2, if_neg h3, if_pos h4]⟩
    rw [R.out]
    have C := all_place K1 V1 x.li _ I1.li
    have D : ∀ W, Below W1.heap.size W1 W → Calls Tryd.prog 70 #[.slice gk x.ke.length ck, .func (.func 71) #[ptr b] #[]] W fun e w' => e = .returned (.bool (x.ke.all fun p => standsI c p x.b)) ∧ Below W.heap.size W w' := fun W hW => all_place (K1.later hW) (V1.later hW) x.ke _ (I1.later hW).ke
    have R4 : W1.cell? ⟨w.heap.size + 1, 4, none⟩ = some (.slice gk x.ke.length ck) := by have sz : W0.heap.size = w.heap.size + 1 := (by subst hW0; simp); rw [← sz, hW1]; exact cellNew _ _ _ _ _ rfl
    clear K V K1 V1 I1 HI R
    generalize (x.li.all fun p => standsI c p x.b) = lv at *
    generalize (x.ke.all fun p => standsI c p x.b) = kv at *
    subst hW1 hW0
    rw [h4] at *
    cases lv
    · go_enter Tryd.func51, Tryd.ntmps51
      go_wp2_with (go_at_call 70; refine C.mono ?_; rintro e w' ⟨rfl, B3⟩)
      go_ret
      exact ⟨rfl, belowOn HB.out B3⟩
    · go_enter Tryd.func51, Tryd.ntmps51
      go_wp2_with (first | (go_at_call 70; have zz := K9; refine (D _ K9.out).mono ?_; rintro e w8 ⟨rfl, B8⟩) | (go_at_call 70; refine C.mono ?_; rintro e w7 ⟨rfl, B3⟩; have K9 := Hid.mk B3; have q7 := cellLater B3 Q; have r7 := cellLater B3 R4; clear B3 C))
      go_ret
      exact ⟨rfl, belowOn HB.out (belowOn K9.out B8)⟩
  by_cases h6 : x.op = 6
  · have R : Hid (placesI c x = x.li.all fun p => standsI c p x.b) := ⟨by unfold placesI; rw [if_neg h1, if_neg h2, if_neg h3, if_neg h4, if_pos h6]⟩
    rw [R.out]
    have D := all_place K1 V1 x.li _ I1.li
    clear K V K1 V1 I1 HI R
    generalize (x.li.all fun p => standsI c p x.b) = rv at *
    subst hW1 hW0
    rw [h6] at *
    go_enter Tryd.func51, Tryd.ntmps51
    go_wp2_with (go_at_call 70; refine D.mono ?_; rintro e w' ⟨rfl, B3⟩)
    go_ret
    exact ⟨rfl, belowOn HB.out B3⟩
  have R : Hid (placesI c x = true) := ⟨by unfold placesI; rw [if_neg h1, if_neg h2, if_neg h3, if_neg h4, if_neg h6]⟩
  rw [R.out]
  clear K V K1 V1 I1 HI R
  subst hW1 hW0
  generalize x.op = o at *
  go_enter Tryd.func51, Tryd.ntmps51
  go_wp2
  go_ret
  exact ⟨rfl, HB.out⟩
end
end Go.Proofs.YtidplckoolmaiaaDoor
