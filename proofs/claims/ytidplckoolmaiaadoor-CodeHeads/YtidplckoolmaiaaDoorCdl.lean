/- What is wrong with an instruction: the checker whole. -/
import Derived.Test.YtidplckoolmaiaaDoorCdk
namespace Go.Proofs.YtidplckoolmaiaaDoor
open Go.RowKit
set_option linter.unusedVariables false
set_option linter.unusedSimpArgs false

section
variable {w : World} {b : Nat} {c : Cd} {z : Int} {x : Ins} {vc vg vi vn vl vk vm va : Value}
set_option maxHeartbeats 1000000 in
theorem ways_any (K : Ck w b z x vc vg vi vn vl vk vm va) (V : Cv w c vc vg vi vn) (I : Iv w x vl vk vm va) (S : Sm x) (hb : 0 ≤ x.b ∧ x.b ≤ 1000) (hz : 0 ≤ z ∧ z ≤ 1000000000) (hco : ∀ a ∈ c.co, 0 ≤ a ∧ a ≤ 8) (hn : namesI c x = true) : Calls Tryd.prog 53 #[ptr b] w fun e w' => ∃ v, e = .returned v ∧ Lst w' 2 isWay (waysI c z x) v ∧ Below w.heap.size w w' := by
  by_cases h1 : x.op = 1
  · have := ways_1 K I S hb hz h1
    have e : waysI c z x = [(z + 1, x.b + x.ms.length)] := by unfold waysI; rw [if_pos h1]
    rwa [← e] at this
  by_cases h4 : x.op = 4
  · have := ways_4 K I S hz h4
    have e : waysI c z x = [(z + 1, (x.li.length : Int)), (x.a, (x.ke.length : Int) + 1)] := by unfold waysI; rw [if_neg h1, if_pos h4]
    rwa [← e] at this
  by_cases h5 : x.op = 5
  · have e : waysI c z x = x.ar.map fun a => (a.t, x.b + fieldsI c a) := by unfold waysI; rw [if_neg h1, if_neg h4, if_pos h5]
    rw [e]
    refine ways_5 K V I S hb hco (fun a h => ?_) h5
    unfold namesI at hn
    rw [if_neg h1, if_pos h5, List.all_eq_true] at hn
    exact hn a h
  have e : waysI c z x = [] := by unfold waysI; rw [if_neg h1, if_neg h4, if_neg h5]
  rw [e]
  have HL := fun W => Hid.mk (way_none W)
  obtain ⟨⟨gl, cl, rfl, _⟩, ⟨gk, ck, rfl, _⟩, ⟨gm, cm, rfl, _⟩, ⟨ga, ca, rfl, _⟩⟩ := I
  have k5 := K.c5
  have k6 := K.c6
  have k7 := K.c7
  have k8 := K.c8
  have k9 := K.c9
  have k10 := K.c10
  have k11 := K.c11
  clear K V S hb hz hco hn e
  generalize x.op = o at *
  go_enter Tryd.func53, Tryd.ntmps53
  go_wp2
  go_ret
  exact ⟨_, rfl, (HL _).out, by go_grown⟩
theorem localsI_b (h : localsI x = true) : 0 ≤ x.b ∧ x.b ≤ 1000 := by
  unfold localsI at h
  split at h
  · simp at h; omega
  · simpa using h
set_option maxHeartbeats 1000000 in
theorem wrong_any (T : Table w) (K : Ck w b z x vc vg vi vn vl vk vm va) (V : Cv w c vc vg vi vn) (I : Iv w x vl vk vm va) (S : Sm x) (ha : In64 x.a) (hz : 0 ≤ z ∧ z ≤ 1000000000) (hco : ∀ a ∈ c.co, 0 ≤ a ∧ a ≤ 8) : Calls Tryd.prog 38 #[ptr b] w fun e w' => e = .returned (.int .i64 (wrongI c z x)) ∧ Below w.heap.size w w' := by
  rcases Bool.eq_false_or_eq_true (kindsI x) with q0 | q0
  rotate_left
  · have e : wrongI c z x = 6 := by unfold wrongI; rw [if_pos q0]
    rw [e]
    exact wrong_f0 (Pw := fun _ _ => True) (fun W hW => by have := kinds_any (K.later hW) (I.later hW); rwa [q0] at this)
  rcases Bool.eq_false_or_eq_true (localsI x) with q1 | q1
  rotate_left
  · have e : wrongI c z x = 7 := by unfold wrongI; rw [if_neg (by rw [q0]; simp), if_pos q1]
    rw [e]
    exact wrong_f1 (Pw := fun _ _ => True) (fun W hW => by have := kinds_any (K.later hW) (I.later hW); rwa [q0] at this) (fun W hW => by have := locals_any (K.later hW); rw [q1] at this; exact this.mono fun e w' ⟨p, r⟩ => ⟨p, by rw [r]; exact Below.refl _ _⟩)
  have hb := localsI_b q1
  rcases Bool.eq_false_or_eq_true (countsI c x) with q2 | q2
  rotate_left
  · have e : wrongI c z x = 33 := by unfold wrongI; rw [if_neg (by rw [q0]; simp), if_neg (by rw [q1]; simp), if_pos q2]
    rw [e]
    exact wrong_f2 (Pw := fun _ _ => True) (fun W hW => by have := kinds_any (K.later hW) (I.later hW); rwa [q0] at this) (fun W hW => by have := locals_any (K.later hW); rw [q1] at this; exact this.mono fun e w' ⟨p, r⟩ => ⟨p, by rw [r]; exact Below.refl _ _⟩) (fun W hW => by have := counts_any (T.later hW) (K.later hW) (V.later hW) (I.later hW); rwa [q2] at this)
  rcases Bool.eq_false_or_eq_true (namesI c x) with q3 | q3
  rotate_left
  · have e : wrongI c z x = 32 := by unfold wrongI; rw [if_neg (by rw [q0]; simp), if_neg (by rw [q1]; simp), if_neg (by rw [q2]; simp), if_pos q3]
    rw [e]
    exact wrong_f3 (Pw := fun _ _ => True) (fun W hW => by have := kinds_any (K.later hW) (I.later hW); rwa [q0] at this) (fun W hW => by have := locals_any (K.later hW); rw [q1] at this; exact this.mono fun e w' ⟨p, r⟩ => ⟨p, by rw [r]; exact Below.refl _ _⟩) (fun W hW => by have := counts_any (T.later hW) (K.later hW) (V.later hW) (I.later hW); rwa [q2] at this) (fun W hW => by have := names_any (K.later hW) (V.later hW) (I.later hW); rwa [q3] at this)
  have hnm := q3
  rcases Bool.eq_false_or_eq_true (primI x) with q4 | q4
  rotate_left
  · have e : wrongI c z x = 34 := by unfold wrongI; rw [if_neg (by rw [q0]; simp), if_neg (by rw [q1]; simp), if_neg (by rw [q2]; simp), if_neg (by rw [q3]; simp), if_pos q4]
    rw [e]
    exact wrong_f4 (Pw := fun _ _ => True) (fun W hW => by have := kinds_any (K.later hW) (I.later hW); rwa [q0] at this) (fun W hW => by have := locals_any (K.later hW); rw [q1] at this; exact this.mono fun e w' ⟨p, r⟩ => ⟨p, by rw [r]; exact Below.refl _ _⟩) (fun W hW => by have := counts_any (T.later hW) (K.later hW) (V.later hW) (I.later hW); rwa [q2] at this) (fun W hW => by have := names_any (K.later hW) (V.later hW) (I.later hW); rwa [q3] at this) (fun W hW => by have := prim_any (T.later hW) (K.later hW); rwa [q4] at this)
  rcases Bool.eq_false_or_eq_true (placesI c x) with q5 | q5
  rotate_left
  · have e : wrongI c z x = 4 := by unfold wrongI; rw [if_neg (by rw [q0]; simp), if_neg (by rw [q1]; simp), if_neg (by rw [q2]; simp), if_neg (by rw [q3]; simp), if_neg (by rw [q4]; simp), if_pos q5]
    rw [e]
    exact wrong_f5 (Pw := fun _ _ => True) (fun W hW => by have := kinds_any (K.later hW) (I.later hW); rwa [q0] at this) (fun W hW => by have := locals_any (K.later hW); rw [q1] at this; exact this.mono fun e w' ⟨p, r⟩ => ⟨p, by rw [r]; exact Below.refl _ _⟩) (fun W hW => by have := counts_any (T.later hW) (K.later hW) (V.later hW) (I.later hW); rwa [q2] at this) (fun W hW => by have := names_any (K.later hW) (V.later hW) (I.later hW); rwa [q3] at this) (fun W hW => by have := prim_any (T.later hW) (K.later hW); rwa [q4] at this) (fun W hW => by have := places_any (K.later hW) (V.later hW) (I.later hW) hb S.ms ha; rwa [q5] at this)
  rcases Bool.eq_false_or_eq_true ((waysI c z x).all (thereI c)) with q6 | q6
  rotate_left
  · have e : wrongI c z x = 4 := by unfold wrongI; rw [if_neg (by rw [q0]; simp), if_neg (by rw [q1]; simp), if_neg (by rw [q2]; simp), if_neg (by rw [q3]; simp), if_neg (by rw [q4]; simp), if_neg (by rw [q5]; simp), if_pos q6]
    rw [e]
    exact wrong_f6 (Pw := fun W v => Lst W 2 isWay (waysI c z x) v) (fun W hW => by have := kinds_any (K.later hW) (I.later hW); rwa [q0] at this) (fun W hW => by have := locals_any (K.later hW); rw [q1] at this; exact this.mono fun e w' ⟨p, r⟩ => ⟨p, by rw [r]; exact Below.refl _ _⟩) (fun W hW => by have := counts_any (T.later hW) (K.later hW) (V.later hW) (I.later hW); rwa [q2] at this) (fun W hW => by have := names_any (K.later hW) (V.later hW) (I.later hW); rwa [q3] at this) (fun W hW => by have := prim_any (T.later hW) (K.later hW); rwa [q4] at this) (fun W hW => by have := places_any (K.later hW) (V.later hW) (I.later hW) hb S.ms ha; rwa [q5] at this) (fun W v hW hv => by have := all52_54 _ v W hv (ptr b) (thereI c) (fun W' hW' y _ => there_any (K.later (belowOn hW hW')) (V.later (belowOn hW hW')) y); rwa [q6] at this) (fun W hW => ways_any (K.later hW) (V.later hW) (I.later hW) S hb hz hco hnm)
  have hth : ∀ y ∈ waysI c z x, thereI c y = true := List.all_eq_true.1 q6
  have har : x.op = 4 → belowI x.a c.ins.length = true := fun h => hth (x.a, (x.ke.length : Int) + 1) (by unfold waysI; rw [if_neg (by omega), if_pos h]; simp)
  rcases Bool.eq_false_or_eq_true (armsI c x) with q7 | q7
  rotate_left
  · have e : wrongI c z x = 6 := by unfold wrongI; rw [if_neg (by rw [q0]; simp), if_neg (by rw [q1]; simp), if_neg (by rw [q2]; simp), if_neg (by rw [q3]; simp), if_neg (by rw [q4]; simp), if_neg (by rw [q5]; simp), if_neg (by rw [q6]; simp), if_pos q7]
    rw [e]
    exact wrong_f7 (Pw := fun W v => Lst W 2 isWay (waysI c z x) v) (fun W hW => by have := kinds_any (K.later hW) (I.later hW); rwa [q0] at this) (fun W hW => by have := locals_any (K.later hW); rw [q1] at this; exact this.mono fun e w' ⟨p, r⟩ => ⟨p, by rw [r]; exact Below.refl _ _⟩) (fun W hW => by have := counts_any (T.later hW) (K.later hW) (V.later hW) (I.later hW); rwa [q2] at this) (fun W hW => by have := names_any (K.later hW) (V.later hW) (I.later hW); rwa [q3] at this) (fun W hW => by have := prim_any (T.later hW) (K.later hW); rwa [q4] at this) (fun W hW => by have := places_any (K.later hW) (V.later hW) (I.later hW) hb S.ms ha; rwa [q5] at this) (fun W v hW hv => by have := all52_54 _ v W hv (ptr b) (thereI c) (fun W' hW' y _ => there_any (K.later (belowOn hW hW')) (V.later (belowOn hW hW')) y); rwa [q6] at this) (fun W hW => by have := arms_any (K.later hW) (V.later hW) har; rwa [q7] at this) (fun W hW => ways_any (K.later hW) (V.later hW) (I.later hW) S hb hz hco hnm)
  rcases Bool.eq_false_or_eq_true ((waysI c z x).all (fitsI c)) with q8 | q8
  rotate_left
  · have e : wrongI c z x = 7 := by unfold wrongI; rw [if_neg (by rw [q0]; simp), if_neg (by rw [q1]; simp), if_neg (by rw [q2]; simp), if_neg (by rw [q3]; simp), if_neg (by rw [q4]; simp), if_neg (by rw [q5]; simp), if_neg (by rw [q6]; simp), if_neg (by rw [q7]; simp), if_pos q8]
    rw [e]
    exact wrong_f8 (Pw := fun W v => Lst W 2 isWay (waysI c z x) v) (fun W hW => by have := kinds_any (K.later hW) (I.later hW); rwa [q0] at this) (fun W hW => by have := locals_any (K.later hW); rw [q1] at this; exact this.mono fun e w' ⟨p, r⟩ => ⟨p, by rw [r]; exact Below.refl _ _⟩) (fun W hW => by have := counts_any (T.later hW) (K.later hW) (V.later hW) (I.later hW); rwa [q2] at this) (fun W hW => by have := names_any (K.later hW) (V.later hW) (I.later hW); rwa [q3] at this) (fun W hW => by have := prim_any (T.later hW) (K.later hW); rwa [q4] at this) (fun W hW => by have := places_any (K.later hW) (V.later hW) (I.later hW) hb S.ms ha; rwa [q5] at this) (fun W v hW hv => by have := all52_54 _ v W hv (ptr b) (thereI c) (fun W' hW' y _ => there_any (K.later (belowOn hW hW')) (V.later (belowOn hW hW')) y); rwa [q6] at this) (fun W hW => by have := arms_any (K.later hW) (V.later hW) har; rwa [q7] at this) (fun W v hW hv => by have := all52_56 _ v W hv (ptr b) (fitsI c) (fun W' hW' y hy => fits_any (K.later (belowOn hW hW')) (V.later (belowOn hW hW')) y (hth y hy)); rwa [q8] at this) (fun W hW => ways_any (K.later hW) (V.later hW) (I.later hW) S hb hz hco hnm)
  have e : wrongI c z x = 0 := by unfold wrongI; rw [if_neg (by rw [q0]; simp), if_neg (by rw [q1]; simp), if_neg (by rw [q2]; simp), if_neg (by rw [q3]; simp), if_neg (by rw [q4]; simp), if_neg (by rw [q5]; simp), if_neg (by rw [q6]; simp), if_neg (by rw [q7]; simp), if_neg (by rw [q8]; simp)]
  rw [e]
  exact wrong_ok (Pw := fun W v => Lst W 2 isWay (waysI c z x) v) (fun W hW => by have := kinds_any (K.later hW) (I.later hW); rwa [q0] at this) (fun W hW => by have := locals_any (K.later hW); rw [q1] at this; exact this.mono fun e w' ⟨p, r⟩ => ⟨p, by rw [r]; exact Below.refl _ _⟩) (fun W hW => by have := counts_any (T.later hW) (K.later hW) (V.later hW) (I.later hW); rwa [q2] at this) (fun W hW => by have := names_any (K.later hW) (V.later hW) (I.later hW); rwa [q3] at this) (fun W hW => by have := prim_any (T.later hW) (K.later hW); rwa [q4] at this) (fun W hW => by have := places_any (K.later hW) (V.later hW) (I.later hW) hb S.ms ha; rwa [q5] at this) (fun W v hW hv => by have := all52_54 _ v W hv (ptr b) (thereI c) (fun W' hW' y _ => there_any (K.later (belowOn hW hW')) (V.later (belowOn hW hW')) y); rwa [q6] at this) (fun W hW => by have := arms_any (K.later hW) (V.later hW) har; rwa [q7] at this) (fun W v hW hv => by have := all52_56 _ v W hv (ptr b) (fitsI c) (fun W' hW' y hy => fits_any (K.later (belowOn hW hW')) (V.later (belowOn hW hW')) y (hth y hy)); rwa [q8] at this) (fun W hW => ways_any (K.later hW) (V.later hW) (I.later hW) S hb hz hco hnm)
end
end Go.Proofs.YtidplckoolmaiaaDoor
