/- The checker: kinds, names, places of an instruction. -/
import Derived.Test.YtidplckoolmaiaaDoorCde
import Derived.Test.YtidplckoolmaiaaDoorCdb
namespace Go.Proofs.YtidplckoolmaiaaDoor
open Go.RowKit
set_option linter.unusedVariables false
set_option linter.unusedSimpArgs false

theorem cellNew (w : World) (cs : Array Value) (t : TypeId) (o : Nat) (u : Value) (h : cs[o]? = some u) : (w.alloc (.cells cs t)).cell? ⟨w.heap.size, o, none⟩ = some u := by
  simp only [World.cell?, heap_alloc_new]
  exact h
theorem cellLater {w w' : World} (h : Below w.heap.size w w') {p o : Nat} {u : Value} (e : w.cell? ⟨p, o, none⟩ = some u) : w'.cell? ⟨p, o, none⟩ = some u :=
  (h.cell (p := ⟨p, o, none⟩) (World.block_lt_of_cell? _ _ e)).trans e
section
variable {w : World} {b : Nat} {c : Cd} {z : Int} {x : Ins} {vc vg vi vn vl vk vm va : Value}
theorem names1_any (K : Ck w b z x vc vg vi vn vl vk vm va) (V : Cv w c vc vg vi vn) (q : Nat) (Q : w.cell? ⟨q, 0, none⟩ = some (ptr b)) (a : Arm) : Calls Tryd.prog 64 #[.agg #[.int .i64 a.k, .int .i64 a.c, .int .i64 a.n, .int .i64 a.t], ptr q] w fun e w' => e = .returned (.bool (armN c a)) ∧ Below w.heap.size w w' := by
  obtain ⟨k, i, n, t⟩ := a
  by_cases hk : k = 1
  · subst hk
    have B : Below w.heap.size w (w.alloc (.cells #[.int .i64 1, .int .i64 i, .int .i64 n, .int .i64 t] 73)) := by go_grown
    have C := con_any (K.later B) (V.later B) i
    have Q1 := cellLater B Q
    have R : Hid (armN c ⟨1, i, n, t⟩ = conB c i) := ⟨by unfold armN; rw [if_pos rfl]⟩
    rw [R.out]
    clear K V R B
    dsimp only
    go_enter Tryd.func64, Tryd.ntmps64
    go_wp2_with (go_at_call 65; refine C.mono ?_; rintro e w' ⟨rfl, rfl⟩)
    go_ret
    exact ⟨rfl, by go_grown⟩
  · have R : Hid (armN c ⟨k, i, n, t⟩ = true) := ⟨by unfold armN; rw [if_neg hk]⟩
    rw [R.out]
    clear K V R Q
    dsimp only
    go_enter Tryd.func64, Tryd.ntmps64
    go_wp2
    go_ret
    exact ⟨rfl, by go_grown⟩
theorem group_any (K : Ck w b z x vc vg vi vn vl vk vm va) (V : Cv w c vc vg vi vn) (q r : Nat) (Q : w.cell? ⟨q, 0, none⟩ = some (ptr b)) (R2 : w.cell? ⟨r, 2, none⟩ = some (.int .i64 x.b)) (R5 : w.cell? ⟨r, 5, none⟩ = some vm) (M : Lst w 4 (isMk w) x.ms vm) (hb : 0 ≤ x.b ∧ x.b ≤ 1000) (hm : x.ms.length ≤ 1000000000) (p : Int) (hp : In64 p) : Calls Tryd.prog 67 #[.int .i64 p, ptr q, ptr r] w fun e w' => e = .returned (.bool (standsI c p (x.b + x.ms.length))) ∧ Below w.heap.size w w' := by
  have C := stands_any K V p (x.b + x.ms.length) hp
  obtain ⟨gm, cm, rfl, _⟩ := M
  have hb1 := hb.1
  have hb2 := hb.2
  have hm' : (x.ms.length : Int) ≤ 1000000000 := by omega
  clear K V hb
  go_enter Tryd.func67, Tryd.ntmps67
  go_wp2_with (go_at_call 68; refine C.mono ?_; rintro e w' ⟨rfl, rfl⟩)
  go_ret
  exact ⟨rfl, Below.refl _ _⟩
set_option maxHeartbeats 1000000 in
theorem mkPl_any (K : Ck w b z x vc vg vi vn vl vk vm va) (V : Cv w c vc vg vi vn) (q r s : Nat) (Q : w.cell? ⟨q, 0, none⟩ = some (ptr b)) (R2 : w.cell? ⟨r, 2, none⟩ = some (.int .i64 x.b)) (R5 : w.cell? ⟨r, 5, none⟩ = some vm) (M : Lst w 4 (isMk w) x.ms vm) (hb : 0 ≤ x.b ∧ x.b ≤ 1000) (hm : x.ms.length ≤ 1000000000)
    (S : w.cell? ⟨s, 0, none⟩ = some (.func (.func 67) #[] #[ptr q, ptr r])) (m : Mk) (vf : Value) (hf : Lst w 1 isInt m.fr vf) : Calls Tryd.prog 69 #[.agg #[.int .i64 m.k, .int .i64 m.i, .int .i64 m.n, vf], ptr s] w fun e w' => e = .returned (.bool (mkPl c (x.b + x.ms.length) m)) ∧ Below w.heap.size w w' := by
  have HF := Hid.mk hf
  obtain ⟨gf, cf, rfl, _⟩ := hf
  obtain ⟨k, i, n, fr⟩ := m
  by_cases hk : k = 2
  · subst hk
    have R : Hid (mkPl c (x.b + x.ms.length) ⟨2, i, n, fr⟩ = true) := ⟨by unfold mkPl; rw [if_pos rfl]⟩
    rw [R.out]
    clear K V R Q R2 R5 M S HF
    dsimp only
    go_enter Tryd.func69, Tryd.ntmps69
    go_wp2
    go_ret
    exact ⟨rfl, by go_grown⟩
  · have B : Below w.heap.size w (w.alloc (.cells #[.int .i64 k, .int .i64 i, .int .i64 n, .slice gf fr.length cf] 30)) := by go_grown
    have C := all70_67 fr _ _ (HF.out.later B fun _ _ h => h) (ptr q) (ptr r) (fun p => standsI c p (x.b + x.ms.length)) (fun W hW p _ hp => group_any (K.later (belowOn B hW)) (V.later (belowOn B hW)) q r (cellLater (belowOn B hW) Q) (cellLater (belowOn B hW) R2) (cellLater (belowOn B hW) R5) (M.later (belowOn B hW) fun _ _ h => isMk_later (belowOn B hW) h) hb hm p hp)
    have S1 := cellLater B S
    have R : Hid (mkPl c (x.b + x.ms.length) ⟨k, i, n, fr⟩ = fr.all fun p => standsI c p (x.b + x.ms.length)) := ⟨by unfold mkPl; rw [if_neg hk]⟩
    rw [R.out]
    clear K V R Q R2 R5 M S HF B
    generalize (fr.all fun p => standsI c p (x.b + x.ms.length)) = rv at *
    dsimp only
    go_enter Tryd.func69, Tryd.ntmps69
    go_wp2_with (go_at_call 70; refine C.mono ?_; rintro e w' ⟨rfl, B3⟩)
    go_ret
    exact ⟨retBool (by simp [hk]), belowOn (by go_grown) B3⟩
set_option maxHeartbeats 1000000 in
theorem kinds_any (K : Ck w b z x vc vg vi vn vl vk vm va) (I : Iv w x vl vk vm va) : Calls Tryd.prog 46 #[ptr b] w fun e w' => e = .returned (.bool (kindsI x)) ∧ Below w.heap.size w w' := by
  have k5 := K.c5
  have k10 := K.c10
  have k11 := K.c11
  clear K
  by_cases h1 : x.op = 1
  · have R : Hid (kindsI x = x.ms.all mkKind) := ⟨by unfold kindsI; rw [if_pos h1]⟩
    rw [R.out]
    have C := all57_58 x.ms vm w I.ms mkKind (fun W hW m _ vf hf => makeKind_any m vf W hf)
    rw [h1] at k5
    clear R h1 I
    go_enter Tryd.func46, Tryd.ntmps46
    go_wp2_with (go_at_call 57; refine C.mono ?_; rintro e w' ⟨rfl, B3⟩)
    go_ret
    exact ⟨rfl, B3⟩
  by_cases h5 : x.op = 5
  · have R : Hid (kindsI x = x.ar.all arKind) := ⟨by unfold kindsI; rw [if_neg h1, if_pos h5]⟩
    rw [R.out]
    have C := all59_60 x.ar va w I.ar arKind (fun W hW m _ => armKind_any m W)
    rw [h5] at k5
    clear R h1 h5 I
    go_enter Tryd.func46, Tryd.ntmps46
    go_wp2_with (go_at_call 59; refine C.mono ?_; rintro e w' ⟨rfl, B3⟩)
    go_ret
    exact ⟨rfl, B3⟩
  have R : Hid (kindsI x = (x.op == 2 || (x.op == 3 || (x.op == 4 || x.op == 6)))) := ⟨by unfold kindsI; rw [if_neg h1, if_neg h5]⟩
  rw [R.out]
  clear R I
  generalize x.op = o at *
  by_cases h2 : o = 2
  · subst h2; go_enter Tryd.func46, Tryd.ntmps46; go_wp2; go_ret; exact ⟨rfl, Below.refl _ _⟩
  by_cases h3 : o = 3
  · subst h3; go_enter Tryd.func46, Tryd.ntmps46; go_wp2; go_ret; exact ⟨rfl, Below.refl _ _⟩
  by_cases h4 : o = 4
  · subst h4; go_enter Tryd.func46, Tryd.ntmps46; go_wp2; go_ret; exact ⟨rfl, Below.refl _ _⟩
  by_cases h6 : o = 6
  · subst h6; go_enter Tryd.func46, Tryd.ntmps46; go_wp2; go_ret; exact ⟨rfl, Below.refl _ _⟩
  go_enter Tryd.func46, Tryd.ntmps46; go_wp2; go_ret; exact ⟨retBool (by simp [*]), Below.refl _ _⟩
set_option maxHeartbeats 1000000 in
theorem names_any (K : Ck w b z x vc vg vi vn vl vk vm va) (V : Cv w c vc vg vi vn) (I : Iv w x vl vk vm va) : Calls Tryd.prog 49 #[ptr b] w fun e w' => e = .returned (.bool (namesI c x)) ∧ Below w.heap.size w w' := by
  have B : Below w.heap.size w (w.alloc (.cells #[ptr b] 88)) := by go_grown
  have k5 := (K.later B).c5
  have k10 := (K.later B).c10
  have k11 := (K.later B).c11
  have Q : (w.alloc (.cells #[ptr b] 88)).cell? ⟨w.heap.size, 0, none⟩ = some (ptr b) := cellNew _ _ _ _ _ rfl
  by_cases h1 : x.op = 1
  · have R : Hid (namesI c x = x.ms.all (namedI c)) := ⟨by unfold namesI; rw [if_pos h1]⟩
    rw [R.out]
    have B1 : Below w.heap.size w (w.alloc (.cells #[ptr b] 88)).drew := B.drew
    have C := all57_63 x.ms vm _ (I.later B1).ms (ptr b) (namedI c) (fun W hW m _ vf hf => named_any (K.later (belowOn B1 hW)) (V.later (belowOn B1 hW)) m vf hf)
    have HS : Hid (∀ w3, Below (w.alloc (.cells #[ptr b] 88)).drew.heap.size (w.alloc (.cells #[ptr b] 88)).drew w3 → w3.cell? ⟨w.heap.size, 0, none⟩ = some (ptr b) ∧ w3.cell? ⟨b, 10, none⟩ = some vm) := ⟨fun w3 h => ⟨cellLater h Q, cellLater h (K.later B1).c10⟩⟩
    rw [h1] at k5
    obtain ⟨gm, cm, rfl, _⟩ := I.ms
    have HB1 := Hid.mk B1
    clear R h1 I K V B k11 B1
    go_enter Tryd.func49, Tryd.ntmps49
    go_wp2
    go_region_held3 (fun w' => w'.cell? ⟨w.heap.size, 0, none⟩ = some (ptr b) ∧ w'.cell? ⟨b, 10, none⟩ = some (.slice gm x.ms.length cm)) (go_keep) (first | (go_at_call 57; refine C.mono ?_; rintro e w3 ⟨rfl, B3⟩; obtain ⟨s1, s2⟩ := HS.out _ B3; have HB := Hid.mk B3; clear B3))
    all_goals go_wp2
    all_goals go_ret
    all_goals exact ⟨rfl, belowOn HB1.out HB.out⟩
  by_cases h5 : x.op = 5
  · have R : Hid (namesI c x = x.ar.all (armN c)) := ⟨by unfold namesI; rw [if_neg h1, if_pos h5]⟩
    rw [R.out]
    have C := all59_64 x.ar va _ (I.later B).ar (ptr w.heap.size) (armN c) (fun W hW m _ => names1_any (K.later (belowOn B hW)) (V.later (belowOn B hW)) w.heap.size (cellLater hW Q) m)
    rw [h5] at k5
    clear R h1 h5 I K V B
    go_enter Tryd.func49, Tryd.ntmps49
    go_wp2_with (go_at_call 59; refine C.mono ?_; rintro e w' ⟨rfl, B3⟩)
    go_ret
    exact ⟨rfl, belowOn (by go_grown) B3⟩
  have R : Hid (namesI c x = true) := ⟨by unfold namesI; rw [if_neg h1, if_neg h5]⟩
  rw [R.out]
  clear R I K V
  generalize x.op = o at *
  go_enter Tryd.func49, Tryd.ntmps49; go_wp2; go_ret; exact ⟨rfl, by go_grown⟩
end
end Go.Proofs.YtidplckoolmaiaaDoor
