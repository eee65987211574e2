/- The instruction at a place; the functions that Check makes. -/
import Derived.Test.YtidplckoolmaiaaDoorCdm
namespace Go.Proofs.YtidplckoolmaiaaDoor
open Go.RowKit
set_option linter.unusedVariables false
set_option linter.unusedSimpArgs false

section
variable {w : World} {b : Nat} {c : Cd} {z : Int} {x : Ins} {vc vg vi vn vl vk vm va : Value}
/-- how great a code may be -/
structure Sc (c : Cd) : Prop where
  ins : c.ins.length ≤ 1000000000
  each : ∀ x ∈ c.ins, Sm x ∧ In64 x.a
set_option maxRecDepth 100000 in
set_option maxHeartbeats 2000000 in
theorem wrongInsn_any (T : Table w) (V : Cv w c vc vg vi vn) (S : Sc c) (hco : ∀ a ∈ c.co, 0 ≤ a ∧ a ≤ 8) (j : Nat) (hj : j < c.ins.length) : Calls Tryd.prog 26 #[.agg #[vc, vg, vi, vn], .int .i64 j] w fun e w' => e = .returned (.int .i64 (wrongI c j (c.ins[j]'hj))) ∧ Below w.heap.size w w' := by
  have HV := Hid.mk V
  obtain ⟨⟨gc, cc, rfl, _⟩, ⟨gg, cg, rfl, _⟩, ⟨gi, ci, rfl, _⟩, ⟨gn, cn, rfl, _⟩⟩ := V
  have B : Below w.heap.size w (w.alloc (.cells #[.slice gc c.co.length cc, .slice gg c.gl.length cg, .slice gi c.inf.length ci, .slice gn c.ins.length cn] 27)) := by go_grown
  obtain ⟨g', off, cap, cs, e, h1, h2, pc, hx⟩ := (HV.out.later B).ins.get j hj
  simp only [Value.slice.injEq] at e
  obtain ⟨rfl, _, rfl⟩ := e
  have hs := S.each _ (List.getElem_mem hj)
  have hl := S.ins
  generalize c.ins[j]'hj = x at *
  obtain ⟨vl, vk, vm, va, rfl, I1, I2, I3, I4⟩ := pc
  have HI := Hid.mk (Iv.mk I1 I2 I3 I4)
  obtain ⟨gl, cl, rfl, _⟩ := I1
  obtain ⟨gk, ck, rfl, _⟩ := I2
  obtain ⟨gm, cm, rfl, _⟩ := I3
  obtain ⟨ga, ca, rfl, _⟩ := I4
  have c0 := hx 0 _ rfl
  have c1 := hx 1 _ rfl
  have c2 := hx 2 _ rfl
  have c3 := hx 3 _ rfl
  have c4 := hx 4 _ rfl
  have c5 := hx 5 _ rfl
  have c6 := hx 6 _ rfl
  rw [Nat.add_zero] at c0
  have hj' : (j : Int) < c.ins.length := by omega
  unfold maxLen at h2
  have HT := Hid.mk T
  have HS := Hid.mk hs
  have HC := Hid.mk hco
  have B2 : Below w.heap.size w (((w.alloc (.cells #[.slice gc c.co.length cc, .slice gg c.gl.length cg, .slice gi c.inf.length ci, .slice (some ⟨g', off, none⟩) c.ins.length cn] 27))).alloc (.cells #[.slice gc c.co.length cc, .slice gg c.gl.length cg, .slice gi c.inf.length ci, .slice (some ⟨g', off, none⟩) c.ins.length cn, .int .i64 j, .int .i64 x.op, .int .i64 x.a, .int .i64 x.b, .slice gl x.li.length cl, .slice gk x.ke.length ck, .slice gm x.ms.length cm, .slice ga x.ar.length ca] 80)).drew := by go_grown
  have B3 : Below (w.alloc (.cells #[.slice gc c.co.length cc, .slice gg c.gl.length cg, .slice gi c.inf.length ci, .slice (some ⟨g', off, none⟩) c.ins.length cn] 27)).heap.size (w.alloc (.cells #[.slice gc c.co.length cc, .slice gg c.gl.length cg, .slice gi c.inf.length ci, .slice (some ⟨g', off, none⟩) c.ins.length cn] 27)) (((w.alloc (.cells #[.slice gc c.co.length cc, .slice gg c.gl.length cg, .slice gi c.inf.length ci, .slice (some ⟨g', off, none⟩) c.ins.length cn] 27))).alloc (.cells #[.slice gc c.co.length cc, .slice gg c.gl.length cg, .slice gi c.inf.length ci, .slice (some ⟨g', off, none⟩) c.ins.length cn, .int .i64 j, .int .i64 x.op, .int .i64 x.a, .int .i64 x.b, .slice gl x.li.length cl, .slice gk x.ke.length ck, .slice gm x.ms.length cm, .slice ga x.ar.length ca] 80)).drew := by go_grown
  have kk : ∀ o u, #[.slice gc c.co.length cc, .slice gg c.gl.length cg, .slice gi c.inf.length ci, .slice (some ⟨g', off, none⟩) c.ins.length cn, .int .i64 j, .int .i64 x.op, .int .i64 x.a, .int .i64 x.b, .slice gl x.li.length cl, .slice gk x.ke.length ck, .slice gm x.ms.length cm, .slice ga x.ar.length ca][o]? = some u → ((((w.alloc (.cells #[.slice gc c.co.length cc, .slice gg c.gl.length cg, .slice gi c.inf.length ci, .slice (some ⟨g', off, none⟩) c.ins.length cn] 27))).alloc (.cells #[.slice gc c.co.length cc, .slice gg c.gl.length cg, .slice gi c.inf.length ci, .slice (some ⟨g', off, none⟩) c.ins.length cn, .int .i64 j, .int .i64 x.op, .int .i64 x.a, .int .i64 x.b, .slice gl x.li.length cl, .slice gk x.ke.length ck, .slice gm x.ms.length cm, .slice ga x.ar.length ca] 80)).drew).cell? ⟨w.heap.size + 1, o, none⟩ = some u := fun o u h => by
    have := cellNew (w.alloc (.cells #[.slice gc c.co.length cc, .slice gg c.gl.length cg, .slice gi c.inf.length ci, .slice (some ⟨g', off, none⟩) c.ins.length cn] 27)) _ 80 o u h
    rw [World.size_alloc] at this
    exact this
  have C := wrong_any (T.later B2) (b := w.heap.size + 1) (z := j) ⟨kk 0 _ rfl, kk 1 _ rfl, kk 2 _ rfl, kk 3 _ rfl, kk 4 _ rfl, kk 5 _ rfl, kk 6 _ rfl, kk 7 _ rfl, kk 8 _ rfl, kk 9 _ rfl, kk 10 _ rfl, kk 11 _ rfl⟩ (HV.out.later B2) (HI.out.later B3) hs.1 hs.2 (by omega) hco
  have HB2 := Hid.mk B2
  clear kk B2 B3
  clear T S hco hx B hs hl
  go_enter Tryd.func26, Tryd.ntmps26
  go_wp2
  go_region_held3 (fun w' => w'.cell? ⟨w.heap.size, 0, none⟩ = some (.slice gc c.co.length cc) ∧ w'.cell? ⟨w.heap.size, 1, none⟩ = some (.slice gg c.gl.length cg) ∧ w'.cell? ⟨w.heap.size, 2, none⟩ = some (.slice gi c.inf.length ci) ∧ w'.cell? ⟨w.heap.size, 3, none⟩ = some (.slice (some ⟨g', off, none⟩) c.ins.length cn) ∧ w'.cell? ⟨g', off + j * 7, none⟩ = some (.int .i64 x.op) ∧ w'.cell? ⟨g', off + j * 7 + 1, none⟩ = some (.int .i64 x.a) ∧ w'.cell? ⟨g', off + j * 7 + 2, none⟩ = some (.int .i64 x.b) ∧ w'.cell? ⟨g', off + j * 7 + 3, none⟩ = some (.slice gl x.li.length cl) ∧ w'.cell? ⟨g', off + j * 7 + 4, none⟩ = some (.slice gk x.ke.length ck) ∧ w'.cell? ⟨g', off + j * 7 + 5, none⟩ = some (.slice gm x.ms.length cm) ∧ w'.cell? ⟨g', off + j * 7 + 6, none⟩ = some (.slice ga x.ar.length ca)) (go_keep) (fail)
  go_wp2_with (go_at_call 38; refine C.mono ?_; rintro e w' ⟨rfl, B3⟩)
  go_ret
  exact ⟨rfl, belowOn HB2.out B3⟩
structure Cq (w : World) (q : Nat) (vc vg vi vn : Value) : Prop where
  c0 : w.cell? ⟨q, 0, none⟩ = some vc
  c1 : w.cell? ⟨q, 1, none⟩ = some vg
  c2 : w.cell? ⟨q, 2, none⟩ = some vi
  c3 : w.cell? ⟨q, 3, none⟩ = some vn
theorem Cq.later {w w' : World} (hb : Below w.heap.size w w') {q : Nat} {vc vg vi vn : Value} (h : Cq w q vc vg vi vn) : Cq w' q vc vg vi vn :=
  ⟨cellLater hb h.c0, cellLater hb h.c1, cellLater hb h.c2, cellLater hb h.c3⟩
set_option maxHeartbeats 1000000 in
theorem ask19 {q : Nat} (Q : Cq w q vc vg vi vn) (V : Cv w c vc vg vi vn) (j : Nat) (hj : j < c.co.length) : Calls Tryd.prog 19 #[.int .i64 j, ptr q] w fun e w' => e = .returned (.int .i64 (wrongCon (c.co[j]'hj))) ∧ Below w.heap.size w w' := by
  have k0 := Q.c0
  obtain ⟨g', off, cap, cs, rfl, h1, h2, pc, hx⟩ := V.co.get j hj
  obtain ⟨s, rfl⟩ := pc
  have c0 := hx 0 _ rfl
  have c1 := hx 1 _ rfl
  rw [Nat.add_zero] at c0
  generalize c.co[j]'hj = t at *
  have hj' : (j : Int) < c.co.length := by omega
  unfold maxLen at h2
  clear Q V hx
  go_enter Tryd.func19, Tryd.ntmps19
  go_wp2_with (go_at_call 20; refine (wrongCon_any s t _).mono ?_; rintro e w' ⟨rfl, B3⟩)
  go_ret
  exact ⟨rfl, B3⟩
set_option maxHeartbeats 1000000 in
theorem ask21 {q : Nat} (Q : Cq w q vc vg vi vn) (V : Cv w c vc vg vi vn) (j : Nat) (hj : j < c.inf.length) : Calls Tryd.prog 21 #[.int .i64 j, ptr q] w fun e w' => e = .returned (.int .i64 (wrongInf c (c.inf[j]'hj))) ∧ Below w.heap.size w w' := by
  have HQ := Hid.mk Q
  have C := wrongInf_any (V.later (w' := w.drew) (Below.refl _ _).drew) (c.inf[j]'hj)
  obtain ⟨g', off, cap, cs, e, h1, h2, pc, hx⟩ := V.inf.get j hj
  have hx' := hx
  obtain ⟨⟨gc, cc, rfl, _⟩, ⟨gg, cg, rfl, _⟩, ⟨gi, ci, rfl, _⟩, ⟨gn, cn, rfl, _⟩⟩ := V
  simp only [Value.slice.injEq] at e
  obtain ⟨rfl, _, rfl⟩ := e
  unfold isInf at pc
  subst pc
  have c0 := hx' 0 _ rfl
  have c1 := hx' 1 _ rfl
  have c2 := hx' 2 _ rfl
  have c3 := hx' 3 _ rfl
  rw [Nat.add_zero] at c0
  generalize c.inf[j]'hj = t at *
  have hj' : (j : Int) < c.inf.length := by omega
  unfold maxLen at h2
  have k0 := Q.c0
  have k1 := Q.c1
  have k2 := Q.c2
  have k3 := Q.c3
  clear Q hx hx'
  go_enter Tryd.func21, Tryd.ntmps21
  go_wp2
  go_region_held3 (fun w' => w'.cell? ⟨q, 0, none⟩ = some (.slice gc c.co.length cc) ∧ w'.cell? ⟨q, 1, none⟩ = some (.slice gg c.gl.length cg) ∧ w'.cell? ⟨q, 2, none⟩ = some (.slice (some ⟨g', off, none⟩) c.inf.length ci) ∧ w'.cell? ⟨q, 3, none⟩ = some (.slice gn c.ins.length cn) ∧ w'.cell? ⟨g', off + j * 4, none⟩ = some (.int .i64 t.k) ∧ w'.cell? ⟨g', off + j * 4 + 1, none⟩ = some (.int .i64 t.a) ∧ w'.cell? ⟨g', off + j * 4 + 2, none⟩ = some (.int .i64 t.f) ∧ w'.cell? ⟨g', off + j * 4 + 3, none⟩ = some (.int .i64 t.t)) (go_keep) (first | (go_at_call 22; refine C.mono ?_; rintro e w3 ⟨rfl, B3⟩; have p0 := cellLater (belowOn (Below.refl _ _).drew B3) k0; have p1 := cellLater (belowOn (Below.refl _ _).drew B3) k1; have p2 := cellLater (belowOn (Below.refl _ _).drew B3) k2; have p3 := cellLater (belowOn (Below.refl _ _).drew B3) k3; have q0 := cellLater (belowOn (Below.refl _ _).drew B3) c0; have q1 := cellLater (belowOn (Below.refl _ _).drew B3) c1; have q2 := cellLater (belowOn (Below.refl _ _).drew B3) c2; have q3 := cellLater (belowOn (Below.refl _ _).drew B3) c3; have HB := Hid.mk B3; clear B3))
  all_goals go_wp2
  all_goals go_ret
  all_goals exact ⟨rfl, belowOn (Below.refl _ _).drew HB.out⟩
set_option maxHeartbeats 1000000 in
theorem ask23 {q : Nat} (Q : Cq w q vc vg vi vn) (V : Cv w c vc vg vi vn) (j : Nat) (hj : j < c.gl.length) : Calls Tryd.prog 23 #[.int .i64 j, ptr q] w fun e w' => e = .returned (.int .i64 (wrongGlo c (c.gl[j]'hj))) ∧ Below w.heap.size w w' := by
  have HQ := Hid.mk Q
  obtain ⟨g', off, cap, cs, e, h1, h2, pc, hx⟩ := V.gl.get j hj
  obtain ⟨s, rfl⟩ := pc
  have C := wrongGlo_any (V.later (w' := w.drew) (Below.refl _ _).drew) s (c.gl[j]'hj)
  have hx' := hx
  obtain ⟨⟨gc, cc, rfl, _⟩, ⟨gg, cg, rfl, _⟩, ⟨gi, ci, rfl, _⟩, ⟨gn, cn, rfl, _⟩⟩ := V
  simp only [Value.slice.injEq] at e
  obtain ⟨rfl, _, rfl⟩ := e
  have c0 := hx' 0 _ rfl
  have c1 := hx' 1 _ rfl
  rw [Nat.add_zero] at c0
  generalize c.gl[j]'hj = t at *
  have hj' : (j : Int) < c.gl.length := by omega
  unfold maxLen at h2
  have k0 := Q.c0
  have k1 := Q.c1
  have k2 := Q.c2
  have k3 := Q.c3
  clear Q hx hx'
  go_enter Tryd.func23, Tryd.ntmps23
  go_wp2
  go_region_held3 (fun w' => w'.cell? ⟨q, 0, none⟩ = some (.slice gc c.co.length cc) ∧ w'.cell? ⟨q, 1, none⟩ = some (.slice (some ⟨g', off, none⟩) c.gl.length cg) ∧ w'.cell? ⟨q, 2, none⟩ = some (.slice gi c.inf.length ci) ∧ w'.cell? ⟨q, 3, none⟩ = some (.slice gn c.ins.length cn) ∧ w'.cell? ⟨g', off + j * 2, none⟩ = some (.string s) ∧ w'.cell? ⟨g', off + j * 2 + 1, none⟩ = some (.int .i64 t)) (go_keep) (first | (go_at_call 24; refine C.mono ?_; rintro e w3 ⟨rfl, B3⟩; have p0 := cellLater (belowOn (Below.refl _ _).drew B3) k0; have p1 := cellLater (belowOn (Below.refl _ _).drew B3) k1; have p2 := cellLater (belowOn (Below.refl _ _).drew B3) k2; have p3 := cellLater (belowOn (Below.refl _ _).drew B3) k3; have q0 := cellLater (belowOn (Below.refl _ _).drew B3) c0; have q1 := cellLater (belowOn (Below.refl _ _).drew B3) c1; have HB := Hid.mk B3; clear B3))
  all_goals go_wp2
  all_goals go_ret
  all_goals exact ⟨rfl, belowOn (Below.refl _ _).drew HB.out⟩
set_option maxHeartbeats 1000000 in
theorem ask25 {q : Nat} (T : Table w) (Q : Cq w q vc vg vi vn) (V : Cv w c vc vg vi vn) (S : Sc c) (hco : ∀ a ∈ c.co, 0 ≤ a ∧ a ≤ 8) (j : Nat) (hj : j < c.ins.length) : Calls Tryd.prog 25 #[.int .i64 j, ptr q] w fun e w' => e = .returned (.int .i64 (wrongI c j (c.ins[j]'hj))) ∧ Below w.heap.size w w' := by
  have C := wrongInsn_any T V S hco j hj
  have k0 := Q.c0
  have k1 := Q.c1
  have k2 := Q.c2
  have k3 := Q.c3
  clear Q V S hco T
  generalize wrongI c j (c.ins[j]'hj) = r at *
  go_enter Tryd.func25, Tryd.ntmps25
  go_wp2_with (go_at_call 26; refine C.mono ?_; rintro e w' ⟨rfl, B3⟩)
  go_ret
  exact ⟨rfl, B3⟩
end
end Go.Proofs.YtidplckoolmaiaaDoor
