/- The document's own check: arms, and what is no instruction. -/
import Derived.Test.YtidplckoolmaiaaDoorRfh
import Derived.Test.YtidplckoolmaiaaDoorRfe
import Derived.Deep.Cut
namespace Go.Proofs.YtidplckoolmaiaaDoor
open Go.RowKit
set_option linter.unusedVariables false
set_option linter.unusedSimpArgs false

section
variable {w : World} {c : Cd} {vc vg vi vn : Value}
set_option maxRecDepth 100000 in
set_option maxHeartbeats 8000000 in
theorem insn_0 (V : Cv w c vc vg vi vn) (z : Nat) (hz : z < c.ins.length) (o1 : ¬ (c.ins[z]'hz).op = 1) (o2 : ¬ (c.ins[z]'hz).op = 2) (o3 : ¬ (c.ins[z]'hz).op = 3) (o4 : ¬ (c.ins[z]'hz).op = 4) (o5 : ¬ (c.ins[z]'hz).op = 5) (o6 : ¬ (c.ins[z]'hz).op = 6) : Calls Tryd.prog 16 #[.agg #[vc, vg, vi, vn], .int .i64 z] w fun e w' => ∃ r, e = .returned (.int .i64 r) ∧ Below w.heap.size w w' := by
  have HV := Hid.mk V
  obtain ⟨⟨gc, cc, rfl, _⟩, ⟨gg, cg, rfl, _⟩, ⟨gi, ci, rfl, _⟩, ⟨gn, cn, rfl, _⟩⟩ := V
  obtain ⟨W0, hW0⟩ : ∃ W0, W0 = w.alloc (.cells #[.slice gc c.co.length cc, .slice gg c.gl.length cg, .slice gi c.inf.length ci, .slice gn c.ins.length cn] 27) := ⟨_, rfl⟩
  have B0 : Below w.heap.size w W0 := by subst hW0; go_grown
  obtain ⟨g', off, cap, cs, e, h1, h2, pc, hx⟩ := (HV.out.later B0).ins.get z hz
  simp only [Value.slice.injEq] at e
  obtain ⟨rfl, _, rfl⟩ := e
  generalize c.ins[z]'hz = x at *
  obtain ⟨vl, vk, vm, va, rfl, I1, I2, I3, I4⟩ := pc
  have HI0 := Hid.mk (Iv.mk I1 I2 I3 I4)
  obtain ⟨gl, cl, rfl, hl1, _⟩ := I1
  obtain ⟨gk, ck, rfl, hk1, _⟩ := I2
  obtain ⟨gm, cm, rfl, hm1, _⟩ := I3
  obtain ⟨ga, ca, rfl, ha1, _⟩ := I4
  have c0 := hx 0 _ rfl
  have c1 := hx 1 _ rfl
  have c2 := hx 2 _ rfl
  have c3 := hx 3 _ rfl
  have c4 := hx 4 _ rfl
  have c5 := hx 5 _ rfl
  have c6 := hx 6 _ rfl
  rw [Nat.add_zero] at c0
  have hz' : (z : Int) < c.ins.length := by omega
  unfold maxLen at h2
  have hl2 := hl1.2
  have hk2 := hk1.2
  have hm2 := hm1.2
  have ha2 := ha1.2
  unfold maxLen at hl2 hk2 hm2 ha2
  clear hl1 hk1 hm1 ha1 hx
  obtain ⟨W1, hW1⟩ : ∃ W1, W1 = W0.alloc (.cells #[.int .i64 x.op, .int .i64 x.a, .int .i64 x.b, .slice gl x.li.length cl, .slice gk x.ke.length ck, .slice gm x.ms.length cm, .slice ga x.ar.length ca] 42) := ⟨_, rfl⟩
  have sz : W0.heap.size = w.heap.size + 1 := by subst hW0; simp
  have B01 : Below W0.heap.size W0 W1 := by subst hW1; go_grown
  have B1 := belowOn B0 B01
  have kc : ∀ o u, #[.slice gc c.co.length cc, .slice gg c.gl.length cg, .slice gi c.inf.length ci, .slice (some ⟨g', off, none⟩) c.ins.length cn][o]? = some u → W1.cell? ⟨w.heap.size, o, none⟩ = some u := fun o u h => by
    refine cellLater B01 ?_
    subst hW0
    exact cellNew _ _ _ _ _ h
  have kx : ∀ o u, #[.int .i64 x.op, .int .i64 x.a, .int .i64 x.b, .slice gl x.li.length cl, .slice gk x.ke.length ck, .slice gm x.ms.length cm, .slice ga x.ar.length ca][o]? = some u → W1.cell? ⟨w.heap.size + 1, o, none⟩ = some u := fun o u h => by rw [← sz, hW1]; exact cellNew _ _ _ _ _ h
  have HB1 := Hid.mk B1
  have HKC := Hid.mk kc
  have HKX := Hid.mk kx
  have HI := Hid.mk (HI0.out.later B01)
  have HV1 := Hid.mk (HV.out.later B1)
  clear B0 B01 B1 kc kx sz
  have n1 : (x.op == 1) = false := by simpa using o1
  have n2 : (x.op == 2) = false := by simpa using o2
  have n3 : (x.op == 3) = false := by simpa using o3
  have n4 : (x.op == 4) = false := by simpa using o4
  have n5 : (x.op == 5) = false := by simpa using o5
  have n6 : (x.op == 6) = false := by simpa using o6
  have x0 := HKX.out 0 _ rfl
  subst hW1 hW0
  go_enter Tryd.func16, Tryd.ntmps16
  go_wp2
  all_goals go_ret
  all_goals first | exact ⟨_, rfl, HB1.out⟩ | exact ⟨⟨_, rfl⟩, HB1.out⟩
set_option maxRecDepth 100000 in
set_option maxHeartbeats 8000000 in
theorem insn_5 (V : Cv w c vc vg vi vn) (z : Nat) (hz : z < c.ins.length) (ho : (c.ins[z]'hz).op = 5) : Calls Tryd.prog 16 #[.agg #[vc, vg, vi, vn], .int .i64 z] w fun e w' => ∃ r, e = .returned (.int .i64 r) ∧ Below w.heap.size w w' := by
  have HV := Hid.mk V
  obtain ⟨⟨gc, cc, rfl, _⟩, ⟨gg, cg, rfl, _⟩, ⟨gi, ci, rfl, _⟩, ⟨gn, cn, rfl, _⟩⟩ := V
  obtain ⟨W0, hW0⟩ : ∃ W0, W0 = w.alloc (.cells #[.slice gc c.co.length cc, .slice gg c.gl.length cg, .slice gi c.inf.length ci, .slice gn c.ins.length cn] 27) := ⟨_, rfl⟩
  have B0 : Below w.heap.size w W0 := by subst hW0; go_grown
  obtain ⟨g', off, cap, cs, e, h1, h2, pc, hx⟩ := (HV.out.later B0).ins.get z hz
  simp only [Value.slice.injEq] at e
  obtain ⟨rfl, _, rfl⟩ := e
  generalize c.ins[z]'hz = x at *
  obtain ⟨vl, vk, vm, va, rfl, I1, I2, I3, I4⟩ := pc
  have HI0 := Hid.mk (Iv.mk I1 I2 I3 I4)
  obtain ⟨gl, cl, rfl, hl1, _⟩ := I1
  obtain ⟨gk, ck, rfl, hk1, _⟩ := I2
  obtain ⟨gm, cm, rfl, hm1, _⟩ := I3
  obtain ⟨ga, ca, rfl, ha1, _⟩ := I4
  have c0 := hx 0 _ rfl
  have c1 := hx 1 _ rfl
  have c2 := hx 2 _ rfl
  have c3 := hx 3 _ rfl
  have c4 := hx 4 _ rfl
  have c5 := hx 5 _ rfl
  have c6 := hx 6 _ rfl
  rw [Nat.add_zero] at c0
  rw [ho] at c0
  have hz' : (z : Int) < c.ins.length := by omega
  unfold maxLen at h2
  have hl2 := hl1.2
  have hk2 := hk1.2
  have hm2 := hm1.2
  have ha2 := ha1.2
  unfold maxLen at hl2 hk2 hm2 ha2
  clear hl1 hk1 hm1 ha1 hx
  obtain ⟨W1, hW1⟩ : ∃ W1, W1 = W0.alloc (.cells #[.int .i64 5, .int .i64 x.a, .int .i64 x.b, .slice gl x.li.length cl, .slice gk x.ke.length ck, .slice gm x.ms.length cm, .slice ga x.ar.length ca] 42) := ⟨_, rfl⟩
  have sz : W0.heap.size = w.heap.size + 1 := by subst hW0; simp
  have B01 : Below W0.heap.size W0 W1 := by subst hW1; go_grown
  have B1 := belowOn B0 B01
  have kc : ∀ o u, #[.slice gc c.co.length cc, .slice gg c.gl.length cg, .slice gi c.inf.length ci, .slice (some ⟨g', off, none⟩) c.ins.length cn][o]? = some u → W1.cell? ⟨w.heap.size, o, none⟩ = some u := fun o u h => by
    refine cellLater B01 ?_
    subst hW0
    exact cellNew _ _ _ _ _ h
  have kx : ∀ o u, #[.int .i64 5, .int .i64 x.a, .int .i64 x.b, .slice gl x.li.length cl, .slice gk x.ke.length ck, .slice gm x.ms.length cm, .slice ga x.ar.length ca][o]? = some u → W1.cell? ⟨w.heap.size + 1, o, none⟩ = some u := fun o u h => by rw [← sz, hW1]; exact cellNew _ _ _ _ _ h
  have HB1 := Hid.mk B1
  have HKC := Hid.mk kc
  have HKX := Hid.mk kx
  have HI := Hid.mk (HI0.out.later B01)
  have HV1 := Hid.mk (HV.out.later B1)
  clear B0 B01 B1 kc kx sz
  obtain ⟨n, hn⟩ : ∃ n, x.ar.length = n := ⟨_, rfl⟩
  have HN := Hid.mk hn
  have HL : Hid (∀ W, Below W1.heap.size W1 W → Calls Tryd.prog 36 #[.agg #[.slice gc c.co.length cc, .slice gg c.gl.length cg, .slice gi c.inf.length ci, .slice (some ⟨g', off, none⟩) c.ins.length cn], .agg #[.int .i64 5, .int .i64 x.a, .int .i64 x.b, .slice gl x.li.length cl, .slice gk x.ke.length ck, .slice gm x.ms.length cm, .slice ga n ca]] W fun e w' => ∃ r, e = .returned (.int .i64 r) ∧ Below W.heap.size W w') := ⟨fun W hW => by have := rarms_any (HV1.out.later hW) (HI.out.later hW); rwa [ho, hn] at this⟩
  rw [hn] at c6 ha2 HKX hW1
  clear hn ho
  go_enter Tryd.func16, Tryd.ntmps16
  subst hW0
  go_wp2
  rw [← hW1]
  clear hW1
  go_loopw [8] (fun u wr => ∃ i : Nat, u = .int .i64 i ∧ i ≤ n ∧ Hid (Below W1.heap.size W1 wr)) (fun u _ => n - (intOf u).toNat)
  case atStart => exact ⟨0, rfl, Nat.zero_le _, ⟨Below.refl _ _⟩⟩
  case round =>
    obtain ⟨i, rfl, hi, BB⟩ := hrel
    have y0 := cellLater BB.out (HKC.out 0 _ rfl)
    have y1 := cellLater BB.out (HKC.out 1 _ rfl)
    have y2 := cellLater BB.out (HKC.out 2 _ rfl)
    have y3 := cellLater BB.out (HKC.out 3 _ rfl)
    have x0 := cellLater BB.out (HKX.out 0 _ rfl)
    have x1 := cellLater BB.out (HKX.out 1 _ rfl)
    have x2 := cellLater BB.out (HKX.out 2 _ rfl)
    have x3 := cellLater BB.out (HKX.out 3 _ rfl)
    have x4 := cellLater BB.out (HKX.out 4 _ rfl)
    have x5 := cellLater BB.out (HKX.out 5 _ rfl)
    have x6 := cellLater BB.out (HKX.out 6 _ rfl)
    have HBW := Hid.mk (belowOn HB1.out BB.out)
    by_cases hlt : i < n
    · have kl : i < x.ar.length := by rw [HN.out]; exact hlt
      have hlt' : (i : Int) < n := by omega
      obtain ⟨g, off2, cap', cs, e, _, _, pc, hx⟩ := (HI.out.later BB.out).ar.get i kl
      rw [HN.out] at e
      simp only [Value.slice.injEq] at e
      obtain ⟨rfl, _, rfl⟩ := e
      unfold isArm at pc
      subst pc
      have d0 : wr.cell? ⟨g, off2 + i * 4, none⟩ = some (.int .i64 (x.ar[i]'kl).k) := hx 0 _ rfl
      generalize (x.ar[i]'kl).k = ak at *
      clear hx
      by_cases a1 : ak < 1
      · go_wp2
        go_ret
        first | exact ⟨_, rfl, HBW.out⟩ | exact ⟨⟨_, rfl⟩, HBW.out⟩
      by_cases a2 : 3 < ak
      · go_wp2
        go_ret
        first | exact ⟨_, rfl, HBW.out⟩ | exact ⟨⟨_, rfl⟩, HBW.out⟩
      go_wp2
      exact ⟨⟨i + 1, by go_num, by omega, ⟨BB.out⟩⟩, by simp [intOf]; omega⟩
    · obtain rfl : i = n := by omega
      have C := HL.out wr BB.out
      by_cases b1 : x.b < 1
      · go_wp2
        go_ret
        first | exact ⟨_, rfl, HBW.out⟩ | exact ⟨⟨_, rfl⟩, HBW.out⟩
      by_cases b2 : 1000 < x.b
      · go_wp2
        go_ret
        first | exact ⟨_, rfl, HBW.out⟩ | exact ⟨⟨_, rfl⟩, HBW.out⟩
      go_wp2_with (go_at_call 36; refine C.mono ?_; rintro e w5 ⟨r, rfl, G5⟩)
      go_ret
      exact ⟨_, rfl, belowOn HBW.out G5⟩
end
end Go.Proofs.YtidplckoolmaiaaDoor
