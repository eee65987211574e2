/- The document's own check: a case. -/
import Derived.Test.YtidplckoolmaiaaDoorRfh
import Derived.Deep.Cut
namespace Go.Proofs.YtidplckoolmaiaaDoor
open Go.RowKit
set_option linter.unusedVariables false
set_option linter.unusedSimpArgs false

section
variable {w : World} {c : Cd} {vc vg vi vn : Value}
set_option maxRecDepth 100000 in
set_option maxHeartbeats 8000000 in
theorem insn_4 (V : Cv w c vc vg vi vn) (z : Nat) (hz : z < c.ins.length) (ho : (c.ins[z]'hz).op = 4) : Calls Tryd.prog 16 #[.agg #[vc, vg, vi, vn], .int .i64 z] w fun e w' => ∃ r, e = .returned (.int .i64 r) ∧ Below w.heap.size w w' := by
  have HV := Hid.mk V
  obtain ⟨⟨gc, cc, rfl, _⟩, ⟨gg, cg, rfl, _⟩, ⟨gi, ci, rfl, _⟩, ⟨gn, cn, rfl, _⟩⟩ := V
  obtain ⟨W0, hW0⟩ : ∃ W0, W0 = w.alloc (.cells #[.slice gc c.co.length cc, .slice gg c.gl.length cg, .slice gi c.inf.length ci, .slice gn c.ins.length cn] 27) := ⟨_, rfl⟩
  have B0 : Below w.heap.size w W0 := by subst hW0; go_grown
  obtain ⟨g', off, cap, cs, e, h1, h2, pc, hx⟩ := (HV.out.later B0).ins.get z hz
  simp only [Value.slice.injEq] at e
  obtain ⟨rfl, _, rfl⟩ := e
  generalize c.ins[z]'hz = x at *
  obtain ⟨vl, vk, vm, va, rfl, I1, I2, I3, I4⟩ := pc
  have HI0 := Hid.mk (Iv.mk I1 I2 I3 I4)
  obtain ⟨gl, cl, rfl, hl1, _⟩ := I1
  obtain ⟨gk, ck, rfl, hk1, _⟩ := I2
  obtain ⟨gm, cm, rfl, hm1, _⟩ := I3
  obtain ⟨ga, ca, rfl, ha1, _⟩ := I4
  have c0 := hx 0 _ rfl
  have c1 := hx 1 _ rfl
  have c2 := hx 2 _ rfl
  have c3 := hx 3 _ rfl
  have c4 := hx 4 _ rfl
  have c5 := hx 5 _ rfl
  have c6 := hx 6 _ rfl
  rw [Nat.add_zero] at c0
  rw [ho] at c0
  have hz' : (z : Int) < c.ins.length := by omega
  unfold maxLen at h2
  have hl2 := hl1.2
  have hk2 := hk1.2
  have hm2 := hm1.2
  have ha2 := ha1.2
  unfold maxLen at hl2 hk2 hm2 ha2
  clear hl1 hk1 hm1 ha1 hx
  obtain ⟨W1, hW1⟩ : ∃ W1, W1 = W0.alloc (.cells #[.int .i64 4, .int .i64 x.a, .int .i64 x.b, .slice gl x.li.length cl, .slice gk x.ke.length ck, .slice gm x.ms.length cm, .slice ga x.ar.length ca] 42) := ⟨_, rfl⟩
  have sz : W0.heap.size = w.heap.size + 1 := by subst hW0; simp
  have B01 : Below W0.heap.size W0 W1 := by subst hW1; go_grown
  have B1 := belowOn B0 B01
  have kc : ∀ o u, #[.slice gc c.co.length cc, .slice gg c.gl.length cg, .slice gi c.inf.length ci, .slice (some ⟨g', off, none⟩) c.ins.length cn][o]? = some u → W1.cell? ⟨w.heap.size, o, none⟩ = some u := fun o u h => by
    refine cellLater B01 ?_
    subst hW0
    exact cellNew _ _ _ _ _ h
  have kx : ∀ o u, #[.int .i64 4, .int .i64 x.a, .int .i64 x.b, .slice gl x.li.length cl, .slice gk x.ke.length ck, .slice gm x.ms.length cm, .slice ga x.ar.length ca][o]? = some u → W1.cell? ⟨w.heap.size + 1, o, none⟩ = some u := fun o u h => by rw [← sz, hW1]; exact cellNew _ _ _ _ _ h
  have HB1 := Hid.mk B1
  have HKC := Hid.mk kc
  have HKX := Hid.mk kx
  have HI := Hid.mk (HI0.out.later B01)
  have HV1 := Hid.mk (HV.out.later B1)
  clear B0 B01 B1 kc kx sz
  have HO : Hid (∀ W, Below W1.heap.size W1 W → ∀ loc l v, Lst W 1 isNum l v → Calls Tryd.prog 34 #[.agg #[.slice gc c.co.length cc, .slice gg c.gl.length cg, .slice gi c.inf.length ci, .slice (some ⟨g', off, none⟩) c.ins.length cn], .int .i64 loc, v] W fun e w' => ∃ r : Bool, e = .returned (.bool r) ∧ Below W.heap.size W w') := ⟨fun W hW loc l v hl => outsideW_any (HV1.out.later hW) loc l v hl⟩
  have HLi : Hid (∀ W, Below W1.heap.size W1 W → Lst W 1 isNum x.li (.slice gl x.li.length cl)) := ⟨fun W hW => (HI.out.li.later hW fun _ _ h => h.1)⟩
  have HKe : Hid (∀ W, Below W1.heap.size W1 W → Lst W 1 isNum x.ke (.slice gk x.ke.length ck)) := ⟨fun W hW => (HI.out.ke.later hW fun _ _ h => h.1)⟩
  have y0 := HKC.out 0 _ rfl
  have y1 := HKC.out 1 _ rfl
  have y2 := HKC.out 2 _ rfl
  have y3 := HKC.out 3 _ rfl
  have x0 := HKX.out 0 _ rfl
  have x1 := HKX.out 1 _ rfl
  have x2 := HKX.out 2 _ rfl
  have x3 := HKX.out 3 _ rfl
  have x4 := HKX.out 4 _ rfl
  have x5 := HKX.out 5 _ rfl
  have x6 := HKX.out 6 _ rfl
  clear HI0 HKX
  have HH := Hid.mk (And.intro HV1.out HI.out)
  have HTh : Hid (∀ W, Below W1.heap.size W1 W → ∀ i : Int, Calls Tryd.prog 35 #[.agg #[.slice gc c.co.length cc, .slice gg c.gl.length cg, .slice gi c.inf.length ci, .slice (some ⟨g', off, none⟩) c.ins.length cn], .int .i64 i] W fun e w' => e = .returned (.bool (belowI i c.ins.length)) ∧ Below W.heap.size W w') := ⟨fun W hW i => rthere_any (HV1.out.later hW) i⟩
  clear ho
  go_enter Tryd.func16, Tryd.ntmps16
  subst hW0
  go_upto_region 22 with fail
  rw [← hW1]
  clear hW1
  by_cases b1 : x.b < 0
  · go_wp2
    go_ret
    first | exact ⟨_, rfl, HB1.out⟩ | exact ⟨⟨_, rfl⟩, HB1.out⟩
  by_cases b2 : 1000 < x.b
  · go_wp2
    go_ret
    first | exact ⟨_, rfl, HB1.out⟩ | exact ⟨⟨_, rfl⟩, HB1.out⟩
  rcases Bool.eq_false_or_eq_true (belowI ((z : Int) + 1) c.ins.length) with p1 | p1
  · rcases Bool.eq_false_or_eq_true (belowI x.a c.ins.length) with p2 | p2
    · obtain ⟨k, hk, hk'⟩ : ∃ k : Nat, x.a = k ∧ k < c.ins.length := by
        unfold belowI at p2
        simp only [Bool.and_eq_true, decide_eq_true_eq] at p2
        exact ⟨x.a.toNat, by omega, by omega⟩
      have hz1 : z + 1 < c.ins.length := by
        unfold belowI at p1
        simp only [Bool.and_eq_true, decide_eq_true_eq] at p1
        omega
      have hz1' : (z : Int) + 1 < c.ins.length := by omega
      have hk2 : (k : Int) < c.ins.length := by omega
      obtain ⟨g2, off2, cap2, cs2, e2, _, _, pc2, hx2⟩ := HV1.out.ins.get k hk'
      simp only [Value.slice.injEq, Option.some.injEq, Addr.mk.injEq] at e2
      obtain ⟨⟨rfl, rfl, _⟩, _, rfl⟩ := e2
      obtain ⟨_, _, _, _, rfl, _, _, _, _⟩ := pc2
      have d0 : W1.cell? ⟨g', off + k * 7, none⟩ = some (.int .i64 (c.ins[k]'hk').op) := hx2 0 _ rfl
      have d2 : W1.cell? ⟨g', off + k * 7 + 2, none⟩ = some (.int .i64 (c.ins[k]'hk').b) := hx2 2 _ rfl
      obtain ⟨g3, off3, cap3, cs3, e3, _, _, pc3, hx3⟩ := HV1.out.ins.get (z + 1) hz1
      simp only [Value.slice.injEq, Option.some.injEq, Addr.mk.injEq] at e3
      obtain ⟨⟨rfl, rfl, _⟩, _, rfl⟩ := e3
      obtain ⟨_, _, _, _, rfl, _, _, _, _⟩ := pc3
      have e2 : W1.cell? ⟨g', off + (z + 1) * 7 + 2, none⟩ = some (.int .i64 (c.ins[z + 1]'hz1).b) := hx3 2 _ rfl
      generalize (c.ins[k]'hk').op = oA at *
      generalize (c.ins[k]'hk').b = bA at *
      generalize (c.ins[z + 1]'hz1).b = bN at *
      have HA := Hid.mk hk
      rw [hk] at x1 p2
      clear hk hx2 hx3
      go_wp2_with (first | (go_at_call 35; have zz := K3; refine (HTh.out _ K3.out (k : Int)).mono ?_; rw [p2]; rintro e w8 ⟨rfl, G8⟩; replace y0 := cellLater G8 y0; replace y1 := cellLater G8 y1; replace y2 := cellLater G8 y2; replace y3 := cellLater G8 y3; replace x0 := cellLater G8 x0; replace x1 := cellLater G8 x1; replace x2 := cellLater G8 x2; replace x3 := cellLater G8 x3; replace x4 := cellLater G8 x4; replace x5 := cellLater G8 x5; replace x6 := cellLater G8 x6; replace d0 := cellLater G8 d0; replace d2 := cellLater G8 d2; replace e2 := cellLater G8 e2; have K4 := Hid.mk (belowOn K3.out G8); clear G8) | (go_at_call 35; have zz := K2; refine (HTh.out _ K2.out ((z : Int) + 1)).mono ?_; rw [p1]; rintro e w7 ⟨rfl, G7⟩; replace y0 := cellLater G7 y0; replace y1 := cellLater G7 y1; replace y2 := cellLater G7 y2; replace y3 := cellLater G7 y3; replace x0 := cellLater G7 x0; replace x1 := cellLater G7 x1; replace x2 := cellLater G7 x2; replace x3 := cellLater G7 x3; replace x4 := cellLater G7 x4; replace x5 := cellLater G7 x5; replace x6 := cellLater G7 x6; replace d0 := cellLater G7 d0; replace d2 := cellLater G7 d2; replace e2 := cellLater G7 e2; have K3 := Hid.mk (belowOn K2.out G7); clear G7) | (go_at_call 34; have zz := K1; refine (HO.out _ K1.out _ _ _ (HKe.out _ K1.out)).mono ?_; rintro e w6 ⟨r2, rfl, G6⟩; replace y0 := cellLater G6 y0; replace y1 := cellLater G6 y1; replace y2 := cellLater G6 y2; replace y3 := cellLater G6 y3; replace x0 := cellLater G6 x0; replace x1 := cellLater G6 x1; replace x2 := cellLater G6 x2; replace x3 := cellLater G6 x3; replace x4 := cellLater G6 x4; replace x5 := cellLater G6 x5; replace x6 := cellLater G6 x6; replace d0 := cellLater G6 d0; replace d2 := cellLater G6 d2; replace e2 := cellLater G6 e2; have K2 := Hid.mk (belowOn K1.out G6); clear G6) | (go_at_call 34; refine (HO.out _ (Below.refl _ _) _ _ _ (HLi.out _ (Below.refl _ _))).mono ?_; rintro e w5 ⟨r1, rfl, G5⟩; replace y0 := cellLater G5 y0; replace y1 := cellLater G5 y1; replace y2 := cellLater G5 y2; replace y3 := cellLater G5 y3; replace x0 := cellLater G5 x0; replace x1 := cellLater G5 x1; replace x2 := cellLater G5 x2; replace x3 := cellLater G5 x3; replace x4 := cellLater G5 x4; replace x5 := cellLater G5 x5; replace x6 := cellLater G5 x6; replace d0 := cellLater G5 d0; replace d2 := cellLater G5 d2; replace e2 := cellLater G5 e2; have K1 := Hid.mk G5; clear G5))
      all_goals first
        | (go_ret; first
            | exact ⟨_, rfl, belowOn HB1.out K4.out⟩
            | exact ⟨_, rfl, belowOn HB1.out K2.out⟩
            | exact ⟨_, rfl, belowOn HB1.out K1.out⟩
            | exact ⟨⟨_, rfl⟩, belowOn HB1.out K4.out⟩
            | exact ⟨⟨_, rfl⟩, belowOn HB1.out K2.out⟩
            | exact ⟨⟨_, rfl⟩, belowOn HB1.out K1.out⟩)
        | (by_cases q3 : bN = x.li.length
           · have q4 : (bN != (x.li.length : Int)) = false := by simpa using q3
             go_quiet (fail)
             all_goals go_wp2
             all_goals go_ret
             all_goals first
               | exact ⟨_, rfl, below_drewN (belowOn HB1.out K4.out) _⟩
               | exact ⟨⟨_, rfl⟩, below_drewN (belowOn HB1.out K4.out) _⟩
           · have q4 : (bN != (x.li.length : Int)) = true := by simpa using q3
             go_quiet (fail)
             all_goals go_wp2
             all_goals go_ret
             all_goals first
               | exact ⟨_, rfl, below_drewN (belowOn HB1.out K4.out) _⟩
               | exact ⟨⟨_, rfl⟩, below_drewN (belowOn HB1.out K4.out) _⟩)
    · go_wp2_with (first | (go_at_call 35; have zz := K3; refine (HTh.out _ K3.out x.a).mono ?_; rw [p2]; rintro e w8 ⟨rfl, G8⟩; replace y0 := cellLater G8 y0; replace y1 := cellLater G8 y1; replace y2 := cellLater G8 y2; replace y3 := cellLater G8 y3; replace x0 := cellLater G8 x0; replace x1 := cellLater G8 x1; replace x2 := cellLater G8 x2; replace x3 := cellLater G8 x3; replace x4 := cellLater G8 x4; replace x5 := cellLater G8 x5; replace x6 := cellLater G8 x6; have K4 := Hid.mk (belowOn K3.out G8); clear G8) | (go_at_call 35; have zz := K2; refine (HTh.out _ K2.out ((z : Int) + 1)).mono ?_; rw [p1]; rintro e w7 ⟨rfl, G7⟩; replace y0 := cellLater G7 y0; replace y1 := cellLater G7 y1; replace y2 := cellLater G7 y2; replace y3 := cellLater G7 y3; replace x0 := cellLater G7 x0; replace x1 := cellLater G7 x1; replace x2 := cellLater G7 x2; replace x3 := cellLater G7 x3; replace x4 := cellLater G7 x4; replace x5 := cellLater G7 x5; replace x6 := cellLater G7 x6; have K3 := Hid.mk (belowOn K2.out G7); clear G7) | (go_at_call 34; have zz := K1; refine (HO.out _ K1.out _ _ _ (HKe.out _ K1.out)).mono ?_; rintro e w6 ⟨r2, rfl, G6⟩; replace y0 := cellLater G6 y0; replace y1 := cellLater G6 y1; replace y2 := cellLater G6 y2; replace y3 := cellLater G6 y3; replace x0 := cellLater G6 x0; replace x1 := cellLater G6 x1; replace x2 := cellLater G6 x2; replace x3 := cellLater G6 x3; replace x4 := cellLater G6 x4; replace x5 := cellLater G6 x5; replace x6 := cellLater G6 x6; have K2 := Hid.mk (belowOn K1.out G6); clear G6) | (go_at_call 34; refine (HO.out _ (Below.refl _ _) _ _ _ (HLi.out _ (Below.refl _ _))).mono ?_; rintro e w5 ⟨r1, rfl, G5⟩; replace y0 := cellLater G5 y0; replace y1 := cellLater G5 y1; replace y2 := cellLater G5 y2; replace y3 := cellLater G5 y3; replace x0 := cellLater G5 x0; replace x1 := cellLater G5 x1; replace x2 := cellLater G5 x2; replace x3 := cellLater G5 x3; replace x4 := cellLater G5 x4; replace x5 := cellLater G5 x5; replace x6 := cellLater G5 x6; have K1 := Hid.mk G5; clear G5))
      all_goals go_ret
      all_goals first
        | exact ⟨_, rfl, belowOn HB1.out K4.out⟩
        | exact ⟨_, rfl, belowOn HB1.out K3.out⟩
        | exact ⟨_, rfl, belowOn HB1.out K2.out⟩
        | exact ⟨_, rfl, belowOn HB1.out K1.out⟩
        | exact ⟨⟨_, rfl⟩, belowOn HB1.out K4.out⟩
        | exact ⟨⟨_, rfl⟩, belowOn HB1.out K3.out⟩
        | exact ⟨⟨_, rfl⟩, belowOn HB1.out K2.out⟩
        | exact ⟨⟨_, rfl⟩, belowOn HB1.out K1.out⟩
  · go_wp2_with (first | (go_at_call 35; have zz := K3; refine (HTh.out _ K3.out x.a).mono ?_; rw [p2]; rintro e w8 ⟨rfl, G8⟩; replace y0 := cellLater G8 y0; replace y1 := cellLater G8 y1; replace y2 := cellLater G8 y2; replace y3 := cellLater G8 y3; replace x0 := cellLater G8 x0; replace x1 := cellLater G8 x1; replace x2 := cellLater G8 x2; replace x3 := cellLater G8 x3; replace x4 := cellLater G8 x4; replace x5 := cellLater G8 x5; replace x6 := cellLater G8 x6; have K4 := Hid.mk (belowOn K3.out G8); clear G8) | (go_at_call 35; have zz := K2; refine (HTh.out _ K2.out ((z : Int) + 1)).mono ?_; rw [p1]; rintro e w7 ⟨rfl, G7⟩; replace y0 := cellLater G7 y0; replace y1 := cellLater G7 y1; replace y2 := cellLater G7 y2; replace y3 := cellLater G7 y3; replace x0 := cellLater G7 x0; replace x1 := cellLater G7 x1; replace x2 := cellLater G7 x2; replace x3 := cellLater G7 x3; replace x4 := cellLater G7 x4; replace x5 := cellLater G7 x5; replace x6 := cellLater G7 x6; have K3 := Hid.mk (belowOn K2.out G7); clear G7) | (go_at_call 34; have zz := K1; refine (HO.out _ K1.out _ _ _ (HKe.out _ K1.out)).mono ?_; rintro e w6 ⟨r2, rfl, G6⟩; replace y0 := cellLater G6 y0; replace y1 := cellLater G6 y1; replace y2 := cellLater G6 y2; replace y3 := cellLater G6 y3; replace x0 := cellLater G6 x0; replace x1 := cellLater G6 x1; replace x2 := cellLater G6 x2; replace x3 := cellLater G6 x3; replace x4 := cellLater G6 x4; replace x5 := cellLater G6 x5; replace x6 := cellLater G6 x6; have K2 := Hid.mk (belowOn K1.out G6); clear G6) | (go_at_call 34; refine (HO.out _ (Below.refl _ _) _ _ _ (HLi.out _ (Below.refl _ _))).mono ?_; rintro e w5 ⟨r1, rfl, G5⟩; replace y0 := cellLater G5 y0; replace y1 := cellLater G5 y1; replace y2 := cellLater G5 y2; replace y3 := cellLater G5 y3; replace x0 := cellLater G5 x0; replace x1 := cellLater G5 x1; replace x2 := cellLater G5 x2; replace x3 := cellLater G5 x3; replace x4 := cellLater G5 x4; replace x5 := cellLater G5 x5; replace x6 := cellLater G5 x6; have K1 := Hid.mk G5; clear G5))
    all_goals go_ret
    all_goals first
      | exact ⟨_, rfl, belowOn HB1.out K4.out⟩
      | exact ⟨_, rfl, belowOn HB1.out K3.out⟩
      | exact ⟨_, rfl, belowOn HB1.out K2.out⟩
      | exact ⟨_, rfl, belowOn HB1.out K1.out⟩
      | exact ⟨⟨_, rfl⟩, belowOn HB1.out K4.out⟩
      | exact ⟨⟨_, rfl⟩, belowOn HB1.out K3.out⟩
      | exact ⟨⟨_, rfl⟩, belowOn HB1.out K2.out⟩
      | exact ⟨⟨_, rfl⟩, belowOn HB1.out K1.out⟩
end
end Go.Proofs.YtidplckoolmaiaaDoor
