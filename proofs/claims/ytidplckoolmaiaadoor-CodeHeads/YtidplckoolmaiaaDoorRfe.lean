/- The document's own check: arms. -/
import Derived.Test.YtidplckoolmaiaaDoorRfb
namespace Go.Proofs.YtidplckoolmaiaaDoor
open Go.RowKit
set_option linter.unusedVariables false
set_option linter.unusedSimpArgs false

section
variable {w : World} {c : Cd} {x : Ins} {vc vg vi vn vl vk vm va : Value}
set_option maxRecDepth 100000 in
set_option maxHeartbeats 8000000 in
theorem rarms_any (V : Cv w c vc vg vi vn) (I : Iv w x vl vk vm va) : Calls Tryd.prog 36 #[.agg #[vc, vg, vi, vn], .agg #[.int .i64 x.op, .int .i64 x.a, .int .i64 x.b, vl, vk, vm, va]] w fun e w' => ∃ r, e = .returned (.int .i64 r) ∧ Below w.heap.size w w' := by
  have HV := Hid.mk V
  have HI := Hid.mk I
  obtain ⟨⟨gc, cc, rfl, _⟩, ⟨gg, cg, rfl, _⟩, ⟨gi, ci, rfl, _⟩, ⟨gn, cn, rfl, _⟩⟩ := V
  obtain ⟨⟨gl, cl, rfl, _⟩, ⟨gk, ck, rfl, _⟩, ⟨gm, cm, rfl, _⟩, ⟨ga, ca, rfl, hm, _⟩⟩ := I
  obtain ⟨n, hn⟩ : ∃ n, x.ar.length = n := ⟨_, rfl⟩
  have HN := Hid.mk hn
  rw [hn] at hm ⊢
  have hm2 := hm.2
  unfold maxLen at hm2
  clear hm
  obtain ⟨W0, hW0⟩ : ∃ W0, W0 = w.alloc (.cells #[.slice gc c.co.length cc, .slice gg c.gl.length cg, .slice gi c.inf.length ci, .slice gn c.ins.length cn] 27) := ⟨_, rfl⟩
  obtain ⟨W1, hW1⟩ : ∃ W1, W1 = W0.alloc (.cells #[.int .i64 x.op, .int .i64 x.a, .int .i64 x.b, .slice gl x.li.length cl, .slice gk x.ke.length ck, .slice gm x.ms.length cm, .slice ga n ca] 42) := ⟨_, rfl⟩
  have sz : W0.heap.size = w.heap.size + 1 := by subst hW0; simp
  have B1 : Below w.heap.size w W1 := by subst hW1 hW0; go_grown
  have kc : ∀ o u, #[.slice gc c.co.length cc, .slice gg c.gl.length cg, .slice gi c.inf.length ci, .slice gn c.ins.length cn][o]? = some u → W1.cell? ⟨w.heap.size, o, none⟩ = some u := fun o u h => by
    refine cellLater (w := W0) (by subst hW1; go_grown) ?_
    subst hW0
    exact cellNew _ _ _ _ _ h
  have kx : ∀ o u, #[.int .i64 x.op, .int .i64 x.a, .int .i64 x.b, .slice gl x.li.length cl, .slice gk x.ke.length ck, .slice gm x.ms.length cm, .slice ga n ca][o]? = some u → W1.cell? ⟨w.heap.size + 1, o, none⟩ = some u := fun o u h => by rw [← sz, hW1]; exact cellNew _ _ _ _ _ h
  have HB1 := Hid.mk B1
  have HKC := Hid.mk kc
  have HKX := Hid.mk kx
  have HCo : Hid (∀ W, Below w.heap.size w W → ∀ i : Int, Calls Tryd.prog 45 #[.agg #[.slice gc c.co.length cc, .slice gg c.gl.length cg, .slice gi c.inf.length ci, .slice gn c.ins.length cn], .int .i64 i] W fun e w' => e = .returned (.bool (conB c i)) ∧ Below W.heap.size W w') := ⟨fun W hW i => rcon_any (HV.out.later hW) i⟩
  have HTh : Hid (∀ W, Below w.heap.size w W → ∀ i : Int, Calls Tryd.prog 35 #[.agg #[.slice gc c.co.length cc, .slice gg c.gl.length cg, .slice gi c.inf.length ci, .slice gn c.ins.length cn], .int .i64 i] W fun e w' => e = .returned (.bool (belowI i c.ins.length)) ∧ Below W.heap.size W w') := ⟨fun W hW i => rthere_any (HV.out.later hW) i⟩
  clear B1 kc kx sz
  go_enter Tryd.func36, Tryd.ntmps36
  by_cases hn0 : n = 0
  · have hn0' : ((n : Int) == 0) = true := by simp; omega
    go_wp2
    go_ret
    exact ⟨_, rfl, by go_grown⟩
  have hn0' : ((n : Int) == 0) = false := by simp; omega
  go_wp2
  rw [← hW0, ← hW1]
  clear hW0 hW1
  go_loopw [5] (fun u wr => ∃ i : Nat, u = .int .i64 i ∧ i ≤ n ∧ Hid (∀ (k : Nat) (hk : k < x.ar.length), k < i → armN c (x.ar[k]'hk) = true) ∧ Hid (Below W1.heap.size W1 wr)) (fun u _ => n - (intOf u).toNat)
  case atStart => exact ⟨0, rfl, Nat.zero_le _, ⟨fun k hk h => absurd h (by omega)⟩, ⟨Below.refl _ _⟩⟩
  case round =>
    obtain ⟨i, rfl, hi, Z, BB⟩ := hrel
    have x6 : wr.cell? ⟨w.heap.size + 1, 6, none⟩ = some (.slice ga n ca) := cellLater BB.out (HKX.out 6 _ rfl)
    have x2 : wr.cell? ⟨w.heap.size + 1, 2, none⟩ = some (.int .i64 x.b) := cellLater BB.out (HKX.out 2 _ rfl)
    have y0 : wr.cell? ⟨w.heap.size, 0, none⟩ = some (.slice gc c.co.length cc) := cellLater BB.out (HKC.out 0 _ rfl)
    have y1 : wr.cell? ⟨w.heap.size, 1, none⟩ = some (.slice gg c.gl.length cg) := cellLater BB.out (HKC.out 1 _ rfl)
    have y2 : wr.cell? ⟨w.heap.size, 2, none⟩ = some (.slice gi c.inf.length ci) := cellLater BB.out (HKC.out 2 _ rfl)
    have y3 : wr.cell? ⟨w.heap.size, 3, none⟩ = some (.slice gn c.ins.length cn) := cellLater BB.out (HKC.out 3 _ rfl)
    have BW := belowOn HB1.out BB.out
    by_cases hlt : i < n
    · have kl : i < x.ar.length := by rw [HN.out]; exact hlt
      have hlt' : (i : Int) < n := by omega
      obtain ⟨g, off, cap', cs, e, _, _, pc, hx⟩ := (HI.out.later BW).ar.get i kl
      rw [HN.out] at e
      simp only [Value.slice.injEq] at e
      obtain ⟨rfl, _, rfl⟩ := e
      unfold isArm at pc
      subst pc
      have c0 : wr.cell? ⟨g, off + i * 4, none⟩ = some (.int .i64 (x.ar[i]'kl).k) := hx 0 _ rfl
      have c1 : wr.cell? ⟨g, off + i * 4 + 1, none⟩ = some (.int .i64 (x.ar[i]'kl).c) := hx 1 _ rfl
      have c3 : wr.cell? ⟨g, off + i * 4 + 3, none⟩ = some (.int .i64 (x.ar[i]'kl).t) := hx 3 _ rfl
      have HZ : Hid (armN c (x.ar[i]'kl) = true → ∀ (k : Nat) (hk : k < x.ar.length), k < i + 1 → armN c (x.ar[k]'hk) = true) := ⟨fun h k hk q => by
        by_cases e : k = i
        · subst e; exact h
        · exact Z.out k hk (by omega)⟩
      generalize x.ar[i]'kl = m at *
      have C := HCo.out wr.drew BW.drew m.c
      have HBW := Hid.mk BW
      clear hx BW
      by_cases hk : m.k = 1
      · have HA : Hid (armN c m = conB c m.c) := ⟨by unfold armN; rw [if_pos hk]⟩
        rw [hk] at c0
        rcases Bool.eq_false_or_eq_true (conB c m.c) with q | q
        · rw [q] at C
          go_wp2
          go_region_held3 (fun w' => w'.cell? ⟨w.heap.size, 0, none⟩ = some (.slice gc c.co.length cc) ∧ w'.cell? ⟨w.heap.size, 1, none⟩ = some (.slice gg c.gl.length cg) ∧ w'.cell? ⟨w.heap.size, 2, none⟩ = some (.slice gi c.inf.length ci) ∧ w'.cell? ⟨w.heap.size, 3, none⟩ = some (.slice gn c.ins.length cn) ∧ w'.cell? ⟨w.heap.size + 1, 6, none⟩ = some (.slice (some ⟨g, off, none⟩) n ca) ∧ w'.cell? ⟨g, off + i * 4, none⟩ = some (.int .i64 1) ∧ w'.cell? ⟨g, off + i * 4 + 1, none⟩ = some (.int .i64 m.c)) (go_keep) (first | (go_at_call 45; refine C.mono ?_; rintro e w4 ⟨rfl, G4⟩; have D4 := belowOn (Below.refl _ _).drew G4; have r0 := cellLater D4 y0; have r1 := cellLater D4 y1; have r2 := cellLater D4 y2; have r3 := cellLater D4 y3; have s6 := cellLater D4 x6; have t0 := cellLater D4 c0; have t1 := cellLater D4 c1; have t3 := cellLater D4 c3; have HD4 := Hid.mk D4; clear D4 G4))
          all_goals go_wp2
          all_goals exact ⟨⟨i + 1, by go_num, by omega, ⟨HZ.out (by rw [HA.out]; exact q)⟩, ⟨belowOn BB.out HD4.out⟩⟩, by simp [intOf]; omega⟩
        · rw [q] at C
          go_wp2
          go_region_held3 (fun w' => w'.cell? ⟨w.heap.size, 0, none⟩ = some (.slice gc c.co.length cc) ∧ w'.cell? ⟨w.heap.size, 1, none⟩ = some (.slice gg c.gl.length cg) ∧ w'.cell? ⟨w.heap.size, 2, none⟩ = some (.slice gi c.inf.length ci) ∧ w'.cell? ⟨w.heap.size, 3, none⟩ = some (.slice gn c.ins.length cn) ∧ w'.cell? ⟨w.heap.size + 1, 6, none⟩ = some (.slice (some ⟨g, off, none⟩) n ca) ∧ w'.cell? ⟨g, off + i * 4, none⟩ = some (.int .i64 1) ∧ w'.cell? ⟨g, off + i * 4 + 1, none⟩ = some (.int .i64 m.c)) (go_keep) (first | (go_at_call 45; refine C.mono ?_; rintro e w4 ⟨rfl, G4⟩; have D4 := belowOn (Below.refl _ _).drew G4; have r0 := cellLater D4 y0; have r1 := cellLater D4 y1; have r2 := cellLater D4 y2; have r3 := cellLater D4 y3; have s6 := cellLater D4 x6; have t0 := cellLater D4 c0; have t1 := cellLater D4 c1; have t3 := cellLater D4 c3; have HD4 := Hid.mk D4; clear D4 G4))
          all_goals go_wp2
          all_goals go_ret
          all_goals exact ⟨_, rfl, belowOn HBW.out HD4.out⟩
      · have hk' : (m.k == 1) = false := by simpa using hk
        have HA : Hid (armN c m = true) := ⟨by unfold armN; rw [if_neg hk]⟩
        go_wp2
        go_quiet (fail)
        all_goals go_wp2
        all_goals exact ⟨⟨i + 1, by go_num, by omega, ⟨HZ.out HA.out⟩, ⟨belowOn BB.out (below_drewN (Below.refl _ _) _)⟩⟩, by simp [intOf]; omega⟩
    · obtain rfl : i = n := by omega
      go_wp2
      clear x6 x2 y0 y1 y2 y3 BW
      have ZA : Hid (∀ (k : Nat) (hk : k < x.ar.length), armN c (x.ar[k]'hk) = true) := ⟨fun k hk => Z.out k hk (by have := HN.out; omega)⟩
      clear Z
      go_loopw [6] (fun u wt => ∃ j : Nat, u = .int .i64 j ∧ j ≤ i ∧ Hid (∀ (k : Nat) (hk : k < x.ar.length), k < j → belowI (x.ar[k]'hk).t c.ins.length = true) ∧ Hid (Below W1.heap.size W1 wt)) (fun u _ => i - (intOf u).toNat)
      case atStart => exact ⟨0, rfl, Nat.zero_le _, ⟨fun k hk h => absurd h (by omega)⟩, ⟨BB.out⟩⟩
      case round =>
        obtain ⟨j, rfl, hj, Z, BT⟩ := hrel
        have x6 : wr.cell? ⟨w.heap.size + 1, 6, none⟩ = some (.slice ga i ca) := cellLater BT.out (HKX.out 6 _ rfl)
        have x2 : wr.cell? ⟨w.heap.size + 1, 2, none⟩ = some (.int .i64 x.b) := cellLater BT.out (HKX.out 2 _ rfl)
        have y0 : wr.cell? ⟨w.heap.size, 0, none⟩ = some (.slice gc c.co.length cc) := cellLater BT.out (HKC.out 0 _ rfl)
        have y1 : wr.cell? ⟨w.heap.size, 1, none⟩ = some (.slice gg c.gl.length cg) := cellLater BT.out (HKC.out 1 _ rfl)
        have y2 : wr.cell? ⟨w.heap.size, 2, none⟩ = some (.slice gi c.inf.length ci) := cellLater BT.out (HKC.out 2 _ rfl)
        have y3 : wr.cell? ⟨w.heap.size, 3, none⟩ = some (.slice gn c.ins.length cn) := cellLater BT.out (HKC.out 3 _ rfl)
        have BW := belowOn HB1.out BT.out
        by_cases hlt : j < i
        · have kl : j < x.ar.length := by rw [HN.out]; exact hlt
          have hlt' : (j : Int) < i := by omega
          obtain ⟨g, off, cap', cs, e, _, _, pc, hx⟩ := (HI.out.later BW).ar.get j kl
          rw [HN.out] at e
          simp only [Value.slice.injEq] at e
          obtain ⟨rfl, _, rfl⟩ := e
          unfold isArm at pc
          subst pc
          have c0 : wr.cell? ⟨g, off + j * 4, none⟩ = some (.int .i64 (x.ar[j]'kl).k) := hx 0 _ rfl
          have c1 : wr.cell? ⟨g, off + j * 4 + 1, none⟩ = some (.int .i64 (x.ar[j]'kl).c) := hx 1 _ rfl
          have c3 : wr.cell? ⟨g, off + j * 4 + 3, none⟩ = some (.int .i64 (x.ar[j]'kl).t) := hx 3 _ rfl
          have HZ : Hid (belowI (x.ar[j]'kl).t c.ins.length = true → ∀ (k : Nat) (hk : k < x.ar.length), k < j + 1 → belowI (x.ar[k]'hk).t c.ins.length = true) := ⟨fun h k hk q => by
            by_cases e : k = j
            · subst e; exact h
            · exact Z.out k hk (by omega)⟩
          generalize x.ar[j]'kl = m at *
          have C := HTh.out wr.drew BW.drew m.t
          have HBW := Hid.mk BW
          clear hx BW
          rcases Bool.eq_false_or_eq_true (belowI m.t c.ins.length) with q | q
          · rw [q] at C
            go_wp2
            go_region_held3 (fun w' => w'.cell? ⟨w.heap.size, 0, none⟩ = some (.slice gc c.co.length cc) ∧ w'.cell? ⟨w.heap.size, 1, none⟩ = some (.slice gg c.gl.length cg) ∧ w'.cell? ⟨w.heap.size, 2, none⟩ = some (.slice gi c.inf.length ci) ∧ w'.cell? ⟨w.heap.size, 3, none⟩ = some (.slice gn c.ins.length cn) ∧ w'.cell? ⟨w.heap.size + 1, 6, none⟩ = some (.slice (some ⟨g, off, none⟩) i ca) ∧ w'.cell? ⟨g, off + j * 4 + 3, none⟩ = some (.int .i64 m.t)) (go_keep) (first | (go_at_call 35; refine C.mono ?_; rintro e w4 ⟨rfl, G4⟩; have D4 := belowOn (Below.refl _ _).drew G4; have r0 := cellLater D4 y0; have r1 := cellLater D4 y1; have r2 := cellLater D4 y2; have r3 := cellLater D4 y3; have s6 := cellLater D4 x6; have t0 := cellLater D4 c0; have t1 := cellLater D4 c1; have t3 := cellLater D4 c3; have HD4 := Hid.mk D4; clear D4 G4))
            all_goals go_wp2
            all_goals exact ⟨⟨j + 1, by go_num, by omega, ⟨HZ.out q⟩, ⟨belowOn BT.out HD4.out⟩⟩, by simp [intOf]; omega⟩
          · rw [q] at C
            go_wp2
            go_region_held3 (fun w' => w'.cell? ⟨w.heap.size, 0, none⟩ = some (.slice gc c.co.length cc) ∧ w'.cell? ⟨w.heap.size, 1, none⟩ = some (.slice gg c.gl.length cg) ∧ w'.cell? ⟨w.heap.size, 2, none⟩ = some (.slice gi c.inf.length ci) ∧ w'.cell? ⟨w.heap.size, 3, none⟩ = some (.slice gn c.ins.length cn) ∧ w'.cell? ⟨w.heap.size + 1, 6, none⟩ = some (.slice (some ⟨g, off, none⟩) i ca) ∧ w'.cell? ⟨g, off + j * 4 + 3, none⟩ = some (.int .i64 m.t)) (go_keep) (first | (go_at_call 35; refine C.mono ?_; rintro e w4 ⟨rfl, G4⟩; have D4 := belowOn (Below.refl _ _).drew G4; have r0 := cellLater D4 y0; have r1 := cellLater D4 y1; have r2 := cellLater D4 y2; have r3 := cellLater D4 y3; have s6 := cellLater D4 x6; have t0 := cellLater D4 c0; have t1 := cellLater D4 c1; have t3 := cellLater D4 c3; have HD4 := Hid.mk D4; clear D4 G4))
            all_goals go_wp2
            all_goals go_ret
            all_goals exact ⟨_, rfl, belowOn HBW.out HD4.out⟩
        · obtain rfl : j = i := by omega
          go_wp2
          clear x6 x2 y0 y1 y2 y3 BW
          have ZB : Hid (∀ (k : Nat) (hk : k < x.ar.length), belowI (x.ar[k]'hk).t c.ins.length = true) := ⟨fun k hk => Z.out k hk (by have := HN.out; omega)⟩
          go_loopw [7] (fun u wt => ∃ l : Nat, u = .int .i64 l ∧ l ≤ j ∧ Hid (Below W1.heap.size W1 wt)) (fun u _ => j - (intOf u).toNat)
          case atStart => exact ⟨0, rfl, Nat.zero_le _, ⟨BT.out⟩⟩
          case round =>
            obtain ⟨l, rfl, hl, BL⟩ := hrel
            have x6 : wr.cell? ⟨w.heap.size + 1, 6, none⟩ = some (.slice ga j ca) := cellLater BL.out (HKX.out 6 _ rfl)
            have x2 : wr.cell? ⟨w.heap.size + 1, 2, none⟩ = some (.int .i64 x.b) := cellLater BL.out (HKX.out 2 _ rfl)
            have y0 : wr.cell? ⟨w.heap.size, 0, none⟩ = some (.slice gc c.co.length cc) := cellLater BL.out (HKC.out 0 _ rfl)
            have y1 : wr.cell? ⟨w.heap.size, 1, none⟩ = some (.slice gg c.gl.length cg) := cellLater BL.out (HKC.out 1 _ rfl)
            have y2 : wr.cell? ⟨w.heap.size, 2, none⟩ = some (.slice gi c.inf.length ci) := cellLater BL.out (HKC.out 2 _ rfl)
            have y3 : wr.cell? ⟨w.heap.size, 3, none⟩ = some (.slice gn c.ins.length cn) := cellLater BL.out (HKC.out 3 _ rfl)
            have BW := belowOn HB1.out BL.out
            by_cases hlt : l < j
            · have kl : l < x.ar.length := by rw [HN.out]; exact hlt
              have hlt' : (l : Int) < j := by omega
              obtain ⟨g, off, cap', cs, e, _, _, pc, hx⟩ := (HI.out.later BW).ar.get l kl
              rw [HN.out] at e
              simp only [Value.slice.injEq] at e
              obtain ⟨rfl, _, rfl⟩ := e
              unfold isArm at pc
              subst pc
              have c0 : wr.cell? ⟨g, off + l * 4, none⟩ = some (.int .i64 (x.ar[l]'kl).k) := hx 0 _ rfl
              have c1 : wr.cell? ⟨g, off + l * 4 + 1, none⟩ = some (.int .i64 (x.ar[l]'kl).c) := hx 1 _ rfl
              have c3 : wr.cell? ⟨g, off + l * 4 + 3, none⟩ = some (.int .i64 (x.ar[l]'kl).t) := hx 3 _ rfl
              have q1 := ZA.out l kl
              have q2 := ZB.out l kl
              generalize x.ar[l]'kl = m at *
              obtain ⟨tt, et, htt⟩ := below_nat q2
              obtain ⟨gz, oz, cz, csz, ez, hz1, hz2, pz, hxz⟩ := (HV.out.later BW).ins.get tt htt
              simp only [Value.slice.injEq] at ez
              obtain ⟨rfl, _, rfl⟩ := ez
              obtain ⟨_, _, _, _, rfl, _⟩ := pz
              have ci2 : wr.cell? ⟨gz, oz + tt * 7 + 2, none⟩ = some (.int .i64 (c.ins[tt]'htt).b) := hxz 2 _ rfl
              generalize (c.ins[tt]'htt).b = bz at *
              rw [et] at c3
              have htt' : (tt : Int) < c.ins.length := by omega
              unfold maxLen at hz2
              have HBW := Hid.mk BW
              by_cases hk : m.k = 1
              · obtain ⟨ll, el, hll⟩ := below_nat (l := c.co.length) (by simpa [armN, hk, conB] using q1)
                obtain ⟨gy, oy, cy, csy, ey, hy1, hy2, py, hxy⟩ := (HV.out.later BW).co.get ll hll
                simp only [Value.slice.injEq] at ey
                obtain ⟨rfl, _, rfl⟩ := ey
                obtain ⟨sy, rfl⟩ := py
                have cc1 : wr.cell? ⟨gy, oy + ll * 2 + 1, none⟩ = some (.int .i64 (c.co[ll]'hll)) := hxy 1 _ rfl
                generalize c.co[ll]'hll = cv at *
                rw [el] at c1
                rw [hk] at c0
                have hll' : (ll : Int) < c.co.length := by omega
                unfold maxLen at hy2
                clear hx hxz hxy BW
                go_wp2
                go_quiet (fail)
                go_wp2
                go_quiet (fail)
                all_goals go_wp2
                all_goals first
                  | (go_ret; exact ⟨_, rfl, belowOn HBW.out (below_drewN (below_drewN (Below.refl _ _) _) _)⟩)
                  | exact ⟨⟨l + 1, by go_num, by omega, ⟨belowOn BL.out (below_drewN (Below.refl _ _) _)⟩⟩, by simp [intOf]; omega⟩
              · have hk' : (m.k == 1) = false := by simpa using hk
                clear hx hxz BW
                go_wp2
                go_quiet (fail)
                all_goals go_wp2
                all_goals first
                  | (go_ret; exact ⟨_, rfl, belowOn HBW.out (below_drewN (Below.refl _ _) _)⟩)
                  | exact ⟨⟨l + 1, by go_num, by omega, ⟨belowOn BL.out (below_drewN (Below.refl _ _) _)⟩⟩, by simp [intOf]; omega⟩
            · obtain rfl : l = j := by omega
              go_wp2
              go_ret
              exact ⟨_, rfl, BW⟩
end
end Go.Proofs.YtidplckoolmaiaaDoor
