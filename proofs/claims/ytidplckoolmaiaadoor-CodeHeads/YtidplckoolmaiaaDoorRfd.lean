/- The document's own check: a let. -/
import Derived.Test.YtidplckoolmaiaaDoorRfc
namespace Go.Proofs.YtidplckoolmaiaaDoor
open Go.RowKit
set_option linter.unusedVariables false
set_option linter.unusedSimpArgs false

/-- what a let whose check tells nothing has -/
def LetOk (c : Cd) (m : Mk) : Prop := 0 ≤ takesI c m ∧ takesI c m = m.fr.length ∧ (m.k = 7 → conB c m.i = true)
section
variable {w : World} {c : Cd} {x : Ins} {vc vg vi vn vl vk vm va : Value}
set_option maxRecDepth 100000 in
set_option maxHeartbeats 8000000 in
theorem let_any (V : Cv w c vc vg vi vn) (I : Iv w x vl vk vm va) (z : Nat) (hz : z < c.ins.length) : Calls Tryd.prog 33 #[.agg #[vc, vg, vi, vn], .int .i64 z, .agg #[.int .i64 x.op, .int .i64 x.a, .int .i64 x.b, vl, vk, vm, va]] w fun e w' => ∃ r, e = .returned (.int .i64 r) ∧ (r = 0 → ∀ m ∈ x.ms, LetOk c m) ∧ Below w.heap.size w w' := by
  have HV := Hid.mk V
  have HI := Hid.mk I
  obtain ⟨⟨gc, cc, rfl, _⟩, ⟨gg, cg, rfl, _⟩, ⟨gi, ci, rfl, _⟩, ⟨gn, cn, rfl, _⟩⟩ := V
  obtain ⟨⟨gl, cl, rfl, _⟩, ⟨gk, ck, rfl, _⟩, ⟨gm, cm, rfl, hm, _⟩, ⟨ga, ca, rfl, _⟩⟩ := I
  obtain ⟨n, hn⟩ : ∃ n, x.ms.length = n := ⟨_, rfl⟩
  have HN := Hid.mk hn
  rw [hn] at hm ⊢
  have hm2 := hm.2
  unfold maxLen at hm2
  have hzl := HV.out.ins.len
  unfold maxLen at hzl
  clear hm
  obtain ⟨W0, hW0⟩ : ∃ W0, W0 = w.alloc (.cells #[.slice gc c.co.length cc, .slice gg c.gl.length cg, .slice gi c.inf.length ci, .slice gn c.ins.length cn] 27) := ⟨_, rfl⟩
  obtain ⟨W1, hW1⟩ : ∃ W1, W1 = W0.alloc (.cells #[.int .i64 x.op, .int .i64 x.a, .int .i64 x.b, .slice gl x.li.length cl, .slice gk x.ke.length ck, .slice gm n cm, .slice ga x.ar.length ca] 42) := ⟨_, rfl⟩
  have sz : W0.heap.size = w.heap.size + 1 := by subst hW0; simp
  have B1 : Below w.heap.size w W1 := by subst hW1 hW0; go_grown
  have kc : ∀ o u, #[.slice gc c.co.length cc, .slice gg c.gl.length cg, .slice gi c.inf.length ci, .slice gn c.ins.length cn][o]? = some u → W1.cell? ⟨w.heap.size, o, none⟩ = some u := fun o u h => by
    refine cellLater (w := W0) (by subst hW1; go_grown) ?_
    subst hW0
    exact cellNew _ _ _ _ _ h
  have kx : ∀ o u, #[.int .i64 x.op, .int .i64 x.a, .int .i64 x.b, .slice gl x.li.length cl, .slice gk x.ke.length ck, .slice gm n cm, .slice ga x.ar.length ca][o]? = some u → W1.cell? ⟨w.heap.size + 1, o, none⟩ = some u := fun o u h => by rw [← sz, hW1]; exact cellNew _ _ _ _ _ h
  have HB1 := Hid.mk B1
  have HKC := Hid.mk kc
  have HKX := Hid.mk kx
  have HTk : Hid (∀ W, Below w.heap.size w W → ∀ m vf, Lst W 1 isInt m.fr vf → Calls Tryd.prog 44 #[.agg #[.slice gc c.co.length cc, .slice gg c.gl.length cg, .slice gi c.inf.length ci, .slice gn c.ins.length cn], .agg #[.int .i64 m.k, .int .i64 m.i, .int .i64 m.n, vf]] W fun e w' => e = .returned (.int .i64 (takesI c m)) ∧ Below W.heap.size W w') := ⟨fun W hW m vf hf => takes_any (HV.out.later hW) m vf hf⟩
  have HOu : Hid (∀ W, Below w.heap.size w W → ∀ loc l v, Lst W 1 isInt l v → Calls Tryd.prog 34 #[.agg #[.slice gc c.co.length cc, .slice gg c.gl.length cg, .slice gi c.inf.length ci, .slice gn c.ins.length cn], .int .i64 loc, v] W fun e w' => ∃ r : Bool, e = .returned (.bool r) ∧ Below W.heap.size W w') := ⟨fun W hW loc l v hl => outside_any (HV.out.later hW) loc l v hl⟩
  have HCo : Hid (∀ W, Below w.heap.size w W → ∀ i : Int, Calls Tryd.prog 45 #[.agg #[.slice gc c.co.length cc, .slice gg c.gl.length cg, .slice gi c.inf.length ci, .slice gn c.ins.length cn], .int .i64 i] W fun e w' => e = .returned (.bool (conB c i)) ∧ Below W.heap.size W w') := ⟨fun W hW i => rcon_any (HV.out.later hW) i⟩
  have HTh : Hid (∀ W, Below w.heap.size w W → ∀ i : Int, Calls Tryd.prog 35 #[.agg #[.slice gc c.co.length cc, .slice gg c.gl.length cg, .slice gi c.inf.length ci, .slice gn c.ins.length cn], .int .i64 i] W fun e w' => e = .returned (.bool (belowI i c.ins.length)) ∧ Below W.heap.size W w') := ⟨fun W hW i => rthere_any (HV.out.later hW) i⟩
  clear B1 kc kx sz
  go_enter Tryd.func33, Tryd.ntmps33
  by_cases hn0 : n = 0
  · have hn0' : ((n : Int) == 0) = true := by simp; omega
    go_wp2
    go_ret
    exact ⟨_, rfl, fun h => absurd h (by decide), by go_grown⟩
  have hn0' : ((n : Int) == 0) = false := by simp; omega
  go_wp2
  rw [← hW0, ← hW1]
  clear hW0 hW1
  go_loopw [7] (fun u wr => ∃ i : Nat, u = .int .i64 i ∧ i ≤ n ∧ Hid (∀ (k : Nat) (hk : k < x.ms.length), k < i → takesI c (x.ms[k]'hk) < 0 ∨ takesI c (x.ms[k]'hk) = (x.ms[k]'hk).fr.length) ∧ Hid (Below W1.heap.size W1 wr)) (fun u _ => n - (intOf u).toNat)
  case atStart => exact ⟨0, rfl, Nat.zero_le _, ⟨fun k hk h => absurd h (by omega)⟩, ⟨Below.refl _ _⟩⟩
  case round =>
    obtain ⟨i, rfl, hi, Z, BB⟩ := hrel
    have x5 : wr.cell? ⟨w.heap.size + 1, 5, none⟩ = some (.slice gm n cm) := cellLater BB.out (HKX.out 5 _ rfl)
    have y0 : wr.cell? ⟨w.heap.size, 0, none⟩ = some (.slice gc c.co.length cc) := cellLater BB.out (HKC.out 0 _ rfl)
    have y1 : wr.cell? ⟨w.heap.size, 1, none⟩ = some (.slice gg c.gl.length cg) := cellLater BB.out (HKC.out 1 _ rfl)
    have y2 : wr.cell? ⟨w.heap.size, 2, none⟩ = some (.slice gi c.inf.length ci) := cellLater BB.out (HKC.out 2 _ rfl)
    have y3 : wr.cell? ⟨w.heap.size, 3, none⟩ = some (.slice gn c.ins.length cn) := cellLater BB.out (HKC.out 3 _ rfl)
    by_cases hlt : i < n
    · have kl : i < x.ms.length := by rw [HN.out]; exact hlt
      have hlt' : (i : Int) < n := by omega
      have BW := belowOn HB1.out BB.out
      obtain ⟨g, off, cap', cs, e, _, _, pc, hx⟩ := (HI.out.later BW).ms.get i kl
      rw [HN.out] at e
      simp only [Value.slice.injEq] at e
      obtain ⟨rfl, _, rfl⟩ := e
      obtain ⟨vf, rfl, hf⟩ := pc
      have HF := Hid.mk hf
      obtain ⟨gf, cf, rfl, _⟩ := hf
      have c0 : wr.cell? ⟨g, off + i * 4, none⟩ = some (.int .i64 (x.ms[i]'kl).k) := hx 0 _ rfl
      have c1 : wr.cell? ⟨g, off + i * 4 + 1, none⟩ = some (.int .i64 (x.ms[i]'kl).i) := hx 1 _ rfl
      have c2 : wr.cell? ⟨g, off + i * 4 + 2, none⟩ = some (.int .i64 (x.ms[i]'kl).n) := hx 2 _ rfl
      have c3 : wr.cell? ⟨g, off + i * 4 + 3, none⟩ = some (.slice gf (x.ms[i]'kl).fr.length cf) := hx 3 _ rfl
      have HZ : Hid (takesI c (x.ms[i]'kl) < 0 ∨ takesI c (x.ms[i]'kl) = (x.ms[i]'kl).fr.length → ∀ (k : Nat) (hk : k < x.ms.length), k < i + 1 → takesI c (x.ms[k]'hk) < 0 ∨ takesI c (x.ms[k]'hk) = (x.ms[k]'hk).fr.length) := ⟨fun h k hk q => by
        by_cases e : k = i
        · subst e; exact h
        · exact Z.out k hk (by omega)⟩
      generalize x.ms[i]'kl = m at *
      have C := HTk.out wr.drew (BW.drew) m _ (HF.out.later (Below.refl _ _).drew fun _ _ h => h)
      generalize takesI c m = tk at *
      generalize m.fr.length = fl at *
      have HBW := Hid.mk BW
      clear hx BW
      have HH : Hid (tk < 0 ∨ (0 ≤ tk ∧ ¬ tk = fl) ∨ (0 ≤ tk ∧ tk = fl)) := ⟨by omega⟩
      go_wp2
      go_region_held3 (fun w' => w'.cell? ⟨w.heap.size, 0, none⟩ = some (.slice gc c.co.length cc) ∧ w'.cell? ⟨w.heap.size, 1, none⟩ = some (.slice gg c.gl.length cg) ∧ w'.cell? ⟨w.heap.size, 2, none⟩ = some (.slice gi c.inf.length ci) ∧ w'.cell? ⟨w.heap.size, 3, none⟩ = some (.slice gn c.ins.length cn) ∧ w'.cell? ⟨w.heap.size + 1, 5, none⟩ = some (.slice (some ⟨g, off, none⟩) n cm) ∧ w'.cell? ⟨g, off + i * 4, none⟩ = some (.int .i64 m.k) ∧ w'.cell? ⟨g, off + i * 4 + 1, none⟩ = some (.int .i64 m.i) ∧ w'.cell? ⟨g, off + i * 4 + 2, none⟩ = some (.int .i64 m.n) ∧ w'.cell? ⟨g, off + i * 4 + 3, none⟩ = some (.slice gf fl cf)) (go_keep) (first | (go_at_call 44; refine C.mono ?_; rintro e w3 ⟨rfl, G3⟩; have D3 := belowOn (Below.refl _ _).drew G3; have p0 := cellLater D3 y0; have p1 := cellLater D3 y1; have p2 := cellLater D3 y2; have p3 := cellLater D3 y3; have p5 := cellLater D3 x5; have d0 := cellLater D3 c0; have d1 := cellLater D3 c1; have d2 := cellLater D3 c2; have d3 := cellLater D3 c3; have HD := Hid.mk D3; clear D3 G3))
      all_goals rcases HH.out with h | ⟨h1, h2⟩ | ⟨h1, h2⟩
      · have g1 : decide (0 ≤ tk) = false := by simp; omega
        have g2 : ¬ 0 ≤ tk := by omega
        go_wp2
        exact ⟨⟨i + 1, by go_num, by omega, ⟨HZ.out (Or.inl h)⟩, ⟨belowOn BB.out HD.out⟩⟩, by simp [intOf]; omega⟩
      · have g2 : (tk != (fl : Int)) = true := by simpa using h2
        go_wp2
        go_ret
        exact ⟨_, rfl, fun q => absurd q (by decide), belowOn HBW.out HD.out⟩
      · have g2 : (tk != (fl : Int)) = false := by simpa using h2
        go_wp2
        exact ⟨⟨i + 1, by go_num, by omega, ⟨HZ.out (Or.inr h2)⟩, ⟨belowOn BB.out HD.out⟩⟩, by simp [intOf]; omega⟩
    · obtain rfl : i = n := by omega
      go_wp2
      have Z1 : Hid (∀ (k : Nat) (hk : k < x.ms.length), takesI c (x.ms[k]'hk) < 0 ∨ takesI c (x.ms[k]'hk) = (x.ms[k]'hk).fr.length) := ⟨fun k hk => Z.out k hk (by have := HN.out; omega)⟩
      clear x5 y0 y1 y2 y3 Z
      go_loopw [9] (fun u wt => ∃ j : Nat, u = .int .i64 j ∧ j ≤ i ∧ Hid (∀ (k : Nat) (hk : k < x.ms.length), k < j → 0 ≤ takesI c (x.ms[k]'hk) ∧ ((x.ms[k]'hk).k = 7 → conB c (x.ms[k]'hk).i = true)) ∧ Hid (Below W1.heap.size W1 wt)) (fun u _ => i - (intOf u).toNat)
      case atStart => exact ⟨0, rfl, Nat.zero_le _, ⟨fun k hk h => absurd h (by omega)⟩, ⟨BB.out⟩⟩
      case round =>
        obtain ⟨j, rfl, hj, Z, BT⟩ := hrel
        have x5 : wr.cell? ⟨w.heap.size + 1, 5, none⟩ = some (.slice gm i cm) := cellLater BT.out (HKX.out 5 _ rfl)
        have y0 : wr.cell? ⟨w.heap.size, 0, none⟩ = some (.slice gc c.co.length cc) := cellLater BT.out (HKC.out 0 _ rfl)
        have y1 : wr.cell? ⟨w.heap.size, 1, none⟩ = some (.slice gg c.gl.length cg) := cellLater BT.out (HKC.out 1 _ rfl)
        have y2 : wr.cell? ⟨w.heap.size, 2, none⟩ = some (.slice gi c.inf.length ci) := cellLater BT.out (HKC.out 2 _ rfl)
        have y3 : wr.cell? ⟨w.heap.size, 3, none⟩ = some (.slice gn c.ins.length cn) := cellLater BT.out (HKC.out 3 _ rfl)
        by_cases hlt : j < i
        · have kl : j < x.ms.length := by rw [HN.out]; exact hlt
          have hlt' : (j : Int) < i := by omega
          have BW := belowOn HB1.out BT.out
          obtain ⟨g, off, cap', cs, e, _, _, pc, hx⟩ := (HI.out.later BW).ms.get j kl
          rw [HN.out] at e
          simp only [Value.slice.injEq] at e
          obtain ⟨rfl, _, rfl⟩ := e
          obtain ⟨vf, rfl, hf⟩ := pc
          have HF := Hid.mk hf
          obtain ⟨gf, cf, rfl, _⟩ := hf
          have c0 : wr.cell? ⟨g, off + j * 4, none⟩ = some (.int .i64 (x.ms[j]'kl).k) := hx 0 _ rfl
          have c1 : wr.cell? ⟨g, off + j * 4 + 1, none⟩ = some (.int .i64 (x.ms[j]'kl).i) := hx 1 _ rfl
          have c2 : wr.cell? ⟨g, off + j * 4 + 2, none⟩ = some (.int .i64 (x.ms[j]'kl).n) := hx 2 _ rfl
          have c3 : wr.cell? ⟨g, off + j * 4 + 3, none⟩ = some (.slice gf (x.ms[j]'kl).fr.length cf) := hx 3 _ rfl
          have HZ : Hid (0 ≤ takesI c (x.ms[j]'kl) → ((x.ms[j]'kl).k = 7 → conB c (x.ms[j]'kl).i = true) → ∀ (k : Nat) (hk : k < x.ms.length), k < j + 1 → 0 ≤ takesI c (x.ms[k]'hk) ∧ ((x.ms[k]'hk).k = 7 → conB c (x.ms[k]'hk).i = true)) := ⟨fun h h' k hk q => by
            by_cases e : k = j
            · subst e; exact ⟨h, h'⟩
            · exact Z.out k hk (by omega)⟩
          generalize x.ms[j]'kl = m at *
          obtain ⟨WB, hWB⟩ : ∃ WB, WB = wr.alloc (.cells #[.int .i64 m.k, .int .i64 m.i, .int .i64 m.n, .slice gf m.fr.length cf] 30) := ⟨_, rfl⟩
          have BX : Below wr.heap.size wr WB := by subst hWB; go_grown
          have C := HTk.out WB (belowOn BW BX) m _ (HF.out.later BX fun _ _ h => h)
          have kb : ∀ o u, #[.int .i64 m.k, .int .i64 m.i, .int .i64 m.n, .slice gf m.fr.length cf][o]? = some u → WB.cell? ⟨wr.heap.size, o, none⟩ = some u := fun o u h => by subst hWB; exact cellNew _ _ _ _ _ h
          have b0 := kb 0 _ rfl
          have b1 := kb 1 _ rfl
          have b2 := kb 2 _ rfl
          have b3 := kb 3 _ rfl
          have HBX := Hid.mk (belowOn BW BX)
          have HBT := Hid.mk (belowOn BT.out BX)
          have e0 := cellLater BX y0
          have e1 := cellLater BX y1
          have e2 := cellLater BX y2
          have e3 := cellLater BX y3
          generalize takesI c m = tk at *
          clear hx BW kb BX
          subst hWB
          by_cases ht : tk < 0
          · go_wp2_with (go_at_call 44; refine C.mono ?_; rintro e w3 ⟨rfl, G3⟩; have HD := Hid.mk G3; clear G3)
            go_ret
            exact ⟨_, rfl, fun q => absurd q (by decide), belowOn HBX.out HD.out⟩
          go_wp2_with (go_at_call 44; refine C.mono ?_; rintro e w3 ⟨rfl, G3⟩; have z0 := cellLater G3 b0; have z1 := cellLater G3 b1; have z2 := cellLater G3 b2; have p0 := cellLater G3 e0; have p1 := cellLater G3 e1; have p2 := cellLater G3 e2; have p3 := cellLater G3 e3; have HD := Hid.mk G3; clear G3)
          by_cases hk : m.k = 7
          · rw [hk] at z0
            have C45 := HCo.out w3.drew (belowOn HBX.out HD.out).drew m.i
            rcases Bool.eq_false_or_eq_true (conB c m.i) with q | q
            · by_cases hneg : m.n < 0
              · have hneg' : decide (m.n < 0) = true := by simpa using hneg
                rw [q] at C45
                refine wp_region_held_drew (S := (fun w' => w'.cell? ⟨w.heap.size, 0, none⟩ = some (.slice gc c.co.length cc) ∧ w'.cell? ⟨w.heap.size, 1, none⟩ = some (.slice gg c.gl.length cg) ∧ w'.cell? ⟨w.heap.size, 2, none⟩ = some (.slice gi c.inf.length ci) ∧ w'.cell? ⟨w.heap.size, 3, none⟩ = some (.slice gn c.ins.length cn) ∧ w'.cell? ⟨wr.heap.size, 0, none⟩ = some (.int .i64 7) ∧ w'.cell? ⟨wr.heap.size, 1, none⟩ = some (.int .i64 m.i) ∧ w'.cell? ⟨wr.heap.size, 2, none⟩ = some (.int .i64 m.n))) (by kernel_rfl) ?_ (fun hHeld => ?_)
                · try dsimp only
                  go_keep
                refine wpAnyH_take (i := 0) (v := ?_) rfl (by kernel_rfl) (by kernel_rfl) (by kernel_rfl) (fun _ _ _ h => h) (Or.inl ⟨by rfl, ?_⟩) (by assumption) ?_
                rotate_left
                · intro w' hSw
                  try dsimp only at hSw
                  go_simp
                  try with_reducible rfl
                try simp only [Act.put, List.getElem_toArray, List.getElem_cons_zero, List.getElem_cons_succ, List.setIfInBounds_toArray, List.set_cons_zero, List.set_cons_succ]
                refine wpAnyH_take (i := 1) (v := ?_) rfl (by kernel_rfl) (by kernel_rfl) (by kernel_rfl) (fun _ _ _ h => h) (Or.inl ⟨by rfl, ?_⟩) (by assumption) ?_
                rotate_left
                · intro w' hSw
                  try dsimp only at hSw
                  go_simp
                  try with_reducible rfl
                try simp only [Act.put, List.getElem_toArray, List.getElem_cons_zero, List.getElem_cons_succ, List.setIfInBounds_toArray, List.set_cons_zero, List.set_cons_succ]
                refine wpAnyH_take (i := 2) (v := ?_) rfl (by kernel_rfl) (by kernel_rfl) (by kernel_rfl) (fun _ _ _ h => h) (Or.inl ⟨by rfl, ?_⟩) (by assumption) ?_
                rotate_left
                · intro w' hSw
                  try dsimp only at hSw
                  go_simp
                  try with_reducible rfl
                try simp only [Act.put, List.getElem_toArray, List.getElem_cons_zero, List.getElem_cons_succ, List.setIfInBounds_toArray, List.set_cons_zero, List.set_cons_succ]
                refine wpAnyH_take (i := 3) (v := ?_) rfl (by kernel_rfl) (by kernel_rfl) (by kernel_rfl) (fun _ _ _ h => h) (Or.inl ⟨by rfl, ?_⟩) (by assumption) ?_
                rotate_left
                · intro w' hSw
                  try dsimp only at hSw
                  go_simp
                  try with_reducible rfl
                try simp only [Act.put, List.getElem_toArray, List.getElem_cons_zero, List.getElem_cons_succ, List.setIfInBounds_toArray, List.set_cons_zero, List.set_cons_succ]
                refine wpAnyH_take (i := 4) (v := ?_) rfl (by kernel_rfl) (by kernel_rfl) (by kernel_rfl) (fun _ _ _ h => h) (Or.inl ⟨by rfl, ?_⟩) (by assumption) ?_
                rotate_left
                · intro w' hSw
                  try dsimp only at hSw
                  go_simp
                  try with_reducible rfl
                try simp only [Act.put, List.getElem_toArray, List.getElem_cons_zero, List.getElem_cons_succ, List.setIfInBounds_toArray, List.set_cons_zero, List.set_cons_succ]
                refine wpAnyH_take (i := 5) (v := ?_) rfl (by kernel_rfl) (by kernel_rfl) (by kernel_rfl) (fun _ _ _ h => h) (Or.inl ⟨by rfl, ?_⟩) (by assumption) ?_
                rotate_left
                · intro w' hSw
                  try dsimp only at hSw
                  go_simp
                  try with_reducible rfl
                try simp only [Act.put, List.getElem_toArray, List.getElem_cons_zero, List.getElem_cons_succ, List.setIfInBounds_toArray, List.set_cons_zero, List.set_cons_succ]
                refine wpAnyH_take (i := 6) (v := ?_) rfl (by kernel_rfl) (by kernel_rfl) (by kernel_rfl) (fun _ _ _ h => h) (Or.inl ⟨by rfl, ?_⟩) (by assumption) ?_
                rotate_left
                · intro w' hSw
                  try dsimp only at hSw
                  go_simp
                  try with_reducible rfl
                try simp only [Act.put, List.getElem_toArray, List.getElem_cons_zero, List.getElem_cons_succ, List.setIfInBounds_toArray, List.set_cons_zero, List.set_cons_succ]
                refine wpAnyH_ready (rs := [7]) (by kernel_rfl) (by simp) ?_
                refine AllReadyH.cons rfl (fun K hK => ?_) ?_
                · go_simp
                  (go_at_call 45; refine C45.mono ?_; rintro e w4 ⟨rfl, G4⟩; have D4 := belowOn (Below.refl _ _).drew G4; have r0 := cellLater D4 p0; have r1 := cellLater D4 p1; have r2 := cellLater D4 p2; have r3 := cellLater D4 p3; have s0 := cellLater D4 z0; have s1 := cellLater D4 z1; have s2 := cellLater D4 z2; have HD4 := Hid.mk D4; clear D4 G4)
                  try go_wp2_with fail
                  refine hK.out _ _ ?_ (fun hHeld => ?_)
                  · try dsimp only
                    go_keep
                  clear hK K
                  try simp only [Act.put, List.getElem_toArray, List.getElem_cons_zero, List.getElem_cons_succ, List.setIfInBounds_toArray, List.set_cons_zero, List.set_cons_succ]
                  refine wpAnyH_take (i := 8) (v := ?_) rfl (by kernel_rfl) (by kernel_rfl) (by kernel_rfl) (fun _ _ _ h => h) (Or.inl ⟨by rfl, ?_⟩) (by assumption) ?_
                  rotate_left
                  · intro w' hSw
                    try dsimp only at hSw
                    go_simp
                    try with_reducible rfl
                  try simp only [Act.put, List.getElem_toArray, List.getElem_cons_zero, List.getElem_cons_succ, List.setIfInBounds_toArray, List.set_cons_zero, List.set_cons_succ]
                  refine wpAnyH_take (i := 9) (v := ?_) rfl (by kernel_rfl) (by kernel_rfl) (by kernel_rfl) (fun _ _ _ h => h) (Or.inl ⟨by rfl, ?_⟩) (by assumption) ?_
                  rotate_left
                  · intro w' hSw
                    try dsimp only at hSw
                    go_simp
                    try with_reducible rfl
                  try simp only [Act.put, List.getElem_toArray, List.getElem_cons_zero, List.getElem_cons_succ, List.setIfInBounds_toArray, List.set_cons_zero, List.set_cons_succ]
                  refine wpAnyH_take (i := 10) (v := ?_) rfl (by kernel_rfl) (by kernel_rfl) (by kernel_rfl) (fun _ _ _ h => h) (Or.inl ⟨by rfl, ?_⟩) (by assumption) ?_
                  rotate_left
                  · intro w' hSw
                    try dsimp only at hSw
                    go_simp
                    try with_reducible rfl
                  try simp only [Act.put, List.getElem_toArray, List.getElem_cons_zero, List.getElem_cons_succ, List.setIfInBounds_toArray, List.set_cons_zero, List.set_cons_succ]
                  refine wpAnyH_take (i := 11) (v := ?_) rfl (by kernel_rfl) (by kernel_rfl) (by kernel_rfl) (fun _ _ _ h => h) (Or.inl ⟨by rfl, ?_⟩) (by assumption) ?_
                  rotate_left
                  · intro w' hSw
                    try dsimp only at hSw
                    go_simp
                    try with_reducible rfl
                  try simp only [Act.put, List.getElem_toArray, List.getElem_cons_zero, List.getElem_cons_succ, List.setIfInBounds_toArray, List.set_cons_zero, List.set_cons_succ]
                  refine wpAnyH_take (i := 12) (v := ?_) rfl (by kernel_rfl) (by kernel_rfl) (by kernel_rfl) (fun _ _ _ h => h) (Or.inl ⟨by rfl, ?_⟩) (by assumption) ?_
                  rotate_left
                  · intro w' hSw
                    try dsimp only at hSw
                    go_simp
                    try with_reducible rfl
                  try simp only [Act.put, List.getElem_toArray, List.getElem_cons_zero, List.getElem_cons_succ, List.setIfInBounds_toArray, List.set_cons_zero, List.set_cons_succ]
                  refine wpAnyH_take (i := 13) (v := ?_) rfl (by kernel_rfl) (by kernel_rfl) (by kernel_rfl) (fun _ _ _ h => h) (Or.inl ⟨by rfl, ?_⟩) (by assumption) ?_
                  rotate_left
                  · intro w' hSw
                    try dsimp only at hSw
                    go_simp
                    try with_reducible rfl
                  try simp only [Act.put, List.getElem_toArray, List.getElem_cons_zero, List.getElem_cons_succ, List.setIfInBounds_toArray, List.set_cons_zero, List.set_cons_succ]
                  refine wpAnyH_take (i := 14) (v := ?_) rfl (by kernel_rfl) (by kernel_rfl) (by kernel_rfl) (fun _ _ _ h => h) (Or.inl ⟨by rfl, ?_⟩) (by assumption) ?_
                  rotate_left
                  · intro w' hSw
                    try dsimp only at hSw
                    go_simp
                    try with_reducible rfl
                  try simp only [Act.put, List.getElem_toArray, List.getElem_cons_zero, List.getElem_cons_succ, List.setIfInBounds_toArray, List.set_cons_zero, List.set_cons_succ]
                  refine wpAnyH_take (i := 15) (v := undef) rfl (by kernel_rfl) (by kernel_rfl) (by kernel_rfl) (fun _ _ _ h => h) (Or.inr ⟨by rfl, rfl⟩) (by assumption) ?_
                  try simp only [Act.put, List.getElem_toArray, List.getElem_cons_zero, List.getElem_cons_succ, List.setIfInBounds_toArray, List.set_cons_zero, List.set_cons_succ]
                  refine wpAnyH_take (i := 16) (v := undef) rfl (by kernel_rfl) (by kernel_rfl) (by kernel_rfl) (fun _ _ _ h => h) (Or.inr ⟨by rfl, rfl⟩) (by assumption) ?_
                  try simp only [Act.put, List.getElem_toArray, List.getElem_cons_zero, List.getElem_cons_succ, List.setIfInBounds_toArray, List.set_cons_zero, List.set_cons_succ]
                  refine wpAnyH_take (i := 17) (v := undef) rfl (by kernel_rfl) (by kernel_rfl) (by kernel_rfl) (fun _ _ _ h => h) (Or.inr ⟨by rfl, rfl⟩) (by assumption) ?_
                  try simp only [Act.put, List.getElem_toArray, List.getElem_cons_zero, List.getElem_cons_succ, List.setIfInBounds_toArray, List.set_cons_zero, List.set_cons_succ]
                  refine wpAnyH_take (i := 18) (v := undef) rfl (by kernel_rfl) (by kernel_rfl) (by kernel_rfl) (fun _ _ _ h => h) (Or.inr ⟨by rfl, rfl⟩) (by assumption) ?_
                  try simp only [Act.put, List.getElem_toArray, List.getElem_cons_zero, List.getElem_cons_succ, List.setIfInBounds_toArray, List.set_cons_zero, List.set_cons_succ]
                  refine wpAnyH_take (i := 19) (v := undef) rfl (by kernel_rfl) (by kernel_rfl) (by kernel_rfl) (fun _ _ _ h => h) (Or.inr ⟨by rfl, rfl⟩) (by assumption) ?_
                  try simp only [Act.put, List.getElem_toArray, List.getElem_cons_zero, List.getElem_cons_succ, List.setIfInBounds_toArray, List.set_cons_zero, List.set_cons_succ]
                  refine wpAnyH_take (i := 20) (v := undef) rfl (by kernel_rfl) (by kernel_rfl) (by kernel_rfl) (fun _ _ _ h => h) (Or.inr ⟨by rfl, rfl⟩) (by assumption) ?_
                  try simp only [Act.put, List.getElem_toArray, List.getElem_cons_zero, List.getElem_cons_succ, List.setIfInBounds_toArray, List.set_cons_zero, List.set_cons_succ]
                  refine wpAnyH_take (i := 21) (v := undef) rfl (by kernel_rfl) (by kernel_rfl) (by kernel_rfl) (fun _ _ _ h => h) (Or.inr ⟨by rfl, rfl⟩) (by assumption) ?_
                  try simp only [Act.put, List.getElem_toArray, List.getElem_cons_zero, List.getElem_cons_succ, List.setIfInBounds_toArray, List.set_cons_zero, List.set_cons_succ]
                  refine wpAnyH_take (i := 22) (v := undef) rfl (by kernel_rfl) (by kernel_rfl) (by kernel_rfl) (fun _ _ _ h => h) (Or.inr ⟨by rfl, rfl⟩) (by assumption) ?_
                  try simp only [Act.put, List.getElem_toArray, List.getElem_cons_zero, List.getElem_cons_succ, List.setIfInBounds_toArray, List.set_cons_zero, List.set_cons_succ]
                  refine wpAnyH_take (i := 23) (v := undef) rfl (by kernel_rfl) (by kernel_rfl) (by kernel_rfl) (fun _ _ _ h => h) (Or.inr ⟨by rfl, rfl⟩) (by assumption) ?_
                  try simp only [Act.put, List.getElem_toArray, List.getElem_cons_zero, List.getElem_cons_succ, List.setIfInBounds_toArray, List.set_cons_zero, List.set_cons_succ]
                  refine wpAnyH_take (i := 24) (v := undef) rfl (by kernel_rfl) (by kernel_rfl) (by kernel_rfl) (fun _ _ _ h => h) (Or.inr ⟨by rfl, rfl⟩) (by assumption) ?_
                  try simp only [Act.put, List.getElem_toArray, List.getElem_cons_zero, List.getElem_cons_succ, List.setIfInBounds_toArray, List.set_cons_zero, List.set_cons_succ]
                  refine wpAnyH_take (i := 25) (v := ?_) rfl (by kernel_rfl) (by kernel_rfl) (by kernel_rfl) (fun _ _ _ h => h) (Or.inl ⟨by rfl, ?_⟩) (by assumption) ?_
                  rotate_left
                  · intro w' hSw
                    try dsimp only at hSw
                    go_simp
                    try with_reducible rfl
                  try simp only [Act.put, List.getElem_toArray, List.getElem_cons_zero, List.getElem_cons_succ, List.setIfInBounds_toArray, List.set_cons_zero, List.set_cons_succ]
                  refine wpAnyH_take (i := 26) (v := ?_) rfl (by kernel_rfl) (by kernel_rfl) (by kernel_rfl) (fun _ _ _ h => h) (Or.inl ⟨by rfl, ?_⟩) (by assumption) ?_
                  rotate_left
                  · intro w' hSw
                    try dsimp only at hSw
                    go_simp
                    try with_reducible rfl
                  try simp only [Act.put, List.getElem_toArray, List.getElem_cons_zero, List.getElem_cons_succ, List.setIfInBounds_toArray, List.set_cons_zero, List.set_cons_succ]
                  refine wpAnyH_done (by kernel_rfl) ?_ _
                  go_wp2
                  go_ret
                  exact ⟨_, rfl, fun q => absurd q (by decide), belowOn HBX.out (belowOn HD.out HD4.out)⟩
                exact AllReadyH.nil
              · have hneg' : decide (m.n < 0) = false := by simpa using hneg
                obtain ⟨l, el, hl⟩ := below_nat (l := c.co.length) q
                obtain ⟨gz, oz, cz, csz, ez, hz1, hz2, pz, hxz⟩ := (HV.out.later (belowOn HBX.out HD.out)).co.get l hl
                simp only [Value.slice.injEq] at ez
                obtain ⟨rfl, _, rfl⟩ := ez
                obtain ⟨sz, rfl⟩ := pz
                have cz1 : w3.cell? ⟨gz, oz + l * 2 + 1, none⟩ = some (.int .i64 (c.co[l]'hl)) := hxz 1 _ rfl
                generalize c.co[l]'hl = cv at *
                have hl' : (l : Int) < c.co.length := by omega
                unfold maxLen at hz2
                rw [q] at C45
                rw [el] at C45 z1
                clear hxz
                go_region_held3 (fun w' => w'.cell? ⟨w.heap.size, 0, none⟩ = some (.slice (some ⟨gz, oz, none⟩) c.co.length cc) ∧ w'.cell? ⟨w.heap.size, 1, none⟩ = some (.slice gg c.gl.length cg) ∧ w'.cell? ⟨w.heap.size, 2, none⟩ = some (.slice gi c.inf.length ci) ∧ w'.cell? ⟨w.heap.size, 3, none⟩ = some (.slice gn c.ins.length cn) ∧ w'.cell? ⟨wr.heap.size, 0, none⟩ = some (.int .i64 7) ∧ w'.cell? ⟨wr.heap.size, 1, none⟩ = some (.int .i64 l) ∧ w'.cell? ⟨wr.heap.size, 2, none⟩ = some (.int .i64 m.n) ∧ w'.cell? ⟨gz, oz + l * 2 + 1, none⟩ = some (.int .i64 cv)) (go_keep) (first | (go_at_call 45; refine C45.mono ?_; rintro e w4 ⟨rfl, G4⟩; have D4 := belowOn (Below.refl _ _).drew G4; have r0 := cellLater D4 p0; have r1 := cellLater D4 p1; have r2 := cellLater D4 p2; have r3 := cellLater D4 p3; have s0 := cellLater D4 z0; have s1 := cellLater D4 z1; have s2 := cellLater D4 z2; have sz4 := cellLater D4 cz1; have HD4 := Hid.mk D4; clear D4 G4))
                all_goals go_wp2
                all_goals first
                  | (go_ret; exact ⟨_, rfl, fun q => absurd q (by decide), belowOn HBX.out (belowOn HD.out HD4.out)⟩)
                  | exact ⟨⟨j + 1, by go_num, by omega, ⟨HZ.out (by omega) (fun _ => q)⟩, ⟨belowOn HBT.out (belowOn HD.out HD4.out)⟩⟩, by simp [intOf]; omega⟩
            · rw [q] at C45
              refine wp_region_held_drew (S := (fun w' => w'.cell? ⟨w.heap.size, 0, none⟩ = some (.slice gc c.co.length cc) ∧ w'.cell? ⟨w.heap.size, 1, none⟩ = some (.slice gg c.gl.length cg) ∧ w'.cell? ⟨w.heap.size, 2, none⟩ = some (.slice gi c.inf.length ci) ∧ w'.cell? ⟨w.heap.size, 3, none⟩ = some (.slice gn c.ins.length cn) ∧ w'.cell? ⟨wr.heap.size, 0, none⟩ = some (.int .i64 7) ∧ w'.cell? ⟨wr.heap.size, 1, none⟩ = some (.int .i64 m.i) ∧ w'.cell? ⟨wr.heap.size, 2, none⟩ = some (.int .i64 m.n))) (by kernel_rfl) ?_ (fun hHeld => ?_)
              · try dsimp only
                go_keep
              refine wpAnyH_take (i := 0) (v := ?_) rfl (by kernel_rfl) (by kernel_rfl) (by kernel_rfl) (fun _ _ _ h => h) (Or.inl ⟨by rfl, ?_⟩) (by assumption) ?_
              rotate_left
              · intro w' hSw
                try dsimp only at hSw
                go_simp
                try with_reducible rfl
              try simp only [Act.put, List.getElem_toArray, List.getElem_cons_zero, List.getElem_cons_succ, List.setIfInBounds_toArray, List.set_cons_zero, List.set_cons_succ]
              refine wpAnyH_take (i := 1) (v := ?_) rfl (by kernel_rfl) (by kernel_rfl) (by kernel_rfl) (fun _ _ _ h => h) (Or.inl ⟨by rfl, ?_⟩) (by assumption) ?_
              rotate_left
              · intro w' hSw
                try dsimp only at hSw
                go_simp
                try with_reducible rfl
              try simp only [Act.put, List.getElem_toArray, List.getElem_cons_zero, List.getElem_cons_succ, List.setIfInBounds_toArray, List.set_cons_zero, List.set_cons_succ]
              refine wpAnyH_take (i := 2) (v := ?_) rfl (by kernel_rfl) (by kernel_rfl) (by kernel_rfl) (fun _ _ _ h => h) (Or.inl ⟨by rfl, ?_⟩) (by assumption) ?_
              rotate_left
              · intro w' hSw
                try dsimp only at hSw
                go_simp
                try with_reducible rfl
              try simp only [Act.put, List.getElem_toArray, List.getElem_cons_zero, List.getElem_cons_succ, List.setIfInBounds_toArray, List.set_cons_zero, List.set_cons_succ]
              refine wpAnyH_take (i := 3) (v := ?_) rfl (by kernel_rfl) (by kernel_rfl) (by kernel_rfl) (fun _ _ _ h => h) (Or.inl ⟨by rfl, ?_⟩) (by assumption) ?_
              rotate_left
              · intro w' hSw
                try dsimp only at hSw
                go_simp
                try with_reducible rfl
              try simp only [Act.put, List.getElem_toArray, List.getElem_cons_zero, List.getElem_cons_succ, List.setIfInBounds_toArray, List.set_cons_zero, List.set_cons_succ]
              refine wpAnyH_take (i := 4) (v := ?_) rfl (by kernel_rfl) (by kernel_rfl) (by kernel_rfl) (fun _ _ _ h => h) (Or.inl ⟨by rfl, ?_⟩) (by assumption) ?_
              rotate_left
              · intro w' hSw
                try dsimp only at hSw
                go_simp
                try with_reducible rfl
              try simp only [Act.put, List.getElem_toArray, List.getElem_cons_zero, List.getElem_cons_succ, List.setIfInBounds_toArray, List.set_cons_zero, List.set_cons_succ]
              refine wpAnyH_take (i := 5) (v := ?_) rfl (by kernel_rfl) (by kernel_rfl) (by kernel_rfl) (fun _ _ _ h => h) (Or.inl ⟨by rfl, ?_⟩) (by assumption) ?_
              rotate_left
              · intro w' hSw
                try dsimp only at hSw
                go_simp
                try with_reducible rfl
              try simp only [Act.put, List.getElem_toArray, List.getElem_cons_zero, List.getElem_cons_succ, List.setIfInBounds_toArray, List.set_cons_zero, List.set_cons_succ]
              refine wpAnyH_take (i := 6) (v := ?_) rfl (by kernel_rfl) (by kernel_rfl) (by kernel_rfl) (fun _ _ _ h => h) (Or.inl ⟨by rfl, ?_⟩) (by assumption) ?_
              rotate_left
              · intro w' hSw
                try dsimp only at hSw
                go_simp
                try with_reducible rfl
              try simp only [Act.put, List.getElem_toArray, List.getElem_cons_zero, List.getElem_cons_succ, List.setIfInBounds_toArray, List.set_cons_zero, List.set_cons_succ]
              refine wpAnyH_ready (rs := [7]) (by kernel_rfl) (by simp) ?_
              refine AllReadyH.cons rfl (fun K hK => ?_) ?_
              · go_simp
                (go_at_call 45; refine C45.mono ?_; rintro e w4 ⟨rfl, G4⟩; have D4 := belowOn (Below.refl _ _).drew G4; have r0 := cellLater D4 p0; have r1 := cellLater D4 p1; have r2 := cellLater D4 p2; have r3 := cellLater D4 p3; have s0 := cellLater D4 z0; have s1 := cellLater D4 z1; have s2 := cellLater D4 z2; have HD4 := Hid.mk D4; clear D4 G4)
                try go_wp2_with fail
                refine hK.out _ _ ?_ (fun hHeld => ?_)
                · try dsimp only
                  go_keep
                clear hK K
                try simp only [Act.put, List.getElem_toArray, List.getElem_cons_zero, List.getElem_cons_succ, List.setIfInBounds_toArray, List.set_cons_zero, List.set_cons_succ]
                refine wpAnyH_take (i := 8) (v := ?_) rfl (by kernel_rfl) (by kernel_rfl) (by kernel_rfl) (fun _ _ _ h => h) (Or.inl ⟨by rfl, ?_⟩) (by assumption) ?_
                rotate_left
                · intro w' hSw
                  try dsimp only at hSw
                  go_simp
                  try with_reducible rfl
                try simp only [Act.put, List.getElem_toArray, List.getElem_cons_zero, List.getElem_cons_succ, List.setIfInBounds_toArray, List.set_cons_zero, List.set_cons_succ]
                refine wpAnyH_take (i := 9) (v := ?_) rfl (by kernel_rfl) (by kernel_rfl) (by kernel_rfl) (fun _ _ _ h => h) (Or.inl ⟨by rfl, ?_⟩) (by assumption) ?_
                rotate_left
                · intro w' hSw
                  try dsimp only at hSw
                  go_simp
                  try with_reducible rfl
                try simp only [Act.put, List.getElem_toArray, List.getElem_cons_zero, List.getElem_cons_succ, List.setIfInBounds_toArray, List.set_cons_zero, List.set_cons_succ]
                refine wpAnyH_take (i := 10) (v := undef) rfl (by kernel_rfl) (by kernel_rfl) (by kernel_rfl) (fun _ _ _ h => h) (Or.inr ⟨by rfl, rfl⟩) (by assumption) ?_
                try simp only [Act.put, List.getElem_toArray, List.getElem_cons_zero, List.getElem_cons_succ, List.setIfInBounds_toArray, List.set_cons_zero, List.set_cons_succ]
                refine wpAnyH_take (i := 11) (v := undef) rfl (by kernel_rfl) (by kernel_rfl) (by kernel_rfl) (fun _ _ _ h => h) (Or.inr ⟨by rfl, rfl⟩) (by assumption) ?_
                try simp only [Act.put, List.getElem_toArray, List.getElem_cons_zero, List.getElem_cons_succ, List.setIfInBounds_toArray, List.set_cons_zero, List.set_cons_succ]
                refine wpAnyH_take (i := 12) (v := undef) rfl (by kernel_rfl) (by kernel_rfl) (by kernel_rfl) (fun _ _ _ h => h) (Or.inr ⟨by rfl, rfl⟩) (by assumption) ?_
                try simp only [Act.put, List.getElem_toArray, List.getElem_cons_zero, List.getElem_cons_succ, List.setIfInBounds_toArray, List.set_cons_zero, List.set_cons_succ]
                refine wpAnyH_take (i := 13) (v := ?_) rfl (by kernel_rfl) (by kernel_rfl) (by kernel_rfl) (fun _ _ _ h => h) (Or.inl ⟨by rfl, ?_⟩) (by assumption) ?_
                rotate_left
                · intro w' hSw
                  try dsimp only at hSw
                  go_simp
                  try with_reducible rfl
                try simp only [Act.put, List.getElem_toArray, List.getElem_cons_zero, List.getElem_cons_succ, List.setIfInBounds_toArray, List.set_cons_zero, List.set_cons_succ]
                refine wpAnyH_take (i := 14) (v := ?_) rfl (by kernel_rfl) (by kernel_rfl) (by kernel_rfl) (fun _ _ _ h => h) (Or.inl ⟨by rfl, ?_⟩) (by assumption) ?_
                rotate_left
                · intro w' hSw
                  try dsimp only at hSw
                  go_simp
                  try with_reducible rfl
                try simp only [Act.put, List.getElem_toArray, List.getElem_cons_zero, List.getElem_cons_succ, List.setIfInBounds_toArray, List.set_cons_zero, List.set_cons_succ]
                refine wpAnyH_take (i := 15) (v := undef) rfl (by kernel_rfl) (by kernel_rfl) (by kernel_rfl) (fun _ _ _ h => h) (Or.inr ⟨by rfl, rfl⟩) (by assumption) ?_
                try simp only [Act.put, List.getElem_toArray, List.getElem_cons_zero, List.getElem_cons_succ, List.setIfInBounds_toArray, List.set_cons_zero, List.set_cons_succ]
                refine wpAnyH_take (i := 16) (v := undef) rfl (by kernel_rfl) (by kernel_rfl) (by kernel_rfl) (fun _ _ _ h => h) (Or.inr ⟨by rfl, rfl⟩) (by assumption) ?_
                try simp only [Act.put, List.getElem_toArray, List.getElem_cons_zero, List.getElem_cons_succ, List.setIfInBounds_toArray, List.set_cons_zero, List.set_cons_succ]
                refine wpAnyH_take (i := 17) (v := undef) rfl (by kernel_rfl) (by kernel_rfl) (by kernel_rfl) (fun _ _ _ h => h) (Or.inr ⟨by rfl, rfl⟩) (by assumption) ?_
                try simp only [Act.put, List.getElem_toArray, List.getElem_cons_zero, List.getElem_cons_succ, List.setIfInBounds_toArray, List.set_cons_zero, List.set_cons_succ]
                refine wpAnyH_take (i := 18) (v := undef) rfl (by kernel_rfl) (by kernel_rfl) (by kernel_rfl) (fun _ _ _ h => h) (Or.inr ⟨by rfl, rfl⟩) (by assumption) ?_
                try simp only [Act.put, List.getElem_toArray, List.getElem_cons_zero, List.getElem_cons_succ, List.setIfInBounds_toArray, List.set_cons_zero, List.set_cons_succ]
                refine wpAnyH_take (i := 19) (v := undef) rfl (by kernel_rfl) (by kernel_rfl) (by kernel_rfl) (fun _ _ _ h => h) (Or.inr ⟨by rfl, rfl⟩) (by assumption) ?_
                try simp only [Act.put, List.getElem_toArray, List.getElem_cons_zero, List.getElem_cons_succ, List.setIfInBounds_toArray, List.set_cons_zero, List.set_cons_succ]
                refine wpAnyH_take (i := 20) (v := undef) rfl (by kernel_rfl) (by kernel_rfl) (by kernel_rfl) (fun _ _ _ h => h) (Or.inr ⟨by rfl, rfl⟩) (by assumption) ?_
                try simp only [Act.put, List.getElem_toArray, List.getElem_cons_zero, List.getElem_cons_succ, List.setIfInBounds_toArray, List.set_cons_zero, List.set_cons_succ]
                refine wpAnyH_take (i := 21) (v := undef) rfl (by kernel_rfl) (by kernel_rfl) (by kernel_rfl) (fun _ _ _ h => h) (Or.inr ⟨by rfl, rfl⟩) (by assumption) ?_
                try simp only [Act.put, List.getElem_toArray, List.getElem_cons_zero, List.getElem_cons_succ, List.setIfInBounds_toArray, List.set_cons_zero, List.set_cons_succ]
                refine wpAnyH_take (i := 22) (v := undef) rfl (by kernel_rfl) (by kernel_rfl) (by kernel_rfl) (fun _ _ _ h => h) (Or.inr ⟨by rfl, rfl⟩) (by assumption) ?_
                try simp only [Act.put, List.getElem_toArray, List.getElem_cons_zero, List.getElem_cons_succ, List.setIfInBounds_toArray, List.set_cons_zero, List.set_cons_succ]
                refine wpAnyH_take (i := 23) (v := undef) rfl (by kernel_rfl) (by kernel_rfl) (by kernel_rfl) (fun _ _ _ h => h) (Or.inr ⟨by rfl, rfl⟩) (by assumption) ?_
                try simp only [Act.put, List.getElem_toArray, List.getElem_cons_zero, List.getElem_cons_succ, List.setIfInBounds_toArray, List.set_cons_zero, List.set_cons_succ]
                refine wpAnyH_take (i := 24) (v := undef) rfl (by kernel_rfl) (by kernel_rfl) (by kernel_rfl) (fun _ _ _ h => h) (Or.inr ⟨by rfl, rfl⟩) (by assumption) ?_
                try simp only [Act.put, List.getElem_toArray, List.getElem_cons_zero, List.getElem_cons_succ, List.setIfInBounds_toArray, List.set_cons_zero, List.set_cons_succ]
                refine wpAnyH_take (i := 25) (v := ?_) rfl (by kernel_rfl) (by kernel_rfl) (by kernel_rfl) (fun _ _ _ h => h) (Or.inl ⟨by rfl, ?_⟩) (by assumption) ?_
                rotate_left
                · intro w' hSw
                  try dsimp only at hSw
                  go_simp
                  try with_reducible rfl
                try simp only [Act.put, List.getElem_toArray, List.getElem_cons_zero, List.getElem_cons_succ, List.setIfInBounds_toArray, List.set_cons_zero, List.set_cons_succ]
                refine wpAnyH_take (i := 26) (v := ?_) rfl (by kernel_rfl) (by kernel_rfl) (by kernel_rfl) (fun _ _ _ h => h) (Or.inl ⟨by rfl, ?_⟩) (by assumption) ?_
                rotate_left
                · intro w' hSw
                  try dsimp only at hSw
                  go_simp
                  try with_reducible rfl
                try simp only [Act.put, List.getElem_toArray, List.getElem_cons_zero, List.getElem_cons_succ, List.setIfInBounds_toArray, List.set_cons_zero, List.set_cons_succ]
                refine wpAnyH_done (by kernel_rfl) ?_ _
                go_wp2
                go_ret
                exact ⟨_, rfl, fun q => absurd q (by decide), belowOn HBX.out (belowOn HD.out HD4.out)⟩
              exact AllReadyH.nil
          · have hk' : (m.k == 7) = false := by simpa using hk
            go_quiet (fail)
            all_goals go_wp2
            all_goals exact ⟨⟨j + 1, by go_num, by omega, ⟨HZ.out (by omega) (fun h => absurd h hk)⟩, ⟨belowOn HBT.out (below_drewN HD.out _)⟩⟩, by simp [intOf]; omega⟩
        · obtain rfl : j = i := by omega
          go_wp2
          have Z2 : Hid (∀ m ∈ x.ms, LetOk c m) := ⟨fun m hm => by
            obtain ⟨k, hk, rfl⟩ := List.getElem_of_mem hm
            obtain ⟨a, b⟩ := Z.out k hk (by have := HN.out; omega)
            rcases Z1.out k hk with q | q
            · exact absurd q (by omega)
            · exact ⟨a, q, b⟩⟩
          clear x5 y0 y1 y2 y3 Z Z1
          go_loopw [11] (fun u wt => ∃ l : Nat, u = .int .i64 l ∧ l ≤ j ∧ Hid (Below W1.heap.size W1 wt)) (fun u _ => j - (intOf u).toNat)
          case atStart => exact ⟨0, rfl, Nat.zero_le _, ⟨BT.out⟩⟩
          case round =>
            obtain ⟨l, rfl, hl, BL⟩ := hrel
            have x5 : wr.cell? ⟨w.heap.size + 1, 5, none⟩ = some (.slice gm j cm) := cellLater BL.out (HKX.out 5 _ rfl)
            have x2 : wr.cell? ⟨w.heap.size + 1, 2, none⟩ = some (.int .i64 x.b) := cellLater BL.out (HKX.out 2 _ rfl)
            have y0 : wr.cell? ⟨w.heap.size, 0, none⟩ = some (.slice gc c.co.length cc) := cellLater BL.out (HKC.out 0 _ rfl)
            have y1 : wr.cell? ⟨w.heap.size, 1, none⟩ = some (.slice gg c.gl.length cg) := cellLater BL.out (HKC.out 1 _ rfl)
            have y2 : wr.cell? ⟨w.heap.size, 2, none⟩ = some (.slice gi c.inf.length ci) := cellLater BL.out (HKC.out 2 _ rfl)
            have y3 : wr.cell? ⟨w.heap.size, 3, none⟩ = some (.slice gn c.ins.length cn) := cellLater BL.out (HKC.out 3 _ rfl)
            have BW := belowOn HB1.out BL.out
            by_cases hlt : l < j
            · have kl : l < x.ms.length := by rw [HN.out]; exact hlt
              have hlt' : (l : Int) < j := by omega
              obtain ⟨g, off, cap', cs, e, _, _, pc, hx⟩ := (HI.out.later BW).ms.get l kl
              rw [HN.out] at e
              simp only [Value.slice.injEq] at e
              obtain ⟨rfl, _, rfl⟩ := e
              obtain ⟨vf, rfl, hf⟩ := pc
              have HF := Hid.mk hf
              obtain ⟨gf, cf, rfl, _⟩ := hf
              have c3 : wr.cell? ⟨g, off + l * 4 + 3, none⟩ = some (.slice gf (x.ms[l]'kl).fr.length cf) := hx 3 _ rfl
              generalize x.ms[l]'kl = m at *
              have C := fun loc => HOu.out wr.drew BW.drew loc m.fr _ (HF.out.later (Below.refl _ _).drew fun _ _ h => h)
              have HBW := Hid.mk BW
              clear hx BW
              go_wp2
              go_region_held3 (fun w' => w'.cell? ⟨w.heap.size, 0, none⟩ = some (.slice gc c.co.length cc) ∧ w'.cell? ⟨w.heap.size, 1, none⟩ = some (.slice gg c.gl.length cg) ∧ w'.cell? ⟨w.heap.size, 2, none⟩ = some (.slice gi c.inf.length ci) ∧ w'.cell? ⟨w.heap.size, 3, none⟩ = some (.slice gn c.ins.length cn) ∧ w'.cell? ⟨w.heap.size + 1, 2, none⟩ = some (.int .i64 x.b) ∧ w'.cell? ⟨w.heap.size + 1, 5, none⟩ = some (.slice (some ⟨g, off, none⟩) j cm) ∧ w'.cell? ⟨g, off + l * 4 + 3, none⟩ = some (.slice gf m.fr.length cf)) (go_keep) (first | (go_at_call 34; refine (C _).mono ?_; rintro e w4 ⟨r, rfl, G4⟩; have D4 := belowOn (Below.refl _ _).drew G4; have r0 := cellLater D4 y0; have r1 := cellLater D4 y1; have r2 := cellLater D4 y2; have r3 := cellLater D4 y3; have s2 := cellLater D4 x2; have s5 := cellLater D4 x5; have t3 := cellLater D4 c3; have HD4 := Hid.mk D4; clear D4 G4))
              all_goals cases r
              · go_wp2
                exact ⟨⟨l + 1, by go_num, by omega, ⟨belowOn BL.out HD4.out⟩⟩, by simp [intOf]; omega⟩
              · go_wp2
                go_ret
                exact ⟨_, rfl, fun q => absurd q (by decide), belowOn HBW.out HD4.out⟩
            · obtain rfl : l = j := by omega
              have C := HTh.out wr BW ((z : Int) + 1)
              have hz' : (z : Int) < c.ins.length := by omega
              have hzl' : (c.ins.length : Int) ≤ 9223372036854775807 := by omega
              rcases Bool.eq_false_or_eq_true (belowI ((z : Int) + 1) c.ins.length) with q | q
              · have hz1 := (below_yes q).2
                have hz2 : z + 1 < c.ins.length := by omega
                have HCi : Hid (∀ W, Below wr.heap.size wr W → ∃ gz oz, gn = some ⟨gz, oz, none⟩ ∧ W.cell? ⟨gz, oz + (z + 1) * 7 + 2, none⟩ = some (.int .i64 (c.ins[z + 1]'hz2).b)) := ⟨fun W hW => by
                  obtain ⟨gz, oz, cz, csz, ez, _, _, pz, hxz⟩ := (HV.out.later (belowOn BW hW)).ins.get (z + 1) hz2
                  simp only [Value.slice.injEq] at ez
                  obtain ⟨rfl, _, rfl⟩ := ez
                  obtain ⟨_, _, _, _, rfl, _⟩ := pz
                  exact ⟨gz, oz, rfl, hxz 2 _ rfl⟩⟩
                obtain ⟨gz, oz, rfl, _⟩ := HCi.out wr (Below.refl _ _)
                rw [q] at C
                generalize (c.ins[z + 1]'hz2).b = bz at *
                have HBW := Hid.mk BW
                clear BW q
                go_wp2_with (go_at_call 35; refine C.mono ?_; rintro e w5 ⟨rfl, G5⟩; obtain ⟨gy, oy, ey, cy⟩ := HCi.out _ G5; cases ey; have f2 := cellLater G5 x2; have f5 := cellLater G5 x5; have f3 := cellLater G5 y3; have HD5 := Hid.mk G5; clear G5)
                go_quiet (fail)
                all_goals go_wp2
                all_goals go_ret
                all_goals first
                  | exact ⟨_, rfl, fun _ => Z2.out, belowOn HBW.out (below_drewN HD5.out _)⟩
                  | exact ⟨_, rfl, fun q => absurd q (by decide), belowOn HBW.out (below_drewN HD5.out _)⟩
              · rw [q] at C
                have HBW := Hid.mk BW
                clear BW q
                go_wp2_with (go_at_call 35; refine C.mono ?_; rintro e w5 ⟨rfl, G5⟩; have HD5 := Hid.mk G5; clear G5)
                go_ret
                exact ⟨_, rfl, fun q => absurd q (by decide), belowOn HBW.out HD5.out⟩
end
end Go.Proofs.YtidplckoolmaiaaDoor
