/- The document's own check: an instruction: lets. -/
import Derived.Test.YtidplckoolmaiaaDoorRfd
import Derived.Test.YtidplckoolmaiaaDoorCdp
namespace Go.Proofs.YtidplckoolmaiaaDoor
open Go.RowKit
set_option linter.unusedVariables false
set_option linter.unusedSimpArgs false

section
variable {w : World} {c : Cd} {vc vg vi vn : Value}
set_option maxRecDepth 100000 in
set_option maxHeartbeats 8000000 in
theorem insn_1 (V : Cv w c vc vg vi vn) (z : Nat) (hz : z < c.ins.length) (ho : (c.ins[z]'hz).op = 1) : Calls Tryd.prog 16 #[.agg #[vc, vg, vi, vn], .int .i64 z] w fun e w' => ∃ r, e = .returned (.int .i64 r) ∧ (r = 0 → ∀ m ∈ (c.ins[z]'hz).ms, cloB m.k = true ∧ LetOk c m) ∧ Below w.heap.size w w' := by
  have HV := Hid.mk V
  obtain ⟨⟨gc, cc, rfl, _⟩, ⟨gg, cg, rfl, _⟩, ⟨gi, ci, rfl, _⟩, ⟨gn, cn, rfl, _⟩⟩ := V
  obtain ⟨W0, hW0⟩ : ∃ W0, W0 = w.alloc (.cells #[.slice gc c.co.length cc, .slice gg c.gl.length cg, .slice gi c.inf.length ci, .slice gn c.ins.length cn] 27) := ⟨_, rfl⟩
  have B0 : Below w.heap.size w W0 := by subst hW0; go_grown
  obtain ⟨g', off, cap, cs, e, h1, h2, pc, hx⟩ := (HV.out.later B0).ins.get z hz
  simp only [Value.slice.injEq] at e
  obtain ⟨rfl, _, rfl⟩ := e
  generalize c.ins[z]'hz = x at *
  obtain ⟨vl, vk, vm, va, rfl, I1, I2, I3, I4⟩ := pc
  have HI0 := Hid.mk (Iv.mk I1 I2 I3 I4)
  obtain ⟨gl, cl, rfl, hl1, _⟩ := I1
  obtain ⟨gk, ck, rfl, hk1, _⟩ := I2
  obtain ⟨gm, cm, rfl, hm1, _⟩ := I3
  obtain ⟨ga, ca, rfl, ha1, _⟩ := I4
  have c0 := hx 0 _ rfl
  have c1 := hx 1 _ rfl
  have c2 := hx 2 _ rfl
  have c3 := hx 3 _ rfl
  have c4 := hx 4 _ rfl
  have c5 := hx 5 _ rfl
  have c6 := hx 6 _ rfl
  rw [Nat.add_zero] at c0
  rw [ho] at c0
  have hz' : (z : Int) < c.ins.length := by omega
  unfold maxLen at h2
  have hl2 := hl1.2
  have hk2 := hk1.2
  have hm2 := hm1.2
  have ha2 := ha1.2
  unfold maxLen at hl2 hk2 hm2 ha2
  clear hl1 hk1 hm1 ha1 hx
  obtain ⟨W1, hW1⟩ : ∃ W1, W1 = W0.alloc (.cells #[.int .i64 1, .int .i64 x.a, .int .i64 x.b, .slice gl x.li.length cl, .slice gk x.ke.length ck, .slice gm x.ms.length cm, .slice ga x.ar.length ca] 42) := ⟨_, rfl⟩
  have sz : W0.heap.size = w.heap.size + 1 := by subst hW0; simp
  have B01 : Below W0.heap.size W0 W1 := by subst hW1; go_grown
  have B1 := belowOn B0 B01
  have kc : ∀ o u, #[.slice gc c.co.length cc, .slice gg c.gl.length cg, .slice gi c.inf.length ci, .slice (some ⟨g', off, none⟩) c.ins.length cn][o]? = some u → W1.cell? ⟨w.heap.size, o, none⟩ = some u := fun o u h => by
    refine cellLater B01 ?_
    subst hW0
    exact cellNew _ _ _ _ _ h
  have kx : ∀ o u, #[.int .i64 1, .int .i64 x.a, .int .i64 x.b, .slice gl x.li.length cl, .slice gk x.ke.length ck, .slice gm x.ms.length cm, .slice ga x.ar.length ca][o]? = some u → W1.cell? ⟨w.heap.size + 1, o, none⟩ = some u := fun o u h => by rw [← sz, hW1]; exact cellNew _ _ _ _ _ h
  have HB1 := Hid.mk B1
  have HKC := Hid.mk kc
  have HKX := Hid.mk kx
  have HI := Hid.mk (HI0.out.later B01)
  have HV1 := Hid.mk (HV.out.later B1)
  clear B0 B01 B1 kc kx sz
  obtain ⟨n, hn⟩ : ∃ n, x.ms.length = n := ⟨_, rfl⟩
  have HN := Hid.mk hn
  have HL : Hid (∀ W, Below W1.heap.size W1 W → Calls Tryd.prog 33 #[.agg #[.slice gc c.co.length cc, .slice gg c.gl.length cg, .slice gi c.inf.length ci, .slice (some ⟨g', off, none⟩) c.ins.length cn], .int .i64 z, .agg #[.int .i64 1, .int .i64 x.a, .int .i64 x.b, .slice gl x.li.length cl, .slice gk x.ke.length ck, .slice gm n cm, .slice ga x.ar.length ca]] W fun e w' => ∃ r, e = .returned (.int .i64 r) ∧ (r = 0 → ∀ m ∈ x.ms, LetOk c m) ∧ Below W.heap.size W w') := ⟨fun W hW => by have := let_any (HV1.out.later hW) (HI.out.later hW) z hz; rwa [ho, hn] at this⟩
  rw [hn] at c5 hm2 HKX hW1
  clear hn ho
  go_enter Tryd.func16, Tryd.ntmps16
  subst hW0
  go_wp2
  rw [← hW1]
  clear hW1
  go_loopw [7] (fun u wr => ∃ i : Nat, u = .int .i64 i ∧ i ≤ n ∧ Hid (∀ (k : Nat) (hk : k < x.ms.length), k < i → cloB (x.ms[k]'hk).k = true) ∧ Hid (Below W1.heap.size W1 wr)) (fun u _ => n - (intOf u).toNat)
  case atStart => exact ⟨0, rfl, Nat.zero_le _, ⟨fun k hk h => absurd h (by omega)⟩, ⟨Below.refl _ _⟩⟩
  case round =>
    obtain ⟨i, rfl, hi, Z, BB⟩ := hrel
    have y0 := cellLater BB.out (HKC.out 0 _ rfl)
    have y1 := cellLater BB.out (HKC.out 1 _ rfl)
    have y2 := cellLater BB.out (HKC.out 2 _ rfl)
    have y3 := cellLater BB.out (HKC.out 3 _ rfl)
    have x0 := cellLater BB.out (HKX.out 0 _ rfl)
    have x1 := cellLater BB.out (HKX.out 1 _ rfl)
    have x2 := cellLater BB.out (HKX.out 2 _ rfl)
    have x3 := cellLater BB.out (HKX.out 3 _ rfl)
    have x4 := cellLater BB.out (HKX.out 4 _ rfl)
    have x5 := cellLater BB.out (HKX.out 5 _ rfl)
    have x6 := cellLater BB.out (HKX.out 6 _ rfl)
    have BW := belowOn HB1.out BB.out
    by_cases hlt : i < n
    · have kl : i < x.ms.length := by rw [HN.out]; exact hlt
      have hlt' : (i : Int) < n := by omega
      obtain ⟨g, off2, cap', cs, e, _, _, pc, hx⟩ := (HI.out.later BB.out).ms.get i kl
      rw [HN.out] at e
      simp only [Value.slice.injEq] at e
      obtain ⟨rfl, _, rfl⟩ := e
      obtain ⟨vf, rfl, hf⟩ := pc
      have d0 : wr.cell? ⟨g, off2 + i * 4, none⟩ = some (.int .i64 (x.ms[i]'kl).k) := hx 0 _ rfl
      have HZ : Hid (cloB (x.ms[i]'kl).k = true → ∀ (k : Nat) (hk : k < x.ms.length), k < i + 1 → cloB (x.ms[k]'hk).k = true) := ⟨fun h k hk q => by
        by_cases e : k = i
        · subst e; exact h
        · exact Z.out k hk (by omega)⟩
      have CC := closure_any (x.ms[i]'kl).k
      generalize x.ms[i]'kl = m at *
      have HBW := Hid.mk BW
      clear hx BW hf
      rcases Bool.eq_false_or_eq_true (cloB m.k) with q | q
      · rw [q] at CC
        go_wp2_with (go_at_call 12; refine (CC _).mono ?_; rintro e w' ⟨rfl, rfl⟩)
        exact ⟨⟨i + 1, by go_num, by omega, ⟨HZ.out q⟩, ⟨BB.out⟩⟩, by simp [intOf]; omega⟩
      · rw [q] at CC
        go_wp2_with (go_at_call 12; refine (CC _).mono ?_; rintro e w' ⟨rfl, rfl⟩)
        go_ret
        exact ⟨_, rfl, fun q => absurd q (by decide), HBW.out⟩
    · obtain rfl : i = n := by omega
      have C := HL.out wr BB.out
      have HZ : Hid (∀ m ∈ x.ms, cloB m.k = true) := ⟨fun m hm => by obtain ⟨k, hk, rfl⟩ := List.getElem_of_mem hm; exact Z.out k hk (by have := HN.out; omega)⟩
      have HBW := Hid.mk BW
      clear BW Z
      by_cases b1 : x.b < 0
      · go_wp2
        go_ret
        exact ⟨_, rfl, fun q => absurd q (by decide), HBW.out⟩
      by_cases b2 : 1000 < x.b
      · go_wp2
        go_ret
        exact ⟨_, rfl, fun q => absurd q (by decide), HBW.out⟩
      go_wp2_with (go_at_call 33; refine C.mono ?_; rintro e w5 ⟨r, rfl, hr, G5⟩; have HR := Hid.mk hr; clear hr)
      go_ret
      exact ⟨_, rfl, fun q m hm => ⟨HZ.out m hm, HR.out q m hm⟩, belowOn HBW.out G5⟩
end
end Go.Proofs.YtidplckoolmaiaaDoor
