/- The document's own check of a code: what a code has of which it tells nothing. -/
import Derived.Test.YtidplckoolmaiaaDoorRfc
import Derived.Test.YtidplckoolmaiaaDoorRfd
import Derived.Test.YtidplckoolmaiaaDoorCdp
namespace Go.Proofs.YtidplckoolmaiaaDoor
open Go.RowKit
set_option linter.unusedVariables false
set_option linter.unusedSimpArgs false

/-- what is asked here of a right code -/
def RcOk (c : Cd) : Prop := (∀ a ∈ c.co, 0 ≤ a ∧ a ≤ 8) ∧ (∀ f ∈ c.inf, wrongInf c f = 0) ∧ ∀ x ∈ c.ins, x.op = 1 → ∀ m ∈ x.ms, cloB m.k = true ∧ LetOk c m
section
variable {w : World} {c : Cd} {vc vg vi vn : Value}
set_option maxRecDepth 100000 in
set_option maxHeartbeats 8000000 in
theorem rcheck_of (V : Cv w c vc vg vi vn) (RI : ∀ W, Below w.heap.size w W → ∀ (z : Nat) (hz : z < c.ins.length), Calls Tryd.prog 16 #[.agg #[vc, vg, vi, vn], .int .i64 z] W fun e w' => ∃ r, e = .returned (.int .i64 r) ∧ (r = 0 → (c.ins[z]'hz).op = 1 → ∀ m ∈ (c.ins[z]'hz).ms, cloB m.k = true ∧ LetOk c m) ∧ Below W.heap.size W w') : Calls Tryd.prog 8 #[.agg #[vc, vg, vi, vn]] w fun e w' => ∃ z r, e = .returned (.tuple #[.int .i64 z, .int .i64 r]) ∧ (r = 0 → RcOk c) ∧ Below w.heap.size w w' := by
  have HV := Hid.mk V
  have L0 := V.co.len
  have L1 := V.gl.len
  have L2 := V.inf.len
  have L3 := V.ins.len
  unfold maxLen at L0 L1 L2 L3
  obtain ⟨⟨gc, cc, rfl, u1⟩, ⟨gg, cg, rfl, u2⟩, ⟨gi, ci, rfl, u3⟩, ⟨gn, cn, rfl, u4⟩⟩ := V
  clear u1 u2 u3 u4
  replace RI := Hid.mk RI
  obtain ⟨W1, hW1⟩ : ∃ W1, W1 = w.alloc (.cells #[.slice gc c.co.length cc, .slice gg c.gl.length cg, .slice gi c.inf.length ci, .slice gn c.ins.length cn] 27) := ⟨_, rfl⟩
  have HB1 : Hid (Below w.heap.size w W1) := ⟨by subst hW1; go_grown⟩
  have HKC : Hid (∀ o u, #[.slice gc c.co.length cc, .slice gg c.gl.length cg, .slice gi c.inf.length ci, .slice gn c.ins.length cn][o]? = some u → W1.cell? ⟨w.heap.size, o, none⟩ = some u) := ⟨fun o u h => by subst hW1; exact cellNew _ _ _ _ _ h⟩
  go_enter Tryd.func8, Tryd.ntmps8
  go_wp2
  rw [← hW1]
  clear hW1
  go_loopw [4] (fun u wr => ∃ i : Nat, u = .int .i64 i ∧ i ≤ c.co.length ∧ Hid (∀ (k : Nat) (hk : k < c.co.length), k < i → 0 ≤ (c.co[k]'hk) ∧ (c.co[k]'hk) ≤ 8) ∧ Hid (Below W1.heap.size W1 wr)) (fun u _ => c.co.length - (intOf u).toNat)
  case atStart => exact ⟨0, rfl, Nat.zero_le _, ⟨fun k hk h => absurd h (by omega)⟩, ⟨Below.refl _ _⟩⟩
  case round =>
    obtain ⟨i, rfl, hi, Z, BB⟩ := hrel
    have y0 : wr.cell? ⟨w.heap.size, 0, none⟩ = some (.slice gc c.co.length cc) := cellLater BB.out (HKC.out 0 _ rfl)
    have y1 : wr.cell? ⟨w.heap.size, 1, none⟩ = some (.slice gg c.gl.length cg) := cellLater BB.out (HKC.out 1 _ rfl)
    have y2 : wr.cell? ⟨w.heap.size, 2, none⟩ = some (.slice gi c.inf.length ci) := cellLater BB.out (HKC.out 2 _ rfl)
    have y3 : wr.cell? ⟨w.heap.size, 3, none⟩ = some (.slice gn c.ins.length cn) := cellLater BB.out (HKC.out 3 _ rfl)
    have BW := belowOn HB1.out BB.out
    have HBW := Hid.mk BW
    have HV1 := Hid.mk (HV.out.later BW)
    clear BW
    by_cases hlt : i < c.co.length
    · have hlt' : (i : Int) < c.co.length := by omega
      obtain ⟨g, off, cap', cs, e, _, _, pc, hx⟩ := HV1.out.co.get i hlt
      simp only [Value.slice.injEq] at e
      obtain ⟨rfl, _, rfl⟩ := e
      obtain ⟨s, rfl⟩ := pc
      have c1 : wr.cell? ⟨g, off + i * 2 + 1, none⟩ = some (.int .i64 (c.co[i]'hlt)) := hx 1 _ rfl
      have HZ : Hid (0 ≤ (c.co[i]'hlt) ∧ (c.co[i]'hlt) ≤ 8 → ∀ (k : Nat) (hk : k < c.co.length), k < i + 1 → 0 ≤ (c.co[k]'hk) ∧ (c.co[k]'hk) ≤ 8) := ⟨fun h k hk q => by
        by_cases e : k = i
        · subst e; exact h
        · exact Z.out k hk (by omega)⟩
      generalize c.co[i]'hlt = a at *
      clear hx HV1 Z y1 y2 y3
      by_cases a1 : a < 0
      · go_wp2
        go_ret2
        exact ⟨_, _, rfl, fun q => absurd q (by decide), HBW.out⟩
      by_cases a2 : 8 < a
      · go_wp2
        go_ret2
        exact ⟨_, _, rfl, fun q => absurd q (by decide), HBW.out⟩
      go_wp2
      exact ⟨⟨i + 1, by go_num, by omega, ⟨HZ.out ⟨by omega, by omega⟩⟩, ⟨BB.out⟩⟩, by simp [intOf]; omega⟩
    · obtain rfl : i = c.co.length := by omega
      have HZ4 := Hid.mk Z.out
      have BB4 := Hid.mk BB.out
      go_wp2
      clear y0 y1 y2 y3 HBW HV1 BB Z
      go_loopw [5] (fun u wr => ∃ i : Nat, u = .int .i64 i ∧ i ≤ c.inf.length ∧ Hid (∀ (k : Nat) (hk : k < c.inf.length), k < i → wrongInf c (c.inf[k]'hk) = 0) ∧ Hid (Below W1.heap.size W1 wr)) (fun u _ => c.inf.length - (intOf u).toNat)
      case atStart => exact ⟨0, rfl, Nat.zero_le _, ⟨fun k hk h => absurd h (by omega)⟩, ⟨BB4.out⟩⟩
      case round =>
        obtain ⟨i, rfl, hi, Z, BB⟩ := hrel
        have y0 : wr.cell? ⟨w.heap.size, 0, none⟩ = some (.slice gc c.co.length cc) := cellLater BB.out (HKC.out 0 _ rfl)
        have y1 : wr.cell? ⟨w.heap.size, 1, none⟩ = some (.slice gg c.gl.length cg) := cellLater BB.out (HKC.out 1 _ rfl)
        have y2 : wr.cell? ⟨w.heap.size, 2, none⟩ = some (.slice gi c.inf.length ci) := cellLater BB.out (HKC.out 2 _ rfl)
        have y3 : wr.cell? ⟨w.heap.size, 3, none⟩ = some (.slice gn c.ins.length cn) := cellLater BB.out (HKC.out 3 _ rfl)
        have BW := belowOn HB1.out BB.out
        have HBW := Hid.mk BW
        have HV1 := Hid.mk (HV.out.later BW)
        clear BW
        by_cases hlt : i < c.inf.length
        · have hlt' : (i : Int) < c.inf.length := by omega
          obtain ⟨g, off, cap', cs, e, _, _, pc, hx⟩ := HV1.out.inf.get i hlt
          simp only [Value.slice.injEq] at e
          obtain ⟨rfl, _, rfl⟩ := e
          unfold isInf at pc
          subst pc
          have c0 : wr.cell? ⟨g, off + i * 4, none⟩ = some (.int .i64 (c.inf[i]'hlt).k) := hx 0 _ rfl
          have c1 : wr.cell? ⟨g, off + i * 4 + 1, none⟩ = some (.int .i64 (c.inf[i]'hlt).a) := hx 1 _ rfl
          have c2 : wr.cell? ⟨g, off + i * 4 + 2, none⟩ = some (.int .i64 (c.inf[i]'hlt).f) := hx 2 _ rfl
          have c3 : wr.cell? ⟨g, off + i * 4 + 3, none⟩ = some (.int .i64 (c.inf[i]'hlt).t) := hx 3 _ rfl
          have HZ : Hid (wrongInf c (c.inf[i]'hlt) = 0 → ∀ (k : Nat) (hk : k < c.inf.length), k < i + 1 → wrongInf c (c.inf[k]'hk) = 0) := ⟨fun h k hk q => by
            by_cases e : k = i
            · subst e; exact h
            · exact Z.out k hk (by omega)⟩
          have C := rinfo_any (HV1.out.later (Below.refl _ _).drew) (c.inf[i]'hlt)
          generalize wrongInf c (c.inf[i]'hlt) = r at *
          generalize c.inf[i]'hlt = f at *
          clear hx HV1 Z
          go_wp2
          go_region_held3 (fun w' => w'.cell? ⟨w.heap.size, 0, none⟩ = some (.slice gc c.co.length cc) ∧ w'.cell? ⟨w.heap.size, 1, none⟩ = some (.slice gg c.gl.length cg) ∧ w'.cell? ⟨w.heap.size, 2, none⟩ = some (.slice (some ⟨g, off, none⟩) c.inf.length ci) ∧ w'.cell? ⟨w.heap.size, 3, none⟩ = some (.slice gn c.ins.length cn) ∧ w'.cell? ⟨g, off + i * 4, none⟩ = some (.int .i64 f.k) ∧ w'.cell? ⟨g, off + i * 4 + 1, none⟩ = some (.int .i64 f.a) ∧ w'.cell? ⟨g, off + i * 4 + 2, none⟩ = some (.int .i64 f.f) ∧ w'.cell? ⟨g, off + i * 4 + 3, none⟩ = some (.int .i64 f.t)) (go_keep) (first | (go_at_call 15; refine C.mono ?_; rintro e w3 ⟨rfl, G3⟩; have D3 := belowOn (Below.refl _ _).drew G3; have p0 := cellLater D3 y0; have p1 := cellLater D3 y1; have p2 := cellLater D3 y2; have p3 := cellLater D3 y3; have d0 := cellLater D3 c0; have d1 := cellLater D3 c1; have d2 := cellLater D3 c2; have d3 := cellLater D3 c3; have HD := Hid.mk D3; clear D3 G3))
          all_goals by_cases q1 : r = 0
          · subst q1
            go_wp2
            exact ⟨⟨i + 1, by go_num, by omega, ⟨HZ.out rfl⟩, ⟨belowOn BB.out HD.out⟩⟩, by simp [intOf]; omega⟩
          · have q2 : (r != 0) = true := by simpa using q1
            go_wp2
            go_ret2
            exact ⟨_, _, rfl, fun q => absurd q q1, belowOn HBW.out HD.out⟩
        · obtain rfl : i = c.inf.length := by omega
          have HZ5 := Hid.mk Z.out
          have BB5 := Hid.mk BB.out
          go_wp2
          clear y0 y1 y2 y3 HBW HV1 BB Z
          go_loopw [7] (fun u wr => ∃ i : Nat, u = .int .i64 i ∧ i ≤ c.gl.length ∧ Hid (True) ∧ Hid (Below W1.heap.size W1 wr)) (fun u _ => c.gl.length - (intOf u).toNat)
          case atStart => exact ⟨0, rfl, Nat.zero_le _, ⟨trivial⟩, ⟨BB5.out⟩⟩
          case round =>
            obtain ⟨i, rfl, hi, Z, BB⟩ := hrel
            have y0 : wr.cell? ⟨w.heap.size, 0, none⟩ = some (.slice gc c.co.length cc) := cellLater BB.out (HKC.out 0 _ rfl)
            have y1 : wr.cell? ⟨w.heap.size, 1, none⟩ = some (.slice gg c.gl.length cg) := cellLater BB.out (HKC.out 1 _ rfl)
            have y2 : wr.cell? ⟨w.heap.size, 2, none⟩ = some (.slice gi c.inf.length ci) := cellLater BB.out (HKC.out 2 _ rfl)
            have y3 : wr.cell? ⟨w.heap.size, 3, none⟩ = some (.slice gn c.ins.length cn) := cellLater BB.out (HKC.out 3 _ rfl)
            have BW := belowOn HB1.out BB.out
            have HBW := Hid.mk BW
            have HV1 := Hid.mk (HV.out.later BW)
            clear BW
            by_cases hlt : i < c.gl.length
            · have hlt' : (i : Int) < c.gl.length := by omega
              obtain ⟨g, off, cap', cs, e, _, _, pc, hx⟩ := HV1.out.gl.get i hlt
              simp only [Value.slice.injEq] at e
              obtain ⟨rfl, _, rfl⟩ := e
              obtain ⟨s, rfl⟩ := pc
              have c1 : wr.cell? ⟨g, off + i * 2 + 1, none⟩ = some (.int .i64 (c.gl[i]'hlt)) := hx 1 _ rfl
              generalize c.gl[i]'hlt = a at *
              clear hx Z
              by_cases a1 : a < 0
              · go_wp2
                go_ret2
                exact ⟨_, _, rfl, fun q => absurd q (by decide), HBW.out⟩
              by_cases a2 : (c.inf.length : Int) ≤ a
              · go_wp2
                go_ret2
                exact ⟨_, _, rfl, fun q => absurd q (by decide), HBW.out⟩
              obtain ⟨j, rfl⟩ : ∃ j : Nat, a = j := ⟨a.toNat, by omega⟩
              have hj : j < c.inf.length := by omega
              have hj' : (j : Int) < c.inf.length := by omega
              obtain ⟨g2, off2, cap2, cs2, e2, _, _, pc2, hx2⟩ := HV1.out.inf.get j hj
              simp only [Value.slice.injEq] at e2
              obtain ⟨rfl, _, rfl⟩ := e2
              unfold isInf at pc2
              subst pc2
              have d2 : wr.cell? ⟨g2, off2 + j * 4 + 2, none⟩ = some (.int .i64 (c.inf[j]'hj).f) := hx2 2 _ rfl
              generalize (c.inf[j]'hj).f = fr at *
              clear hx2 HV1
              by_cases q1 : fr = 0
              · subst q1
                go_wp2
                exact ⟨⟨i + 1, by go_num, by omega, ⟨trivial⟩, ⟨BB.out⟩⟩, by simp [intOf]; omega⟩
              · have q2 : (fr != 0) = true := by simpa using q1
                go_wp2
                go_ret2
                exact ⟨_, _, rfl, fun q => absurd q (by decide), HBW.out⟩
            · obtain rfl : i = c.gl.length := by omega
              have HZ7 := Hid.mk Z.out
              have BB7 := Hid.mk BB.out
              go_wp2
              clear y0 y1 y2 y3 HBW HV1 BB Z
              go_loopw [9] (fun u wr => ∃ i : Nat, u = .int .i64 i ∧ i ≤ c.ins.length ∧ Hid (∀ (k : Nat) (hk : k < c.ins.length), k < i → (((c.ins[k]'hk).op = 1) → ∀ m ∈ (c.ins[k]'hk).ms, cloB m.k = true ∧ LetOk c m)) ∧ Hid (Below W1.heap.size W1 wr)) (fun u _ => c.ins.length - (intOf u).toNat)
              case atStart => exact ⟨0, rfl, Nat.zero_le _, ⟨fun k hk h => absurd h (by omega)⟩, ⟨BB7.out⟩⟩
              case round =>
                obtain ⟨i, rfl, hi, Z, BB⟩ := hrel
                have y0 : wr.cell? ⟨w.heap.size, 0, none⟩ = some (.slice gc c.co.length cc) := cellLater BB.out (HKC.out 0 _ rfl)
                have y1 : wr.cell? ⟨w.heap.size, 1, none⟩ = some (.slice gg c.gl.length cg) := cellLater BB.out (HKC.out 1 _ rfl)
                have y2 : wr.cell? ⟨w.heap.size, 2, none⟩ = some (.slice gi c.inf.length ci) := cellLater BB.out (HKC.out 2 _ rfl)
                have y3 : wr.cell? ⟨w.heap.size, 3, none⟩ = some (.slice gn c.ins.length cn) := cellLater BB.out (HKC.out 3 _ rfl)
                have BW := belowOn HB1.out BB.out
                have HBW := Hid.mk BW
                have HV1 := Hid.mk (HV.out.later BW)
                clear BW
                by_cases hlt : i < c.ins.length
                · have hlt' : (i : Int) < c.ins.length := by omega
                  have HZ : Hid ((((c.ins[i]'hlt).op = 1) → ∀ m ∈ (c.ins[i]'hlt).ms, cloB m.k = true ∧ LetOk c m) → ∀ (k : Nat) (hk : k < c.ins.length), k < i + 1 → (((c.ins[k]'hk).op = 1) → ∀ m ∈ (c.ins[k]'hk).ms, cloB m.k = true ∧ LetOk c m)) := ⟨fun h k hk q => by
                    by_cases e : k = i
                    · subst e; exact h
                    · exact Z.out k hk (by omega)⟩
                  have C := RI.out wr HBW.out i hlt
                  clear HV1 Z
                  go_wp2_with (go_at_call 16; refine C.mono ?_; rintro e w3 ⟨r, rfl, hr, G3⟩; have HR := Hid.mk hr; have HD := Hid.mk G3; clear G3 hr)
                  all_goals first
                    | (go_ret2; exact ⟨_, _, rfl, fun q => absurd q (by simpa using (by assumption : (r != 0) = true)), belowOn HBW.out HD.out⟩)
                    | exact ⟨⟨i + 1, by go_num, by omega, ⟨HZ.out (HR.out (by simp_all; done))⟩, ⟨belowOn BB.out HD.out⟩⟩, by simp [intOf]; omega⟩
                · obtain rfl : i = c.ins.length := by omega
                  have HZ9 := Hid.mk Z.out
                  have BB9 := Hid.mk BB.out
                  go_wp2
                  clear y0 y1 y2 y3 HBW HV1 BB Z
                  go_ret2
                  exact ⟨_, _, rfl, fun _ => ⟨fun a ha => by obtain ⟨k, hk, rfl⟩ := List.getElem_of_mem ha; exact HZ4.out k hk hk, fun a ha => by obtain ⟨k, hk, rfl⟩ := List.getElem_of_mem ha; exact HZ5.out k hk hk, fun a ha => by obtain ⟨k, hk, rfl⟩ := List.getElem_of_mem ha; exact HZ9.out k hk hk⟩, belowOn HB1.out BB9.out⟩
end
end Go.Proofs.YtidplckoolmaiaaDoor
