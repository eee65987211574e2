/- The law's look at both stacks. -/
import Derived.Test.YtglimbpnekephaaDoorDse
import Derived.Test.YtglimbpnekephaaDoorSam
import Derived.BigQuiet
import Derived.Deep.RegionHeld3
namespace Go.Proofs.YtglimbpnekephaaDoor
open Go.RowKit
set_option linter.unusedVariables false
set_option linter.unusedSimpArgs false

theorem Ss.later' {w w' : World} {p a b F N k : Nat} {ws : List Int} {rs : List Fr} (h : Ss w p a b ws F N k rs) (B : Below w.heap.size w w') : Ss w' p a b ws F N k rs := by
  obtain ⟨pl, al, bl⟩ := h.lt
  exact ⟨h.stk.same (B.block p pl) (B.block a al) (B.block b bl), h.ok, h.eq⟩
set_option maxRecDepth 100000 in
set_option maxHeartbeats 4000000 in
theorem told_any {w : World} {p a b F N k d base : Nat} {ws : List Int} {rs : List Fr} {n : Int} {v : Value} {l : List Fp} (h : Ss w p a b ws F N k rs) (hd : Ds w d base n v l) (hl : l.map Fp.f = rs.reverse) :
    Calls Tryd.prog 12 #[.pointer (some ⟨p, 0, none⟩), .pointer (some ⟨d, 0, none⟩)] w fun e w' => e = .returned (.bool true) ∧ Below w.heap.size w w' := by
  obtain ⟨hok, hus⟩ := told_list h
  have rl := rs_len rs
  have ll : l.length = rs.length := by have := congrArg List.length hl; simpa using this
  have hu : usedN l = (wd rs).length := by rw [usedN_wd, hl, List.reverse_reverse]
  have FO := frames_ok h
  have HS := Hid.mk h
  have HD := Hid.mk hd
  clear h hd
  go_enter Tryd.func12, Tryd.ntmps12
  go_wp2_with (first
    | (go_at_call 28; refine FO.mono ?_; clear FO; rintro e w1 ⟨z, g, rfl, R1, _, _, B1⟩)
    | (go_at_call 27; refine (frames_any R1 hok hus).mono ?_; rintro e w2 ⟨v2, base2, l2, rfl, hb2, R2, hl2, hp2, B2⟩))
  have HB2 : Hid (Below w.heap.size w w2) := ⟨belowOn B1 B2⟩
  have D2 := HD.out.later HB2.out
  have S2 := HS.out.later' HB2.out
  have l2l : l2.length = rs.length := by have := congrArg List.length hl2; simpa using this
  have HR2 := Hid.mk R2
  have HP2 := Hid.mk hp2
  have HL2 := Hid.mk hl2
  have HL := Hid.mk hl
  obtain ⟨ga2, cp2, rfl, hcp2⟩ := R2.form
  obtain ⟨ga, cp, rfl, hcp⟩ := D2.R.form
  have c1 : w2.cell? ⟨d, 1, none⟩ = some (.slice ga l.length cp) := D2.box.cell 1
  have LN := fun j => count_any (S2.later' (below_drewN (Below.refl _ w2) j)).stk
  have US := fun j => used_any (S2.later' (below_drewN (Below.refl _ w2) j)).stk
  have UR := fun j => used34_any (D2.later (below_drewN (Below.refl _ w2) j)).box (D2.later (below_drewN (Below.refl _ w2) j)).R (by omega) (by omega)
  rw [hu] at UR
  have HLN := Hid.mk LN
  have HUS := Hid.mk US
  have HUR := Hid.mk UR
  have HD2 := Hid.mk D2
  have E1 := Hid.mk ll
  have E2 := Hid.mk l2l
  rw [ll] at c1 hcp
  rw [l2l] at hcp2
  simp only [ll, l2l]
  clear LN US UR D2 S2 B1 B2 R1 R2 hp2 hl2 hl hu hok ll l2l
  obtain ⟨m, hm⟩ : ∃ m, rs.length = m := ⟨_, rfl⟩
  obtain ⟨uu, huu⟩ : ∃ u, (wd rs).length = u := ⟨_, rfl⟩
  have HM := Hid.mk hm
  simp only [hm, huu] at *
  clear hm huu
  have em : ((m : Int) != (m : Int)) = false := by simp
  have eu : ((uu : Int) != (uu : Int)) = false := by simp
  go_quiet (first
    | (go_at_call 22; exact Calls.quiet_of_same (HLN.out _))
    | (go_at_call 23; exact Calls.quiet_of_same (HUS.out _))
    | (go_at_call 34; exact Calls.quiet_of_same (HUR.out _)))
  go_wp2
  go_loopw [6] (fun cv wr => ∃ i : Nat, cv = .int .i64 i ∧ i ≤ m ∧ Hid (Below w2.heap.size w2 wr)) (fun cv _ => m - (intOf cv).toNat)
  case atStart => exact ⟨0, rfl, Nat.zero_le _, ⟨below_drewN (Below.refl _ w2) _⟩⟩
  case round =>
    obtain ⟨i, rfl, hi, BB⟩ := hrel
    by_cases hlt : i < m
    · have hrm : rs.length = m := by have h1 := congrArg List.length HL2.out; simp at h1; have h2 := E2.out; omega
      have k2 : i < l2.length := by have h1 := congrArg List.length HL2.out; simp at h1; omega
      have k1 : m - 1 - i < l.length := by have h1 := congrArg List.length HL.out; simp at h1; omega
      have ef : (l2[i]'k2).f = (l[m - 1 - i]'k1).f := by
        have h1 : (l2.map Fp.f)[i]? = rs[i]? := by rw [HL2.out]
        have h2 : (l.map Fp.f)[m - 1 - i]? = rs.reverse[m - 1 - i]? := by rw [HL.out]
        rw [List.getElem?_reverse (by omega), show rs.length - 1 - (m - 1 - i) = i by omega, ← h1] at h2
        simp only [List.getElem?_map, List.getElem?_eq_getElem k1, List.getElem?_eq_getElem k2, Option.map_some, Option.some.injEq] at h2
        exact h2.symm
      have HA : ∃ g2, ga2 = some ⟨g2, 0, none⟩ ∧ Hid (∀ W, Below w2.heap.size w2 W → W.cell? ⟨g2, i * 4, none⟩ = some (.int .i64 (l2[i]'k2).f.k) ∧ W.cell? ⟨g2, i * 4 + 1, none⟩ = some (.int .i64 (l2[i]'k2).f.a) ∧ W.cell? ⟨g2, i * 4 + 2, none⟩ = some (.int .i64 (l2[i]'k2).f.b) ∧ W.cell? ⟨g2, i * 4 + 3, none⟩ = some (.slice (l2[i]'k2).o (l2[i]'k2).f.ps.length (l2[i]'k2).c)) := by
        obtain ⟨g2, cq, e, _⟩ := HR2.out.get i k2
        simp only [Value.slice.injEq] at e
        refine ⟨g2, e.1, ⟨fun W B => ?_⟩⟩
        obtain ⟨g3, cq3, e3, _, _, r0, r1, r2, r3⟩ := (HR2.out.later B).get i k2
        simp only [Value.slice.injEq] at e3
        obtain rfl : g2 = g3 := by have := e.1.symm.trans e3.1; simpa using this
        exact ⟨r0, r1, r2, r3⟩
      have HC : ∃ g1, ga = some ⟨g1, 0, none⟩ ∧ Hid (∀ W, Below w2.heap.size w2 W → W.cell? ⟨g1, (m - 1 - i) * 4, none⟩ = some (.int .i64 (l[m - 1 - i]'k1).f.k) ∧ W.cell? ⟨g1, (m - 1 - i) * 4 + 1, none⟩ = some (.int .i64 (l[m - 1 - i]'k1).f.a) ∧ W.cell? ⟨g1, (m - 1 - i) * 4 + 2, none⟩ = some (.int .i64 (l[m - 1 - i]'k1).f.b) ∧ W.cell? ⟨g1, (m - 1 - i) * 4 + 3, none⟩ = some (.slice (l[m - 1 - i]'k1).o (l[m - 1 - i]'k1).f.ps.length (l[m - 1 - i]'k1).c) ∧ W.cell? ⟨d, 1, none⟩ = some (.slice ga m cp)) := by
        obtain ⟨g2, cq, e, _⟩ := HD2.out.R.get (m - 1 - i) k1
        simp only [Value.slice.injEq] at e
        refine ⟨g2, e.1, ⟨fun W B => ?_⟩⟩
        obtain ⟨g3, cq3, e3, _, _, r0, r1, r2, r3⟩ := (HD2.out.R.later B).get (m - 1 - i) k1
        simp only [Value.slice.injEq] at e3
        obtain rfl : g2 = g3 := by have := e.1.symm.trans e3.1; simpa using this
        have q1 := (HD2.out.later B).box.cell 1
        simp only [List.getElem?_toArray, List.getElem?_cons_zero, List.getElem?_cons_succ] at q1
        exact ⟨r0, r1, r2, r3, by have e5 := E1.out; rw [q1, e5]⟩
      have P2 := HP2.out _ (List.getElem_mem k2)
      have P1 := HD2.out.q _ (List.getElem_mem k1)
      obtain ⟨g2, rfl, HA2⟩ := HA
      obtain ⟨g1, rfl, HC2⟩ := HC
      generalize l2[i]'k2 = x2 at *
      generalize l[m - 1 - i]'k1 = x1 at *
      obtain ⟨f2, o2, c2⟩ := x2
      obtain ⟨f, o1, c1'⟩ := x1
      dsimp only at *
      subst ef
      have SM := Hid.mk (fun W (B : Below w2.heap.size w2 W) => same_any f2 o2 o1 c2 c1' W (P2.later B).s (P1.later B).s)
      unfold fv at SM
      generalize hq : m - 1 - i = q at *
      have hz1 : (i : Int) ≤ (m : Int) - 1 := by omega
      have hz2 : (m : Int) - 1 - (i : Int) < (m : Int) := by omega
      have hz3 : ((m : Int) - 1 - (i : Int)).toNat = q := by omega
      have hz4 : ¬ (m : Int) - 1 - (i : Int) < 0 := by omega
      have hz5 : ¬ (m : Int) - 1 < (i : Int) := by omega
      have hz6 : (m : Int) - 1 < (m : Int) + i := by omega
      have hz7 : (0 : Int) ≤ (m : Int) - 1 - (i : Int) := by omega
      have hqm : q < m := by omega
      have hq9 : (m : Int) - 1 - (i : Int) = (q : Int) := by omega
      have ww3 : IntKind.i64.wrap (q : Int) = (q : Int) := by rw [IntKind.wrap_i64]; omega
      have hq7 : (q : Int) < (m : Int) := by omega
      have hq6 : (0 : Int) ≤ (q : Int) := by omega
      have hq5 : ¬ (q : Int) < 0 := by omega
      have ww1 : IntKind.i64.wrap ((m : Int) - 1) = (m : Int) - 1 := by rw [IntKind.wrap_i64]; omega
      have ww2 : IntKind.i64.wrap ((m : Int) - 1 - (i : Int)) = (q : Int) := by rw [IntKind.wrap_i64]; omega
      have hlt' : (i : Int) < m := by omega
      generalize f2.k = fk at *
      generalize f2.a = fa at *
      generalize f2.b = fb at *
      generalize f2.ps.length = fn at *
      obtain ⟨a0, a1, a2, a3⟩ := HA2.out wr BB.out
      obtain ⟨b0, b1, b2, b3, b4⟩ := HC2.out wr BB.out
      have S1 := SM.out wr.drew (belowOn BB.out (below_drew wr))
      clear k1 k2 P1 P2 hq SM c1
      go_wp2
      go_region_held3 (fun W' => W'.cell? ⟨g2, i * 4, none⟩ = some (.int .i64 fk) ∧ W'.cell? ⟨g2, i * 4 + 1, none⟩ = some (.int .i64 fa) ∧ W'.cell? ⟨g2, i * 4 + 2, none⟩ = some (.int .i64 fb) ∧ W'.cell? ⟨g2, i * 4 + 3, none⟩ = some (.slice o2 fn c2) ∧ W'.cell? ⟨g1, q * 4, none⟩ = some (.int .i64 fk) ∧ W'.cell? ⟨g1, q * 4 + 1, none⟩ = some (.int .i64 fa) ∧ W'.cell? ⟨g1, q * 4 + 2, none⟩ = some (.int .i64 fb) ∧ W'.cell? ⟨g1, q * 4 + 3, none⟩ = some (.slice o1 fn c1') ∧ W'.cell? ⟨d, 1, none⟩ = some (.slice (some ⟨g1, 0, none⟩) m cp)) (go_keep) (first
        | (go_at_call 20; refine S1.mono ?_; clear S1; rintro e w7 ⟨rfl, B7'⟩; have B7 := belowOn BB.out (belowOn (below_drew wr) B7'); obtain ⟨p0, p1, p2, p3⟩ := HA2.out w7 B7; obtain ⟨r0, r1, r2, r3, r4⟩ := HC2.out w7 B7))
      go_wp2
      go_roundw
      case rel => exact ⟨i + 1, by go_num, by omega, ⟨B7⟩⟩
      case measure => simp [intOf] <;> omega
    · obtain rfl : i = m := by omega
      go_wp2
      go_ret
      exact ⟨rfl, belowOn HB2.out BB.out⟩
end Go.Proofs.YtglimbpnekephaaDoor
