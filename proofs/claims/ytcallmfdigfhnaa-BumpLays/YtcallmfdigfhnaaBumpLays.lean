/-
  The statement BumpLays: every call of two spaces of one pool is answered as the document says.
  Conditions: none on the input.
-/
import Derived.Test.YtcallmfdigfhnaaBqf
namespace Go.Proofs.Ytcallmfdigfhnaa.bumpLays
open Go.ChangeShapes Go.WideShapes Go.ChangeAt Go.RowKit
set_option linter.unusedVariables false

theorem wd_al {w0 W : World} {q p pb a ab y yb c N M : Nat} {f : Nat → Int} {ws : List Int} {s m x : Nat → Nat} (h : Wd w0 W q p pb a ab y yb c N f ws M s m x 2) (G : Good f N) (hl : ws.length = M) :
    Al w0.heap.size W.heap.size q W (fun b => s (nt b)) (fun b => m (nt b)) (fun _ => nilS) (fun _ => S0.none) (fun _ => S0.none) p a pb ab N M f f ws (fun b => x (nt b)) (fun _ _ => nilS) y yb c := by
  have up := h.up
  have o := h.ord (by omega)
  have lo := h.lo
  obtain ⟨h01, h02, h03, n0, n1, n2⟩ := h.hi 0 (by omega)
  obtain ⟨h11, h12, h13, n0', n3, n4⟩ := h.hi 1 (by omega)
  obtain ⟨n13, n14, n15, n16, n5, n6, n7, n8, n9, n10, n11, n12⟩ := h.ap
  have N1 := Hid.mk n1
  have N2 := Hid.mk n2
  have N3 := Hid.mk n3
  have N4 := Hid.mk n4
  have N5 := Hid.mk n5
  have N6 := Hid.mk n6
  have N7 := Hid.mk n7
  have N8 := Hid.mk n8
  have N9 := Hid.mk n9
  have N10 := Hid.mk n10
  have N11 := Hid.mk n11
  have N12 := Hid.mk n12
  clear n0 n0' n13 n14 n15 n16 n1 n2 n3 n4 n5 n6 n7 n8 n9 n10 n11 n12
  have noow : ∀ k, ¬ ow (fun _ => nilS) k := by
    rintro k ⟨i, _, e⟩
    simp [Value.ownBlock] at e
  have hP : ∀ k, pO (fun b => s (nt b)) (fun b => m (nt b)) (fun _ => nilS) p a pb ab k → k = s 0 ∨ k = s 1 ∨ k = m 0 ∨ k = m 1 ∨ k = p ∨ k = pb ∨ k = a ∨ k = ab := by
    rintro k (⟨i, e⟩ | e)
    · rcases e with e | e | e
      · cases i <;> simp [nt] at e <;> omega
      · cases i <;> simp [nt] at e <;> omega
      · simp [Value.ownBlock] at e
    · omega
  have hR : ∀ k, rO (fun b => x (nt b)) (fun _ _ => nilS) y yb k → k = x 0 ∨ k = x 1 ∨ k = y ∨ k = yb := by
    rintro k (⟨i, e⟩ | e)
    · rcases e with e | e
      · cases i <;> simp [nt] at e <;> omega
      · exact absurd e (noow k)
    · omega
  refine ⟨h.tw G hl, fun i => ?_, h.ref, fun k z1 z2 => ?_, fun k z1 z2 => ?_, fun i k z => ?_, fun k z => ?_, ?_, ⟨fun z => ?_, fun z => ?_⟩, h.bel.size⟩
  · have e := h.xs (nt i) (by cases i <;> simp [nt])
    refine ⟨?_, fun j hj => ?_, fun z => noow _ z, fun j1 j2 _ _ _ => .inl rfl, fun k z => .inl z, Chg.refl _ _⟩
    · exact e
    · match j, hj with
      | 0, _ => exact World.ownsRow_nil _ _ _ _
      | 1, _ => exact World.ownsRow_nil _ _ _ _
      | 2, _ => exact World.ownsRow_nil _ _ _ _
  · have a1 := hP k z1
    have a2 := hR k z2
    clear hP hR z1 z2
    rcases a1 with e | e | e | e | e | e | e | e
    all_goals subst e
    all_goals rcases a2 with e | e | e | e
    all_goals first | omega | exact N1.out e.symm | exact N2.out e.symm | exact N3.out e.symm | exact N4.out e.symm | exact N5.out e.symm | exact N6.out e.symm | exact N7.out e.symm | exact N8.out e.symm | exact N9.out e.symm | exact N10.out e.symm | exact N11.out e.symm | exact N12.out e.symm
  · rcases z1 with z1 | z1
    · rcases z2 with z2 | z2
      · simp [nt] at z1 z2; omega
      · exact noow _ z2
    · exact noow _ z1
  · rcases z with z | z
    · cases i <;> simp [nt] at z <;> omega
    · exact absurd z (noow k)
  · rcases z with z | z
    · have a1 := hP k z; omega
    · have a2 := hR k z; omega
  · have e := h.box
    simpa [spt, nt] using e
  · have a1 := hP q z; omega
  · have a2 := hR q z; omega
set_option maxRecDepth 100000 in
set_option maxHeartbeats 8000000 in
theorem walk (a0 a1 : Int) (ad : Option Addr) (len cap : Nat) (w : World) (h0 : 0 ≤ a0 ∧ a0 ≤ 255) (h1 : 0 ≤ a1 ∧ a1 ≤ 65535) (hl : IsActs w ad len) :
    Calls Try.prog 3 #[.int .u8 a0, .int .u16 a1, .slice ad len cap] w fun e w' => e = .returned (.bool true) ∧ Below w.heap.size w w' := by
  obtain ⟨n, rfl⟩ : ∃ n : Nat, a0 = n := ⟨a0.toNat, by omega⟩
  obtain ⟨n1, rfl⟩ : ∃ n1 : Nat, a1 = n1 := ⟨a1.toNat, by omega⟩
  have hm : len ≤ 9223372036854775807 := by have := hl.1; unfold maxLen at this; exact this
  have HL := Hid.mk hl
  clear hl
  have e1 : (n : Int).tmod 40 = ((n % 40 : Nat) : Int) := by rw [Int.tmod_eq_emod_of_nonneg (by omega)]; omega
  have e2 : (n1 : Int).tmod 64 = ((n1 % 64 : Nat) : Int) := by rw [Int.tmod_eq_emod_of_nonneg (by omega)]; omega
  obtain ⟨r, hr⟩ : ∃ r, n % 40 = r := ⟨_, rfl⟩
  have r40 : r < 40 := by omega
  obtain ⟨t, ht⟩ : ∃ t, n1 % 64 = t := ⟨_, rfl⟩
  have t64 : t < 64 := by omega
  rw [hr] at e1
  rw [ht] at e2
  clear hr ht
  obtain ⟨M, hM⟩ : ∃ M, (r + 1) * 64 - t = M := ⟨_, rfl⟩
  have hNK : ((r : Int) + 1) * 64 - (t : Int) = (M : Int) := by omega
  have MD := made_any w (r + 1) M (by omega) (by omega) (by omega) (by omega)
  rw [show ((r + 1 : Nat) : Int) = (r : Int) + 1 by omega] at MD
  have HM : Hid (M ≤ 524288) := ⟨by omega⟩
  go_enter Try.func3, Try.ntmps3
  go_wp2_with (first
    | (go_at_call 8; refine MD.mono ?_; rintro e w1 ⟨q, p, pb, a, ab, y, yb, c, s, m, x, rfl, D⟩; unfold pt; have HA1 := Hid.mk (wd_al D (f1_good _) (by simp)); have HB1 := Hid.mk D.bel; have AW := awake_any w1; clear D MD)
    | (go_at_call 9; refine AW.mono ?_; rintro e w2 ⟨rfl, B2⟩; have HA2 := Hid.mk (HA1.out.later B2); have HB2 := Hid.mk (HB1.out.trans (B2.mono HB1.out.size)); clear AW B2))
  clear HA1 HB1
  generalize (fun b => s (nt b)) = s' at *
  generalize (fun b => x (nt b)) = x' at *
  go_loopw [9] (fun i wr => ∃ (k : Nat) (m : Bool → Nat) (v : Bool → Value) (S : Bool → S0) (f : Nat → Int) (xs : List Int) (ro : Bool → Nat → Value), k ≤ len ∧ k ≤ 100 ∧ i = .int .i64 (k : Int) ∧ Hid (Al w.heap.size w1.heap.size q wr s' m v S S p a pb ab (r + 1) M f f xs x' ro y yb c) ∧ Hid (∀ i, Us (S i)) ∧ Hid (∀ i, (S i).l.length ≤ k) ∧ Hid (Below w.heap.size w wr)) (fun i _ => 100 - (intOf i).toNat)
  case atStart => exact ⟨0, _, _, _, _, _, _, Nat.zero_le _, Nat.zero_le _, rfl, HA2, ⟨fun _ => us_none⟩, ⟨fun _ => by simp [S0.none]⟩, HB2⟩
  case round =>
    obtain ⟨k, m', v, S, f, xs, ro, hk, hk2, rfl, HA, HU, HLn, HB⟩ := hrel
    clear HA2 HB2
    by_cases hlt : k < len ∧ k < 100
    · obtain ⟨BB, OO, x0, x1, b, rfl, o0, o1, o2, b0, b1⟩ := HL.out.2 k hlt.1
      have c0 := old_cells o0 HB.out
      have c1 := old_cells o1 HB.out
      have c2 := old_cells o2 HB.out
      have z1 : (k : Int) < len := by have := hlt.1; omega
      have z2 : (k : Int) < 100 := by have := hlt.2; omega
      have DO := do_any HA.out HU.out (fun i => by have := HLn.out i; omega) HM.out x0 x1 b b1
      unfold pt at DO
      have hk3 := hlt.1
      clear hlt o0 o1 o2 b0 b1
      go_wp2_with (go_at_call 10; refine DO.mono ?_; rintro e w4 ⟨rfl, m4, v4, S4, f4, xs4, r4, A4, U4, L4, B4⟩; have HA4 := Hid.mk A4; have HU4 := Hid.mk U4; have HL4 := Hid.mk L4; have HB4 := Hid.mk (HB.out.trans B4); clear DO A4 U4 L4 B4)
      go_roundw
      case rel => exact ⟨k + 1, _, _, _, _, _, _, by omega, by omega, by go_num, HA4, HU4, ⟨fun i => by have := HL4.out i; have := HLn.out i; omega⟩, HB4⟩
      case measure => simp [intOf]; omega
    · have TO := told_all HA.out HU.out (fun i => by have := HLn.out i; omega)
      unfold pt at TO
      by_cases g1 : (k : Int) < len
      · have g2 : ¬ (k : Int) < 100 := fun z => hlt ⟨by omega, by omega⟩
        clear hlt
        go_wp2_with (go_at_call 11; refine TO.mono ?_; rintro e w4 ⟨rfl, B4⟩; have B5 := HB.out.trans (B4.mono HB.out.size); clear TO B4)
        go_ret
        exact ⟨rfl, B5⟩
      · clear hlt
        go_wp2_with (go_at_call 11; refine TO.mono ?_; rintro e w4 ⟨rfl, B4⟩; have B5 := HB.out.trans (B4.mono HB.out.size); clear TO B4)
        go_ret
        exact ⟨rfl, B5⟩


set_option maxRecDepth 100000 in
theorem lifted (os : Os) (started : os.Started) (H : Type) (enc : TypeId × Value → H) :
    ReturnsInHanded {} Try.checked os 3 .any (Rows.bumpLaysSpec.pre6 enc Try.prog Try.f3 Rows.bumpLaysRow.domain false) (Rows.bumpLaysSpec.post enc Try.prog Try.f3 false true false false) := by
  refine returnsInHanded_of_change (C := Try.checked) own started (by kernel_rfl) Try.func3
    (ChangeSpec.witness6 (enc := enc) (C := Try.checked) false ⟨#[], #[.int .u8 0, .int .u16 0, .slice none 0 0], []⟩ 8 (by kernel_rfl) (by kernel_rfl) (by kernel_rfl) (by kernel_rfl)) ?_
  intro W base args ds gs before hval0 hW hcnd _
  have hval : ∀ (j : Nat) t v, Try.f3.params[j]? = some t → args[j]? = some v → Value.okWide Try.prog W .any base t v := hval0
  have hW' := hW
  obtain ⟨p, q, hA0, hV, rfl, hfz, hnd⟩ := hW
  have hA : DataW.TrodAll enc Try.prog W 0 (fun _ => true) true Try.f3.params.toList args.toList ds p := hA0
  rw [Try.params3] at hA hval
  obtain ⟨v0, vs0, d0, ds0, p0, q0, hargs, rfl, rfl, h0, r0⟩ := trodAll_cons hA
  obtain ⟨v1, vs1, d1, ds1, p1, q1, rfl, rfl, rfl, h1, r1⟩ := trodAll_cons r0
  obtain ⟨v2, vs2, d2, ds2, p2, q2, rfl, rfl, rfl, h2, r2⟩ := trodAll_cons r1
  obtain ⟨rfl, rfl, rfl⟩ := trodAll_nil r2
  obtain rfl : args = #[v0, v1, v2] := by cases args; simp_all
  obtain ⟨rfl, rfl⟩ := trodVars_none hV
  have t0 := h0
  have lt0 : ∀ x ∈ p0, x.block < W.heap.size := by obtain ⟨m, hm⟩ := t0; exact DataW.trod_lt m _ _ _ hm
  obtain ⟨a0, rfl, hd0, hp0, w0⟩ := open_int Try.underlying5 (hval 0 5 v0 rfl rfl) h0
  have t1 := h1
  have lt1 : ∀ x ∈ p1, x.block < W.heap.size := by obtain ⟨m, hm⟩ := t1; exact DataW.trod_lt m _ _ _ hm
  obtain ⟨a1, rfl, hd1, hp1, w1⟩ := open_int Try.underlying22 (hval 1 22 v1 rfl rfl) h1
  have t2 := h2
  have lt2 : ∀ x ∈ p2, x.block < W.heap.size := by obtain ⟨m, hm⟩ := t2; exact DataW.trod_lt m _ _ _ hm
  obtain ⟨ad2, len2, cap2, rfl⟩ := okWide_slice Try.underlying23 (hval 2 23 v2 rfl rfl)
  have w2 := open_acts h2
  clear hA0 hval0
  refine (walk a0 a1 ad2 len2 cap2 W (bounds_u8 w0) (bounds_u16 w1) w2).mono fun e W' ⟨he, bel⟩ => ?_
  subst he
  exact ⟨_, rfl, _, _, _, [], _, [], hW', trodAll_mk1 (shut_bool Try.underlying4 _), (trodAll_cons_mk (Below.trod laidOut (by kernel_rfl) (of_decide_eq_true (by kernel_rfl)) t0 bel lt0) (trodAll_cons_mk (Below.trod laidOut (by kernel_rfl) (of_decide_eq_true (by kernel_rfl)) t1 bel lt1) (trodAll_cons_mk (Below.trod laidOut (by kernel_rfl) (of_decide_eq_true (by kernel_rfl)) t2 bel lt2) trodAll_mk0))), rfl, bel.frame _, fun h => by cases h⟩

theorem over : Rows.bumpLaysRow.holds Try.pinned (OpenSpec.ofChange Rows.bumpLaysSpec) :=
  OpenClaim.holds_of_wide 3 Try.f3 rfl rfl rfl rfl rfl rfl rfl ⟨rfl, rfl, rfl, rfl, rfl⟩ rfl rfl rfl rfl rfl (by kernel_rfl) Try.func3 (by kernel_rfl)
    (of_decide_eq_true (by kernel_rfl)) (by unfold Func.isWrapper; first | (rw [if_pos (by decide +kernel)]; kernel_rfl) | (rw [if_neg (by decide +kernel)]; exact ⟨rfl, rfl⟩))
    (fun os started H enc _ => lifted os started H enc)
end Go.Proofs.Ytcallmfdigfhnaa.bumpLays

namespace Go.Proofs.Ytcallmfdigfhnaa
theorem bumpLays_holds : Rows.BumpLaysSaid := bumpLays.over
#print axioms bumpLays_holds
end Go.Proofs.Ytcallmfdigfhnaa
