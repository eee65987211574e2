/-
  The statement RememberApart: what is done to one list changes no other one.
  Conditions: none on the input.
-/
import Derived.Test.YtfenbjkkljggiaaActs
import Derived.Deep.RegionHeld3
namespace Go.Proofs.Ytfenbjkkljggiaa.rememberApart
open Go.ChangeShapes Go.WideShapes Go.ChangeAt Go.RowKit
set_option linter.unusedVariables false

theorem below_drew (w : World) : Below w.heap.size w w.drew := ⟨rfl, rfl, rfl, Nat.le_refl _, fun _ _ => rfl⟩
theorem putS_far (n : Nat) (L : Nat → List Int) {g : Int} (x : Int) {r : Nat} (h : g ≠ (r : Int)) : putS n L g x r = L r := by
  unfold putS
  split
  · rename_i e
    have := isl_yes (flt_zero e).1
    exact upd_far _ _ (by omega)
  · rfl
theorem dropS_far (n : Nat) (L : Nat → List Int) {g : Int} (x : Int) {r : Nat} (h : g ≠ (r : Int)) : dropS n L g x r = L r := by
  unfold dropS
  split
  · rename_i e
    have := isl_yes (flt_zero e).1
    exact upd_far _ _ (by omega)
  · rfl
theorem takeS_far (n : Nat) (L : Nat → List Int) {g : Int} {r : Nat} (h : g ≠ (r : Int)) : takeS n L g r = L r := by
  unfold takeS
  split
  · rename_i e
    have := isl_yes e
    exact upd_far _ _ (by omega)
  · rfl
theorem put2 (r : Nat) (hr : r < 4) : putS 4 (putS 4 (fun _ => []) r 7) r 3 r = [3, 7] := by
  have h : ∀ x : Int, 1 ≤ x ∧ x ≤ 524288 → flt 4 (r : Int) x = 0 := fun x hx => gs_put 4 (fun _ => []) r x hr hx
  unfold putS
  rw [if_pos (h 3 (by decide)), if_pos (h 7 (by decide)), Int.toNat_natCast, upd_at, upd_at]
  show putL (putL [] 7) 3 = [3, 7]
  decide
set_option maxRecDepth 100000 in
set_option maxHeartbeats 8000000 in
theorem walk (ad : Option Addr) (len cap : Nat) (a1 : Int) (w : World) (hl : IsActs w ad len) (h1 : 0 ≤ a1 ∧ a1 ≤ 255) :
    Calls Try.prog 5 #[.slice ad len cap, .int .u8 a1] w fun e w' => e = .returned (.bool true) ∧ Below w.heap.size w w' := by
  have hm : len ≤ 9223372036854775807 := by have := hl.1; unfold maxLen at this; exact this
  have HL := Hid.mk hl
  clear hl
  obtain ⟨n, rfl⟩ : ∃ n : Nat, a1 = n := ⟨a1.toNat, by omega⟩
  have e1 : (n : Int).tmod 4 = ((n % 4 : Nat) : Int) := by rw [Int.tmod_eq_emod_of_nonneg (by omega)]; omega
  obtain ⟨r, hr⟩ : ∃ r, n % 4 = r := ⟨_, rfl⟩
  have r4 : r < 4 := by omega
  rw [hr] at e1
  clear hr
  have NW := new_any w 4 (by omega)
  go_enter Try.func5, Try.ntmps5
  go_wp2_with (first
    | (go_at_call 8; refine NW.mono ?_; rintro e w1 ⟨s, sb, m0, rfl, H1, B1⟩; have AW := awake_any w1; have HH1 := Hid.mk H1; have HB1 := Hid.mk B1; clear NW H1 B1)
    | (go_at_call 10; refine AW.mono ?_; rintro e w2 ⟨rfl, B2⟩; have P1 := put_any (HH1.out.later B2) (r : Int) 7; have HB2 := Hid.mk (HB1.out.trans (B2.mono HB1.out.size)); clear AW B2)
    | (go_at_call 17; refine P1.mono ?_; rintro e w3 ⟨rfl, H3, K3⟩; have P2 := put_any H3 (r : Int) 3; have HB3 := Hid.mk (HB2.out.trans K3.bel); clear P1 H3 K3)
    | (go_at_call 17; refine P2.mono ?_; rintro e w4 ⟨rfl, H4, K4⟩; have HH4 := Hid.mk H4; have HB4 := Hid.mk (HB3.out.trans K4.bel); clear P2 H4 K4))
  have HR4 := Hid.mk (put2 r r4)
  go_loopw [8] (fun i wr => ∃ (k : Nat) (m : Nat → Nat) (L : Nat → List Int), k ≤ len ∧ i = .int .i64 (k : Int) ∧ Hid (Ls w.heap.size wr s sb 4 m L) ∧ Hid (L r = [3, 7]) ∧ Hid (Below w.heap.size w wr)) (fun i _ => len - (RowKit.intOf i).toNat)
  case atStart => exact ⟨0, _, _, Nat.zero_le _, rfl, HH4, HR4, HB4⟩
  case round =>
    obtain ⟨k, m, L, hk, rfl, HS, HR, HB⟩ := hrel
    clear HH1 HB1 HB2 HB3 HH4 HB4 HR4
    by_cases hgo : k < len ∧ k < 300
    · obtain ⟨hlt, h300⟩ := hgo
      have hlt' : (k : Int) < len := by omega
      have h300' : (k : Int) < 300 := by omega
      obtain ⟨BB, OO, x0, x1, x2, rfl, o0, o1, o2, i0, i1, i2⟩ := HL.out.2 k hlt
      have c0 := old_cells o0 HB.out
      have c1 := old_cells o1 HB.out
      have c2 := old_cells o2 HB.out
      have hx2 := Hid.mk i2
      clear i0 i1 i2
      by_cases hne : x1 = (r : Int)
      · subst hne
        clear o0 o1 o2
        go_wp2
        go_roundw
        case rel => exact ⟨k + 1, _, _, by omega, by go_num, HS, HR, HB⟩
        case measure => simp [RowKit.intOf]; omega
      · have hneb : (x1 == (r : Int)) = false := by simpa using hne
        have HO := Hid.mk o0
        by_cases q0 : x0 = 0 ∨ x0 = 1
        · have hsw : (x0 == 0) = true ∨ ((x0 == 0) = false ∧ (x0 == 1) = true) := by rcases q0 with q | q <;> subst q <;> simp
          rcases hsw with hsw | ⟨hsw0, hsw⟩
          all_goals
            clear q0
            have PTd : Calls Try.prog 17 #[pv s, .int .i64 x1, .int .i64 x2] wr.drew fun e w' => ∃ E : Int, e = .returned (.int .i64 E) ∧ Hid (Ls w.heap.size w' s sb 4 m (putS 4 L x1 x2) ∧ Kp XP w.heap.size wr w') ∧ w'.cell? ⟨BB, OO + k * 3 + 1, none⟩ = some (.int .i64 x1) ∧ w'.cell? ⟨BB, OO + k * 3 + 2, none⟩ = some (.int .i64 x2) := by
              refine (put_any (HS.out.later (w' := wr.drew) (below_drew wr)) x1 x2).mono ?_
              rintro e w' ⟨rfl, q1, q2⟩
              have q3 : Kp XP w.heap.size wr w' := (Kp.later (below_drew wr) HB.out.size).trans q2
              exact ⟨_, rfl, ⟨q1, q3⟩, old_cells o1 (HB.out.trans q3.bel), old_cells o2 (HB.out.trans q3.bel)⟩
            have HR2 := Hid.mk ((putS_far 4 L x2 hne).trans HR.out)
            go_wp2
            go_region_held3 (fun W' => W'.cell? ⟨BB, OO + k * 3 + 1, none⟩ = some (.int .i64 x1) ∧ W'.cell? ⟨BB, OO + k * 3 + 2, none⟩ = some (.int .i64 x2)) (go_keep) (first | (go_at_call 17; refine PTd.mono ?_; rintro e w4 ⟨E, rfl, H4, r1, r2⟩))
            have HS4 := Hid.mk H4.out.1
            have HB4 := Hid.mk (HB.out.trans H4.out.2.bel)
            clear r1 r2 PTd H4
            go_wp2
            go_roundw
            case rel => exact ⟨k + 1, _, _, by omega, by go_num, HS4, HR2, HB4⟩
            case measure => simp [RowKit.intOf]; omega
        · have q00 : (x0 == 0) = false := by simp; omega
          have q01 : (x0 == 1) = false := by simp; omega
          by_cases q2 : x0 = 2
          · have q20 : (x0 == 2) = true := by simpa using q2
            clear q0 q2
            have PTd : Calls Try.prog 18 #[pv s, .int .i64 x1, .int .i64 x2] wr.drew fun e w' => ∃ E : Int, e = .returned (.int .i64 E) ∧ Hid (Ls w.heap.size w' s sb 4 m (dropS 4 L x1 x2) ∧ Kp XP w.heap.size wr w') ∧ w'.cell? ⟨BB, OO + k * 3 + 1, none⟩ = some (.int .i64 x1) ∧ w'.cell? ⟨BB, OO + k * 3 + 2, none⟩ = some (.int .i64 x2) := by
              refine (drop_any (HS.out.later (w' := wr.drew) (below_drew wr)) x1 x2).mono ?_
              rintro e w' ⟨rfl, q1, q2⟩
              have q3 : Kp XP w.heap.size wr w' := (Kp.later (below_drew wr) HB.out.size).trans q2
              exact ⟨_, rfl, ⟨q1, q3⟩, old_cells o1 (HB.out.trans q3.bel), old_cells o2 (HB.out.trans q3.bel)⟩
            have HR2 := Hid.mk ((dropS_far 4 L x2 hne).trans HR.out)
            go_wp2
            go_region_held3 (fun W' => W'.cell? ⟨BB, OO + k * 3 + 1, none⟩ = some (.int .i64 x1) ∧ W'.cell? ⟨BB, OO + k * 3 + 2, none⟩ = some (.int .i64 x2)) (go_keep) (first | (go_at_call 18; refine PTd.mono ?_; rintro e w4 ⟨E, rfl, H4, r1, r2⟩))
            have HS4 := Hid.mk H4.out.1
            have HB4 := Hid.mk (HB.out.trans H4.out.2.bel)
            clear r1 r2 PTd H4
            go_wp2
            go_roundw
            case rel => exact ⟨k + 1, _, _, by omega, by go_num, HS4, HR2, HB4⟩
            case measure => simp [RowKit.intOf]; omega
          · have q20 : (x0 == 2) = false := by simpa using q2
            by_cases q3 : x0 = 3
            · have q30 : (x0 == 3) = true := by simpa using q3
              clear q0 q2 q3 o0 o1 o2
              have TK := take_any HS.out HB.out.size x1
              have HR2 := Hid.mk ((takeS_far 4 L hne).trans HR.out)
              go_wp2_with (go_at_call 19; refine TK.mono ?_; rintro e w4 ⟨v, m4, rfl, _, H4, K4⟩; have HS4 := Hid.mk H4; have HB4 := Hid.mk (HB.out.trans K4.bel); clear H4 K4)
              go_roundw
              case rel => exact ⟨k + 1, _, _, by omega, by go_num, HS4, HR2, HB4⟩
              case measure => simp [RowKit.intOf]; omega
            · have q30 : (x0 == 3) = false := by simpa using q3
              clear q0 q2 q3 o0 o1 o2
              go_wp2
              go_roundw
              case rel => exact ⟨k + 1, _, _, by omega, by go_num, HS, HR, HB⟩
              case measure => simp [RowKit.intOf]; omega
    · have AL := all_any HS.out (r : Int)
      have hA : allS 4 L (r : Int) = [3, 7] := by
        have : isl 4 (r : Int) = true := by simp [isl]; omega
        simp only [allS, this, if_true, Int.toNat_natCast]
        exact HR.out
      rw [hA] at AL
      have hcond : (k : Int) < len → ¬ (k : Int) < 300 := fun q1 q2 => hgo ⟨by omega, by omega⟩
      by_cases q : (k : Int) < len
      case' pos => have q2 := hcond q
      all_goals
        clear hcond hgo hA
        go_wp2_with (first
          | (go_at_call 15; refine AL.mono ?_; rintro e w4 ⟨v1, rfl, R4, N4, B4⟩; have SM := same_true (xs := [3, 7]) (vb := .slice (some ⟨w4.heap.size, 0, none⟩) 2 2) ((sl_of R4).later (Below.alloc (Below.refl _ w4) (Nat.le_refl _) (Obj.cells #[.int .i64 3, .int .i64 7] 3))) (Or.inr ⟨w4.heap.size, 2, _, rfl, by decide, heap_alloc_new _ _, fun j hj => by rcases j with _ | _ | j <;> first | rfl | (simp at hj; omega)⟩) (by decide); have HB5 := Hid.mk ((HB.out.trans (B4.mono HB.out.size)).alloc (HB.out.trans (B4.mono HB.out.size)).size (Obj.cells #[.int .i64 3, .int .i64 7] 3)); clear R4 N4 B4 AL)
          | (go_at_call 14; refine SM.mono ?_; rintro e w5 ⟨rfl, B5⟩; have B6 := HB5.out.trans (B5.mono HB5.out.size); clear SM))
        go_ret
        exact ⟨rfl, B6⟩


set_option maxRecDepth 100000 in
theorem lifted (os : Os) (started : os.Started) (H : Type) (enc : TypeId × Value → H) :
    ReturnsInHanded {} Try.checked os 5 .any (Rows.rememberApartSpec.pre6 enc Try.prog Try.f5 Rows.rememberApartRow.domain false) (Rows.rememberApartSpec.post enc Try.prog Try.f5 false true false false) := by
  refine returnsInHanded_of_change (C := Try.checked) own started (by kernel_rfl) Try.func5
    (ChangeSpec.witness6 (enc := enc) (C := Try.checked) false ⟨#[], #[.slice none 0 0, .int .u8 0], []⟩ 8 (by kernel_rfl) (by kernel_rfl) (by kernel_rfl) (by kernel_rfl)) ?_
  intro W base args ds gs before hval0 hW hcnd _
  have hval : ∀ (j : Nat) t v, Try.f5.params[j]? = some t → args[j]? = some v → Value.okWide Try.prog W .any base t v := hval0
  have hW' := hW
  obtain ⟨p, q, hA0, hV, rfl, hfz, hnd⟩ := hW
  have hA : DataW.TrodAll enc Try.prog W 0 (fun _ => true) true Try.f5.params.toList args.toList ds p := hA0
  rw [Try.params5] at hA hval
  obtain ⟨v0, vs0, d0, ds0, p0, q0, hargs, rfl, rfl, h0, r0⟩ := trodAll_cons hA
  obtain ⟨v1, vs1, d1, ds1, p1, q1, rfl, rfl, rfl, h1, r1⟩ := trodAll_cons r0
  obtain ⟨rfl, rfl, rfl⟩ := trodAll_nil r1
  obtain rfl : args = #[v0, v1] := by cases args; simp_all
  obtain ⟨rfl, rfl⟩ := trodVars_none hV
  have t0 := h0
  have lt0 : ∀ x ∈ p0, x.block < W.heap.size := by obtain ⟨m, hm⟩ := t0; exact DataW.trod_lt m _ _ _ hm
  obtain ⟨ad0, len0, cap0, rfl⟩ := okWide_slice Try.underlying22 (hval 0 22 v0 rfl rfl)
  have w0 := open_acts h0
  have t1 := h1
  have lt1 : ∀ x ∈ p1, x.block < W.heap.size := by obtain ⟨m, hm⟩ := t1; exact DataW.trod_lt m _ _ _ hm
  obtain ⟨a1, rfl, hd1, hp1, w1⟩ := open_int Try.underlying5 (hval 1 5 v1 rfl rfl) h1
  clear hA0 hval0
  refine (walk ad0 len0 cap0 a1 W w0 (bounds_u8 w1)).mono fun e W' ⟨he, bel⟩ => ?_
  subst he
  exact ⟨_, rfl, _, _, _, [], _, [], hW', trodAll_mk1 (shut_bool Try.underlying4 _), (trodAll_cons_mk (Below.trod laidOut (by kernel_rfl) (of_decide_eq_true (by kernel_rfl)) t0 bel lt0) (trodAll_cons_mk (Below.trod laidOut (by kernel_rfl) (of_decide_eq_true (by kernel_rfl)) t1 bel lt1) trodAll_mk0)), rfl, bel.frame _, fun h => by cases h⟩

theorem over : Rows.rememberApartRow.holds Try.pinned (OpenSpec.ofChange Rows.rememberApartSpec) :=
  OpenClaim.holds_of_wide 5 Try.f5 rfl rfl rfl rfl rfl rfl rfl ⟨rfl, rfl, rfl, rfl, rfl⟩ rfl rfl rfl rfl rfl (by kernel_rfl) Try.func5 (by kernel_rfl)
    (of_decide_eq_true (by kernel_rfl)) (by unfold Func.isWrapper; first | (rw [if_pos (by decide +kernel)]; kernel_rfl) | (rw [if_neg (by decide +kernel)]; exact ⟨rfl, rfl⟩))
    (fun os started H enc _ => lifted os started H enc)
end Go.Proofs.Ytfenbjkkljggiaa.rememberApart

namespace Go.Proofs.Ytfenbjkkljggiaa
theorem rememberApart_holds : Rows.RememberApartSaid := rememberApart.over
#print axioms rememberApart_holds
end Go.Proofs.Ytfenbjkkljggiaa
