/-
  The statement RememberDoes: every call of lists is answered as the document says.
  Conditions: none on the input.
-/
import Derived.Test.YtfenbjkkljggiaaRmm
namespace Go.Proofs.Ytfenbjkkljggiaa.rememberDoes
open Go.ChangeShapes Go.WideShapes Go.ChangeAt Go.RowKit
set_option linter.unusedVariables false

theorem rs_mono {lo lo' : Nat} {w : World} {x ob n : Nat} {V : Nat → Value} {L : Nat → List Int} (h : Rs lo w x ob n V L) (e : lo' ≤ lo) : Rs lo' w x ob n V L := ⟨h.box, h.of, h.rows, h.gd, h.le, ⟨Nat.le_trans e h.lo.1, Nat.le_trans e h.lo.2⟩⟩
set_option maxRecDepth 100000 in
set_option maxHeartbeats 4000000 in
theorem walk_no (g : Int) (ad : Option Addr) (len cap : Nat) (w : World) (hg : ¬ (1 ≤ g ∧ g ≤ 4)) :
    Calls Try.prog 3 #[.int .i64 g, .slice ad len cap] w fun e w' => e = .returned (.bool true) ∧ Below w.heap.size w w' := by
  have NW := new_no w g hg
  have RW := rnew_no w g hg
  have AW := awake_any w
  go_enter Try.func3, Try.ntmps3
  go_wp2_with (first
    | (go_at_call 8; refine NW.mono ?_; rintro e w1 ⟨rfl, hw⟩; rw [hw]; clear hw NW)
    | (go_at_call 9; refine RW.mono ?_; rintro e w1 ⟨rfl, hw⟩; rw [hw]; clear hw RW)
    | (go_at_call 10; refine AW.mono ?_; rintro e w2 ⟨rfl, B2⟩; clear AW))
  go_ret
  exact ⟨rfl, B2⟩
set_option maxRecDepth 100000 in
set_option maxHeartbeats 8000000 in
theorem walk_yes (n : Nat) (ad : Option Addr) (len cap : Nat) (w : World) (hn : 1 ≤ n ∧ n ≤ 4) (hl : IsActs w ad len) :
    Calls Try.prog 3 #[.int .i64 (n : Int), .slice ad len cap] w fun e w' => e = .returned (.bool true) ∧ Below w.heap.size w w' := by
  have hm : len ≤ 9223372036854775807 := by have := hl.1; unfold maxLen at this; exact this
  have HL := Hid.mk hl
  clear hl
  have NW := new_any w n hn
  have HN := Hid.mk hn
  go_enter Try.func3, Try.ntmps3
  go_wp2_with (first
    | (go_at_call 8; refine NW.mono ?_; rintro e w1 ⟨s, sb, m0, rfl, H1, B1⟩; have RW := rnew_any w1 n hn; have HH1 := Hid.mk H1; have HB1 := Hid.mk B1; clear NW H1 B1)
    | (go_at_call 9; refine RW.mono ?_; rintro e w2 ⟨x, ob, rfl, H2, B2⟩; have AW := awake_any w2; have HS2 := Hid.mk (HH1.out.later B2); have HR2 := Hid.mk (rs_mono H2 HB1.out.size); have HB2 := Hid.mk (HB1.out.trans (B2.mono HB1.out.size)); clear RW H2 B2)
    | (go_at_call 10; refine AW.mono ?_; rintro e w3 ⟨rfl, B3⟩; have HS3 := Hid.mk (HS2.out.later B3); have HR3 := Hid.mk (HR2.out.later B3); have HB3 := Hid.mk (HB2.out.trans (B3.mono HB2.out.size)); clear AW B3))
  clear HH1 HB1 HS2 HR2 HB2
  go_loopw [9] (fun i wr => ∃ (k : Nat) (m : Nat → Nat) (V : Nat → Value) (L : Nat → List Int), k ≤ len ∧ i = .int .i64 (k : Int) ∧ Hid (Ls w.heap.size wr s sb n m L) ∧ Hid (Rs w.heap.size wr x ob n V L) ∧ Hid (Below w.heap.size w wr)) (fun i _ => len - (RowKit.intOf i).toNat)
  case atStart => exact ⟨0, _, _, _, Nat.zero_le _, rfl, HS3, HR3, HB3⟩
  case round =>
    obtain ⟨k, m, V, L, hk, rfl, HS, HR, HB⟩ := hrel
    clear HS3 HR3 HB3
    by_cases hgo : k < len ∧ k < 300
    · obtain ⟨hlt, h300⟩ := hgo
      have hlt' : (k : Int) < len := by omega
      have h300' : (k : Int) < 300 := by omega
      obtain ⟨BB, OO, x0, x1, x2, rfl, o0, o1, o2, i0, i1, i2⟩ := HL.out.2 k hlt
      have c0 := old_cells o0 HB.out
      have c1 := old_cells o1 HB.out
      have c2 := old_cells o2 HB.out
      have DO := do_any HS.out HR.out HB.out.size x0 x1 x2 i2
      clear o0 o1 o2 i0 i1 i2
      go_wp2_with (first
        | (go_at_call 11; refine DO.mono ?_; rintro e w4 ⟨rfl, m4, V4, L4, H4, G4, B4⟩; have LN := len_any H4; have RN := rlen_any G4; have HS4 := Hid.mk H4; have HR4 := Hid.mk G4; have HB4 := Hid.mk (HB.out.trans B4); obtain ⟨q, hq⟩ : ∃ q, lenS L4 n = q := ⟨_, rfl⟩; rw [hq] at LN RN; clear DO H4 G4 B4 hq)
        | (go_at_call 12; refine LN.mono ?_; rintro e w5 ⟨rfl, hw⟩; rw [hw]; clear hw LN)
        | (go_at_call 13; refine RN.mono ?_; rintro e w5 ⟨rfl, hw⟩; rw [hw]; clear hw RN))
      go_roundw
      case rel => exact ⟨k + 1, _, _, _, by omega, by go_num, HS4, HR4, HB4⟩
      case measure => simp [RowKit.intOf]; omega
    · have hcond : (k : Int) < len → ¬ (k : Int) < 300 := fun q1 q2 => hgo ⟨by omega, by omega⟩
      obtain ⟨wb, hwb⟩ : ∃ x, x = wr := ⟨_, rfl⟩
      rw [← hwb] at HS HR HB
      by_cases q : (k : Int) < len
      case' pos => have q2 := hcond q
      all_goals
        clear hcond hgo
        subst hwb
        go_wp2
        go_loopw [10] (fun i w5 => ∃ t : Nat, t ≤ n ∧ i = .int .i64 (t : Int) ∧ Hid (Ls w.heap.size w5 s sb n m L) ∧ Hid (Rs w.heap.size w5 x ob n V L) ∧ Hid (Below w.heap.size w w5)) (fun i _ => n - (RowKit.intOf i).toNat)
        case atStart => exact ⟨0, Nat.zero_le _, rfl, HS, HR, HB⟩
        case round =>
          obtain ⟨t, ht, rfl, HS5, HR5, HB5⟩ := hrel
          clear HS HR HB
          by_cases htn : t < n
          · have htn' : (t : Int) < n := by omega
            have AL := all_any HS5.out (t : Int)
            have HLEN : Hid ((allS n L (t : Int)).length ≤ 600000) := ⟨by have := (allS_gd HS5.out.gd (t : Int)).len; omega⟩
            go_wp2_with (first
              | (go_at_call 15; refine AL.mono ?_; rintro e w6 ⟨v1, rfl, R6, _, B6⟩; have S6 := Hid.mk (sl_of R6); have HS6 := Hid.mk (HS5.out.later B6); have HR6 := Hid.mk (HR5.out.later B6); have HB6 := Hid.mk (HB5.out.trans (B6.mono HB5.out.size)); have RA := rall_any HR6.out (t : Int); clear R6 B6 AL)
              | (go_at_call 16; refine RA.mono ?_; rintro e w7 ⟨v2, rfl, S7, hw⟩; rw [hw]; clear hw; have SM := same_true S6.out S7 HLEN.out; clear S7 RA)
              | (go_at_call 14; refine SM.mono ?_; rintro e w8 ⟨rfl, B8⟩; have HS8 := Hid.mk (HS6.out.later B8); have HR8 := Hid.mk (HR6.out.later B8); have HB8 := Hid.mk (HB6.out.trans (B8.mono HB6.out.size)); clear SM B8))
            go_roundw
            case rel => exact ⟨t + 1, by omega, by go_num, HS8, HR8, HB8⟩
            case measure => simp [RowKit.intOf]; omega
          · have htn' : ¬ (t : Int) < n := by omega
            go_wp2
            go_ret
            exact ⟨rfl, HB5.out⟩
theorem walk (g : Int) (ad : Option Addr) (len cap : Nat) (w : World) (hg : -9223372036854775808 ≤ g ∧ g ≤ 9223372036854775807) (hl : IsActs w ad len) :
    Calls Try.prog 3 #[.int .i64 g, .slice ad len cap] w fun e w' => e = .returned (.bool true) ∧ Below w.heap.size w w' := by
  by_cases h : 1 ≤ g ∧ g ≤ 4
  · obtain ⟨n, rfl⟩ : ∃ n : Nat, g = n := ⟨g.toNat, by omega⟩
    exact walk_yes n ad len cap w (by omega) hl
  · exact walk_no g ad len cap w h


set_option maxRecDepth 100000 in
theorem lifted (os : Os) (started : os.Started) (H : Type) (enc : TypeId × Value → H) :
    ReturnsInHanded {} Try.checked os 3 .any (Rows.rememberDoesSpec.pre6 enc Try.prog Try.f3 Rows.rememberDoesRow.domain false) (Rows.rememberDoesSpec.post enc Try.prog Try.f3 false true false false) := by
  refine returnsInHanded_of_change (C := Try.checked) own started (by kernel_rfl) Try.func3
    (ChangeSpec.witness6 (enc := enc) (C := Try.checked) false ⟨#[], #[.int .i64 0, .slice none 0 0], []⟩ 8 (by kernel_rfl) (by kernel_rfl) (by kernel_rfl) (by kernel_rfl)) ?_
  intro W base args ds gs before hval0 hW hcnd _
  have hval : ∀ (j : Nat) t v, Try.f3.params[j]? = some t → args[j]? = some v → Value.okWide Try.prog W .any base t v := hval0
  have hW' := hW
  obtain ⟨p, q, hA0, hV, rfl, hfz, hnd⟩ := hW
  have hA : DataW.TrodAll enc Try.prog W 0 (fun _ => true) true Try.f3.params.toList args.toList ds p := hA0
  rw [Try.params3] at hA hval
  obtain ⟨v0, vs0, d0, ds0, p0, q0, hargs, rfl, rfl, h0, r0⟩ := trodAll_cons hA
  obtain ⟨v1, vs1, d1, ds1, p1, q1, rfl, rfl, rfl, h1, r1⟩ := trodAll_cons r0
  obtain ⟨rfl, rfl, rfl⟩ := trodAll_nil r1
  obtain rfl : args = #[v0, v1] := by cases args; simp_all
  obtain ⟨rfl, rfl⟩ := trodVars_none hV
  have t0 := h0
  have lt0 : ∀ x ∈ p0, x.block < W.heap.size := by obtain ⟨m, hm⟩ := t0; exact DataW.trod_lt m _ _ _ hm
  obtain ⟨a0, rfl, hd0, hp0, w0⟩ := open_int Try.underlying3 (hval 0 3 v0 rfl rfl) h0
  have t1 := h1
  have lt1 : ∀ x ∈ p1, x.block < W.heap.size := by obtain ⟨m, hm⟩ := t1; exact DataW.trod_lt m _ _ _ hm
  obtain ⟨ad1, len1, cap1, rfl⟩ := okWide_slice Try.underlying22 (hval 1 22 v1 rfl rfl)
  have w1 := open_acts h1
  clear hA0 hval0
  refine (walk a0 ad1 len1 cap1 W (bounds_i64 w0) w1).mono fun e W' ⟨he, bel⟩ => ?_
  subst he
  exact ⟨_, rfl, _, _, _, [], _, [], hW', trodAll_mk1 (shut_bool Try.underlying4 _), (trodAll_cons_mk (Below.trod laidOut (by kernel_rfl) (of_decide_eq_true (by kernel_rfl)) t0 bel lt0) (trodAll_cons_mk (Below.trod laidOut (by kernel_rfl) (of_decide_eq_true (by kernel_rfl)) t1 bel lt1) trodAll_mk0)), rfl, bel.frame _, fun h => by cases h⟩

theorem over : Rows.rememberDoesRow.holds Try.pinned (OpenSpec.ofChange Rows.rememberDoesSpec) :=
  OpenClaim.holds_of_wide 3 Try.f3 rfl rfl rfl rfl rfl rfl rfl ⟨rfl, rfl, rfl, rfl, rfl⟩ rfl rfl rfl rfl rfl (by kernel_rfl) Try.func3 (by kernel_rfl)
    (of_decide_eq_true (by kernel_rfl)) (by unfold Func.isWrapper; first | (rw [if_pos (by decide +kernel)]; kernel_rfl) | (rw [if_neg (by decide +kernel)]; exact ⟨rfl, rfl⟩))
    (fun os started H enc _ => lifted os started H enc)
end Go.Proofs.Ytfenbjkkljggiaa.rememberDoes

namespace Go.Proofs.Ytfenbjkkljggiaa
theorem rememberDoes_holds : Rows.RememberDoesSaid := rememberDoes.over
#print axioms rememberDoes_holds
end Go.Proofs.Ytfenbjkkljggiaa
