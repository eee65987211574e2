/-
  The statement PoolFits: for every number of blocks and every list of calls, what fits into the longest run is given, and all its blocks are one group then; what does not fit is not.
  Conditions: none on the input.
-/
import Derived.Test.YtaeehhonahhelaaMade
import Derived.Test.YtaeehhonahhelaaCount
namespace Go.Proofs.Ytaeehhonahhelaa.poolFits
open Go.ChangeShapes Go.WideShapes Go.ChangeAt Go.RowKit
set_option linter.unusedVariables false

set_option maxRecDepth 100000 in
set_option maxHeartbeats 8000000 in
theorem walk (a0 : Int) (ad : Option Addr) (len cap : Nat) (m : Int) (w : World) (h0 : 0 ≤ a0 ∧ a0 ≤ 255) (hl : IsActs w ad len) (hm : -9223372036854775808 ≤ m ∧ m ≤ 9223372036854775807) :
    Calls Try.prog 6 #[.int .u8 a0, .slice ad len cap, .int .i64 m] w fun e w' => e = .returned (.bool true) ∧ Below w.heap.size w w' := by
  obtain ⟨k, rfl⟩ : ∃ k : Nat, a0 = k := ⟨a0.toNat, by omega⟩
  have MD := made_any k (by omega) ad len cap w hl
  have m1 := hm.1
  have m2 := hm.2
  clear hl hm h0
  go_enter Try.func6, Try.ntmps6
  go_wp2_with (first
    | (go_at_call 14; refine MD.mono ?_; rintro e w1 ⟨rfl, ⟨f, H1, G⟩, B1⟩; clear MD)
    | (go_at_call 11; refine (awake_any w1).mono ?_; rintro e w2 ⟨rfl, B2⟩; have H2 := H1.later B2; have LG := longest_ok H2)
    | (go_at_call 23; refine LG.mono ?_; rintro e w3 ⟨rfl, B3⟩; have H3 := H2.later B3; have LF := left_ok H3)
    | (go_at_call 22; refine LF.mono ?_; rintro e w4 ⟨rfl, B4⟩; have H4 := H3.later B4))
  have D4 : Below w.heap.size w w4 := ((B1.trans (B2.mono B1.size)).trans (B3.mono (Nat.le_trans B1.size B2.size))).trans (B4.mono (Nat.le_trans B1.size (Nat.le_trans B2.size B3.size)))
  have AL := alloc_any H4 m m2
  have g1 := longest_le f (k + 1)
  have g2 := left_le f (k + 1)
  have hlen := H4.len
  clear B1 B2 B3 B4 H1 H2 H3 LG LF
  by_cases hc : m < 1 ∨ (longest f (k + 1) : Int) < m
  · obtain ⟨n1, n2, n3⟩ := alloc_not hc
    rw [n2, n3] at AL
    obtain ⟨E, hE⟩ : ∃ E, allocE f (k + 1) m = E := ⟨_, rfl⟩
    obtain ⟨lg, hlg⟩ : ∃ lg, longest f (k + 1) = lg := ⟨_, rfl⟩
    rw [hE] at AL n1
    rw [hlg] at hc g1 ⊢
    clear hE hlg n2 n3
    have n4 : (E != 0) = true := by simpa using n1
    by_cases h1 : m < 1
    · clear hc
      go_wp2_with (first
        | (go_at_call 20; refine AL.mono ?_; rintro e w5 ⟨rfl, H5, G5⟩; have LF := left_ok H5; clear AL)
        | (go_at_call 22; refine LF.mono ?_; rintro e w6 ⟨rfl, B6⟩))
      go_ret
      exact ⟨rfl, (grown_own D4 G5 (Nat.le_refl _)).trans (B6.mono (Nat.le_trans D4.size G5.size))⟩
    · have h2 : (lg : Int) < m := by omega
      clear hc
      go_wp2_with (first
        | (go_at_call 20; refine AL.mono ?_; rintro e w5 ⟨rfl, H5, G5⟩; have LF := left_ok H5; clear AL)
        | (go_at_call 22; refine LF.mono ?_; rintro e w6 ⟨rfl, B6⟩))
      go_ret
      exact ⟨rfl, (grown_own D4 G5 (Nat.le_refl _)).trans (B6.mono (Nat.le_trans D4.size G5.size))⟩
  · obtain ⟨n, rfl⟩ : ∃ n : Nat, m = n := ⟨m.toNat, by omega⟩
    obtain ⟨a, e1, e2, e3, e4, e5⟩ := alloc_fit (f := f) (N := k + 1) (n := n) (by omega) (by omega)
    rw [e1, e2, e3] at AL
    have lm := left_mark (f := f) (N := k + 1) (a := a) (n := n) (v := a) (by omega) e5 e4
    have GR : ∀ j, a ≤ j → j < a + n → groupE (mark f a n a) (k + 1) j = 0 ∧ groupA (mark f a n a) (k + 1) j = a ∧ groupN (mark f a n a) (k + 1) j = n := fun j p q => fit_group G (by omega) e4 e5 p q
    obtain ⟨FE, FF⟩ := fit_free G (N := k + 1) (a := a) (n := n) (by omega) e4 e5
    have G2 : Good (mark f a n a) (k + 1) := good_alloc G e5
    have h1 : (1 : Int) ≤ n := by omega
    have h2 : (n : Int) ≤ longest f (k + 1) := by omega
    have HGR : Hid (∀ j, a ≤ j → j < a + n → groupE (mark f a n a) (k + 1) j = 0 ∧ groupA (mark f a n a) (k + 1) j = a ∧ groupN (mark f a n a) (k + 1) j = n) := GR
    have HFE : Hid (freeE (mark f a n a) (k + 1) a = 0 ∧ freeF (mark f a n a) (k + 1) a = f) := ⟨FE, FF⟩
    have HG2 : Hid (Good (mark f a n a) (k + 1)) := G2
    have hlm : (left (mark f a n a) (k + 1) : Int) = (left f (k + 1) : Int) - n := by omega
    clear hc GR FE FF G2 e1 e2 e3 e5 m1 m2 lm
    obtain ⟨lg, hlg⟩ : ∃ lg, longest f (k + 1) = lg := ⟨_, rfl⟩
    obtain ⟨lf, hlf⟩ : ∃ lf, left f (k + 1) = lf := ⟨_, rfl⟩
    have HLG : Hid (longest f (k + 1) = lg) := hlg
    have HLF : Hid (left f (k + 1) = lf) := hlf
    rw [hlg] at g1 h2 ⊢
    rw [hlf] at g2 hlm ⊢
    clear hlg hlf
    have y1 : decide ((n : Int) < 1) = false := by simp; omega
    have y2 : decide (lg < n) = false := by simp; omega
    go_wp2_with (go_at_call 20; refine AL.mono ?_; rintro e w5 ⟨rfl, H5, G5⟩; clear AL)
    have D5 := grown_own D4 G5 (Nat.le_refl _)
    clear G5 D4 H4
    go_loopw [13] (fun i wr => ∃ j : Nat, a ≤ j ∧ j ≤ a + n ∧ i = .int .i64 j ∧ Has 58 wr (w.heap.size + 1) w.heap.size (mark f a n a) (k + 1) ∧ Below w.heap.size w wr) (fun i _ => a + n - (intOf i).toNat)
    case atStart => exact ⟨a, Nat.le_refl _, by omega, rfl, H5, D5⟩
    case round =>
      obtain ⟨j, hj1, hj2, rfl, HR, DR⟩ := hrel
      clear H5 D5
      by_cases hlt : j < a + n
      · have GA := group_any HR HG2.out j
        obtain ⟨q1, q2, q3⟩ := HGR.out j hj1 hlt
        rw [q1, q2, q3] at GA
        clear q1 q2 q3
        go_wp2_with (go_at_call 18; refine GA.mono ?_; rintro e w6 ⟨rfl, B6⟩)
        go_roundw
        case rel => exact ⟨j + 1, by omega, by omega, by go_num, HR.later B6, DR.trans (B6.mono DR.size)⟩
        case measure => simp [intOf]; omega
      · obtain rfl : j = a + n := by omega
        have L1 := left_ok HR
        rw [hlm] at L1
        go_wp2_with (first
          | (go_at_call 19; refine FR.mono ?_; rintro e w7 ⟨rfl, H7, G7⟩; clear FR; have L2 := longest_ok H7; rw [HLG.out] at L2)
          | (go_at_call 23; refine L2.mono ?_; rintro e w8 ⟨rfl, B8⟩; have H8 := H7.later B8; have L3 := left_ok H8; rw [HLF.out] at L3; clear L2 H7)
          | (go_at_call 22; refine L1.mono ?_; rintro e w6 ⟨rfl, B6⟩; clear L1; have FR := free_any (HR.later B6) HG2.out a; rw [HFE.out.1, HFE.out.2] at FR)
          | (go_at_call 22; refine L3.mono ?_; rintro e w9 ⟨rfl, B9⟩))
        go_ret
        have D7 := grown_own (DR.trans (B6.mono DR.size)) G7 (Nat.le_refl _)
        have D8 := D7.trans (B8.mono D7.size)
        exact ⟨rfl, D8.trans (B9.mono D8.size)⟩


set_option maxRecDepth 100000 in
theorem lifted (os : Os) (started : os.Started) (H : Type) (enc : TypeId × Value → H) :
    ReturnsInHanded {} Try.checked os 6 .any (Rows.poolFitsSpec.pre6 enc Try.prog Try.f6 Rows.poolFitsRow.domain false) (Rows.poolFitsSpec.post enc Try.prog Try.f6 false true false false) := by
  refine returnsInHanded_of_change (C := Try.checked) own started (by kernel_rfl) Try.func6
    (ChangeSpec.witness6 (enc := enc) (C := Try.checked) false ⟨#[], #[.int .u8 0, .slice none 0 0, .int .i64 0], []⟩ 8 (by kernel_rfl) (by kernel_rfl) (by kernel_rfl) (by kernel_rfl)) ?_
  intro W base args ds gs before hval0 hW hcnd _
  have hval : ∀ (j : Nat) t v, Try.f6.params[j]? = some t → args[j]? = some v → Value.okWide Try.prog W .any base t v := hval0
  have hW' := hW
  obtain ⟨p, q, hA0, hV, rfl, hfz, hnd⟩ := hW
  have hA : DataW.TrodAll enc Try.prog W 0 (fun _ => true) true Try.f6.params.toList args.toList ds p := hA0
  rw [Try.params6] at hA hval
  obtain ⟨v0, vs0, d0, ds0, p0, q0, hargs, rfl, rfl, h0, r0⟩ := trodAll_cons hA
  obtain ⟨v1, vs1, d1, ds1, p1, q1, rfl, rfl, rfl, h1, r1⟩ := trodAll_cons r0
  obtain ⟨v2, vs2, d2, ds2, p2, q2, rfl, rfl, rfl, h2, r2⟩ := trodAll_cons r1
  obtain ⟨rfl, rfl, rfl⟩ := trodAll_nil r2
  obtain rfl : args = #[v0, v1, v2] := by cases args; simp_all
  obtain ⟨rfl, rfl⟩ := trodVars_none hV
  have t0 := h0
  have lt0 : ∀ x ∈ p0, x.block < W.heap.size := by obtain ⟨m, hm⟩ := t0; exact DataW.trod_lt m _ _ _ hm
  obtain ⟨a0, rfl, hd0, hp0, w0⟩ := open_int Try.underlying5 (hval 0 5 v0 rfl rfl) h0
  have t1 := h1
  have lt1 : ∀ x ∈ p1, x.block < W.heap.size := by obtain ⟨m, hm⟩ := t1; exact DataW.trod_lt m _ _ _ hm
  obtain ⟨ad1, len1, cap1, rfl⟩ := okWide_slice Try.underlying22 (hval 1 22 v1 rfl rfl)
  have w1 := open_acts h1
  have t2 := h2
  have lt2 : ∀ x ∈ p2, x.block < W.heap.size := by obtain ⟨m, hm⟩ := t2; exact DataW.trod_lt m _ _ _ hm
  obtain ⟨a2, rfl, hd2, hp2, w2⟩ := open_int Try.underlying3 (hval 2 3 v2 rfl rfl) h2
  clear hA0 hval0
  refine (walk a0 ad1 len1 cap1 a2 W (bounds_u8 w0) w1 (bounds_i64 w2)).mono fun e W' ⟨he, bel⟩ => ?_
  subst he
  exact ⟨_, rfl, _, _, _, [], _, [], hW', trodAll_mk1 (shut_bool Try.underlying4 _), (trodAll_cons_mk (Below.trod laidOut (by kernel_rfl) (of_decide_eq_true (by kernel_rfl)) t0 bel lt0) (trodAll_cons_mk (Below.trod laidOut (by kernel_rfl) (of_decide_eq_true (by kernel_rfl)) t1 bel lt1) (trodAll_cons_mk (Below.trod laidOut (by kernel_rfl) (of_decide_eq_true (by kernel_rfl)) t2 bel lt2) trodAll_mk0))), rfl, bel.frame _, fun h => by cases h⟩

theorem over : Rows.poolFitsRow.holds Try.pinned (OpenSpec.ofChange Rows.poolFitsSpec) :=
  OpenClaim.holds_of_wide 6 Try.f6 rfl rfl rfl rfl rfl rfl rfl ⟨rfl, rfl, rfl, rfl, rfl⟩ rfl rfl rfl rfl rfl (by kernel_rfl) Try.func6 (by kernel_rfl)
    (of_decide_eq_true (by kernel_rfl)) (by unfold Func.isWrapper; first | (rw [if_pos (by decide +kernel)]; kernel_rfl) | (rw [if_neg (by decide +kernel)]; exact ⟨rfl, rfl⟩))
    (fun os started H enc _ => lifted os started H enc)
end Go.Proofs.Ytaeehhonahhelaa.poolFits

namespace Go.Proofs.Ytaeehhonahhelaa
theorem poolFits_holds : Rows.PoolFitsSaid := poolFits.over
#print axioms poolFits_holds
end Go.Proofs.Ytaeehhonahhelaa
