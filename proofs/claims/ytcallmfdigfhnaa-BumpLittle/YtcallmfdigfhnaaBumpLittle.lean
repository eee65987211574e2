/-
  The statement BumpLittle: a space has at most one block more than twice as many as its words need.
  Conditions: none on the input.
-/
import Derived.Test.YtcallmfdigfhnaaActs
import Derived.Test.YtcallmfdigfhnaaBpi
namespace Go.Proofs.Ytcallmfdigfhnaa.bumpLittle
open Go.ChangeShapes Go.WideShapes Go.ChangeAt Go.RowKit
set_option linter.unusedVariables false

set_option maxRecDepth 100000 in
set_option maxHeartbeats 8000000 in
theorem walk (a0 : Int) (ad : Option Addr) (len cap : Nat) (w : World) (h0 : 0 ≤ a0 ∧ a0 ≤ 255) (hl : IsActs w ad len) :
    Calls Try.prog 5 #[.int .u8 a0, .slice ad len cap] w fun e w' => e = .returned (.bool true) ∧ Below w.heap.size w w' := by
  obtain ⟨n, rfl⟩ : ∃ n : Nat, a0 = n := ⟨a0.toNat, by omega⟩
  have hm : len ≤ 9223372036854775807 := by have := hl.1; unfold maxLen at this; exact this
  have HL := Hid.mk hl
  clear hl
  have MD := made_any w (n + 2) ((n + 2) * 64) (by omega) (by omega) (by omega) (by omega)
  rw [show ((n + 2 : Nat) : Int) = (n : Int) + 2 by omega, show (((n + 2) * 64 : Nat) : Int) = ((n : Int) + 2) * 64 by omega] at MD
  go_enter Try.func5, Try.ntmps5
  go_wp2_with (first
    | (go_at_call 8; refine MD.mono ?_; rintro e w1 ⟨q, p, pb, a, ab, y, yb, c, s, m, x, rfl, D⟩; unfold pt; have HD := Hid.mk D; have AW := awake_any w1; clear D MD)
    | (go_at_call 9; refine AW.mono ?_; rintro e w2 ⟨rfl, B2⟩; have D2 := HD.out.later B2; have k2 := D2.c2 rfl; have HY := Hid.mk (D2.sy (f1_good _) (by simp) 0 (by omega)); have HB := Hid.mk D2.bel; have hh := D2.hi 0 (by omega); have uu := D2.up; have lo := D2.lo; have lq := D2.ltq; clear AW D2))
  have nn : Hid (w.heap.size ≤ w2.heap.size ∧ w.heap.size ≤ s 0 ∧ w.heap.size ≤ m 0 ∧ w.heap.size ≤ pb ∧ w.heap.size ≤ ab) := ⟨by omega⟩
  clear hh uu lo lq HD B2
  generalize s 0 = s0 at *
  generalize m 0 = m0 at *
  generalize hN : n + 2 = N at *
  generalize hBB : w2.heap.size = B at *
  go_loopw [7] (fun i wr => ∃ (k : Nat) (v : Value) (S : S0) (f : Nat → Int) (xs : List Int), k ≤ len ∧ k ≤ 200 ∧ i = .int .i64 (k : Int) ∧ Hid (Sy B wr s0 p a m0 pb ab N (N * 64) v S f xs) ∧ Hid (Few S ∧ S.l.length ≤ k) ∧ Hid (Below w.heap.size w wr)) (fun i _ => 200 - (intOf i).toNat)
  case atStart => exact ⟨0, _, _, _, _, Nat.zero_le _, Nat.zero_le _, rfl, HY, ⟨few_none, by simp [S0.none]⟩, HB⟩
  case round =>
    obtain ⟨k, v, S, f, xs, hk, hk2, rfl, HYr, HF, HBr⟩ := hrel
    clear HY HB k2
    by_cases hlt : k < len ∧ k < 200
    · obtain ⟨BB, OO, x0, x1, b, rfl, c0, c1, c2, b0, b1⟩ := HL.out.2 k hlt.1
      have c1 := old_cells c1 HBr.out
      have z1 := hlt.1
      have z2 := hlt.2
      clear hlt c0 c2 b0 b1
      have LY := HYr.out.lay (by have := HF.out.2; omega) x1
      have fl := few_lay (f := f) (N := N) (M := N * 64) HF.out.1 x1
      have ll := lay_len (f := f) (N := N) (M := N * 64) (S := S) x1
      have fe := few_end fl
      have HFL := Hid.mk fl
      have HLL : Hid ((layS f N (N * 64) S x1).l.length ≤ k + 1) := ⟨by have := HF.out.2; omega⟩
      have ft := (fit_lay (f := f) (N := N) HYr.out.fit x1).us
      have fb := (fit_lay (f := f) (N := N) HYr.out.fit x1).bl
      have l1 : (layS f N (N * 64) S x1).l.length ≤ 201 := by have := HLL.out; omega
      clear fl ll
      generalize layS f N (N * 64) S x1 = S' at *
      obtain ⟨U, hU⟩ : ∃ U, S'.us = U := ⟨_, rfl⟩
      obtain ⟨L, hL⟩ : ∃ L, S'.bl = L := ⟨_, rfl⟩
      rw [hU] at ft fe
      rw [hL] at fb fe
      have u1 : U ≤ 823296 := by omega
      have u2 : L ≤ 12864 := by omega
      have td : ((U : Int) + 64 - 1).tdiv 64 = (((U + 63) / 64 : Nat) : Int) := by rw [Int.tdiv_eq_ediv_of_nonneg (by omega)]; omega
      obtain ⟨T, hT⟩ : ∃ T, (U + 63) / 64 = T := ⟨_, rfl⟩
      have t1 : (T : Int) ≤ 20000 := by omega
      rw [hT] at td fe
      have ge : (L : Int) ≤ 2 * (T : Int) + 1 := by omega
      have HUL := Hid.mk (And.intro hU hL)
      clear hU hL hT ft fb l1
      go_wp2_with (first
        | (go_at_call 13; refine LY.mono ?_; rintro e w3 ⟨rfl, v3, Y3, O3, C3⟩; have BL := blocks_any Y3.sp; have US := used_any Y3.sp; rw [HUL.out.2] at BL; rw [HUL.out.1] at US; have HY3 := Hid.mk Y3; clear Y3 LY)
        | (go_at_call 15; refine BL.mono ?_; rintro e w4 ⟨rfl, hw⟩; rw [hw]; clear hw)
        | (go_at_call 16; refine US.mono ?_; rintro e w4 ⟨rfl, hw⟩; rw [hw]; clear hw))
      go_roundw
      case rel => exact ⟨k + 1, _, S', _, _, by omega, by omega, by go_num, HY3, ⟨HFL.out, HLL.out⟩, ⟨HYr.out.below C3 HBr.out nn.out⟩⟩
      case measure => simp [intOf]; omega
    · by_cases g1 : k < len
      · have g2 : 200 ≤ k := by omega
        clear hlt
        go_wp2
        go_ret
        exact ⟨rfl, HBr.out⟩
      · have g2 : len ≤ k := by omega
        clear hlt
        go_wp2
        go_ret
        exact ⟨rfl, HBr.out⟩


set_option maxRecDepth 100000 in
theorem lifted (os : Os) (started : os.Started) (H : Type) (enc : TypeId × Value → H) :
    ReturnsInHanded {} Try.checked os 5 .any (Rows.bumpLittleSpec.pre6 enc Try.prog Try.f5 Rows.bumpLittleRow.domain false) (Rows.bumpLittleSpec.post enc Try.prog Try.f5 false true false false) := by
  refine returnsInHanded_of_change (C := Try.checked) own started (by kernel_rfl) Try.func5
    (ChangeSpec.witness6 (enc := enc) (C := Try.checked) false ⟨#[], #[.int .u8 0, .slice none 0 0], []⟩ 8 (by kernel_rfl) (by kernel_rfl) (by kernel_rfl) (by kernel_rfl)) ?_
  intro W base args ds gs before hval0 hW hcnd _
  have hval : ∀ (j : Nat) t v, Try.f5.params[j]? = some t → args[j]? = some v → Value.okWide Try.prog W .any base t v := hval0
  have hW' := hW
  obtain ⟨p, q, hA0, hV, rfl, hfz, hnd⟩ := hW
  have hA : DataW.TrodAll enc Try.prog W 0 (fun _ => true) true Try.f5.params.toList args.toList ds p := hA0
  rw [Try.params5] at hA hval
  obtain ⟨v0, vs0, d0, ds0, p0, q0, hargs, rfl, rfl, h0, r0⟩ := trodAll_cons hA
  obtain ⟨v1, vs1, d1, ds1, p1, q1, rfl, rfl, rfl, h1, r1⟩ := trodAll_cons r0
  obtain ⟨rfl, rfl, rfl⟩ := trodAll_nil r1
  obtain rfl : args = #[v0, v1] := by cases args; simp_all
  obtain ⟨rfl, rfl⟩ := trodVars_none hV
  have t0 := h0
  have lt0 : ∀ x ∈ p0, x.block < W.heap.size := by obtain ⟨m, hm⟩ := t0; exact DataW.trod_lt m _ _ _ hm
  obtain ⟨a0, rfl, hd0, hp0, w0⟩ := open_int Try.underlying5 (hval 0 5 v0 rfl rfl) h0
  have t1 := h1
  have lt1 : ∀ x ∈ p1, x.block < W.heap.size := by obtain ⟨m, hm⟩ := t1; exact DataW.trod_lt m _ _ _ hm
  obtain ⟨ad1, len1, cap1, rfl⟩ := okWide_slice Try.underlying23 (hval 1 23 v1 rfl rfl)
  have w1 := open_acts h1
  clear hA0 hval0
  refine (walk a0 ad1 len1 cap1 W (bounds_u8 w0) w1).mono fun e W' ⟨he, bel⟩ => ?_
  subst he
  exact ⟨_, rfl, _, _, _, [], _, [], hW', trodAll_mk1 (shut_bool Try.underlying4 _), (trodAll_cons_mk (Below.trod laidOut (by kernel_rfl) (of_decide_eq_true (by kernel_rfl)) t0 bel lt0) (trodAll_cons_mk (Below.trod laidOut (by kernel_rfl) (of_decide_eq_true (by kernel_rfl)) t1 bel lt1) trodAll_mk0)), rfl, bel.frame _, fun h => by cases h⟩

theorem over : Rows.bumpLittleRow.holds Try.pinned (OpenSpec.ofChange Rows.bumpLittleSpec) :=
  OpenClaim.holds_of_wide 5 Try.f5 rfl rfl rfl rfl rfl rfl rfl ⟨rfl, rfl, rfl, rfl, rfl⟩ rfl rfl rfl rfl rfl (by kernel_rfl) Try.func5 (by kernel_rfl)
    (of_decide_eq_true (by kernel_rfl)) (by unfold Func.isWrapper; first | (rw [if_pos (by decide +kernel)]; kernel_rfl) | (rw [if_neg (by decide +kernel)]; exact ⟨rfl, rfl⟩))
    (fun os started H enc _ => lifted os started H enc)
end Go.Proofs.Ytcallmfdigfhnaa.bumpLittle

namespace Go.Proofs.Ytcallmfdigfhnaa
theorem bumpLittle_holds : Rows.BumpLittleSaid := bumpLittle.over
#print axioms bumpLittle_holds
end Go.Proofs.Ytcallmfdigfhnaa
