/-
  The statement PoolDoes: for every number of blocks and every list of calls, each call of a pool is answered as the document's own pool answers it, and all that is told behind them is alike.
  Conditions: none on the input.
-/
import Derived.Test.YtaeehhonahhelaaBoth
import Derived.Test.YtaeehhonahhelaaRefNew
namespace Go.Proofs.Ytaeehhonahhelaa.poolDoes
open Go.ChangeShapes Go.WideShapes Go.ChangeAt Go.RowKit
set_option linter.unusedVariables false

theorem both_new {w w1 w2 w3 : World} {n c d : Nat} (H1 : Has 58 w1 (w.heap.size + 1) w.heap.size (fun _ => -1) n) (hc : w1.heap.size < c) (X2 : Ref w2 w1.heap.size c (fun _ => -1) n d) (B2 : Below w1.heap.size w1 w2) (B3 : Below w2.heap.size w2 w3) :
    Both w3 (w.heap.size + 1) w.heap.size w1.heap.size c (fun _ => -1) n d :=
  ⟨(H1.later B2).later B3, X2.later B3, good_new n, by have := H1.lt; omega, by have := H1.lt; omega, by have := H1.lt; omega⟩

set_option maxRecDepth 100000 in
set_option maxHeartbeats 8000000 in
theorem walk (n : Int) (ad : Option Addr) (len cap : Nat) (w : World) (hn : -9223372036854775808 ≤ n ∧ n ≤ 9223372036854775807) (hl : IsActs w ad len) :
    Calls Try.prog 3 #[.int .i64 n, .slice ad len cap] w fun e w' => e = .returned (.bool true) ∧ Below w.heap.size w w' := by
  by_cases hh : 1 ≤ n ∧ n ≤ 4096
  · obtain ⟨k, rfl⟩ : ∃ k : Nat, n = k := ⟨n.toNat, by omega⟩
    have NW := new_ok k w (by omega) (by omega)
    have hm : len ≤ 9223372036854775807 := by have := hl.1; unfold maxLen at this; exact this
    have HL : Hid (IsActs w ad len) := hl
    have HK : Hid (1 ≤ k ∧ k ≤ 4096) := ⟨by omega, by omega⟩
    clear hl hn hh
    go_enter Try.func3, Try.ntmps3
    go_wp2_with (first
      | (go_at_call 9; refine NW.mono ?_; clear NW; rintro e w1 ⟨rfl, H1, B1⟩)
      | (go_at_call 10; refine (rnew_ok k w1 HK.out.1 HK.out.2).mono ?_; rintro e w2 ⟨rfl, ⟨c, d, hc, X2⟩, B2⟩)
      | (go_at_call 11; refine (awake_any w2).mono ?_; rintro e w3 ⟨rfl, B3⟩))
    have P3 : Hid (Both w3 (w.heap.size + 1) w.heap.size w1.heap.size c (fun _ => -1) k d ∧ Below w.heap.size w w3) := ⟨both_new H1 hc X2 B2 B3, by
      have D2 := B1.trans (B2.mono B1.size)
      exact D2.trans (B3.mono D2.size)⟩
    have hcc : Hid (w.heap.size ≤ c) := by have := B1.size; show _ ≤ _; omega
    clear H1 hc X2 B1 B2 B3
    obtain ⟨q, hq⟩ : ∃ q, w1.heap.size = q := ⟨_, rfl⟩
    rw [hq] at P3 ⊢
    clear hq
    go_loopw [9] (fun i wr => ∃ j : Nat, j ≤ len ∧ j ≤ 200 ∧ i = .int .i64 j ∧ Hid (∃ f, Both wr (w.heap.size + 1) w.heap.size q c f k d ∧ Below w.heap.size w wr)) (fun i _ => 200 - (intOf i).toNat)
    case atStart => exact ⟨0, Nat.zero_le _, Nat.zero_le _, rfl, ⟨_, P3.out⟩⟩
    case round =>
      obtain ⟨j, hj, hj2, rfl, HX⟩ := hrel
      clear P3
      obtain ⟨f, P, B⟩ := HX.out
      by_cases hlt : j < len ∧ j < 200
      · obtain ⟨BB, OO, k0, k1, rfl, c0, c1, b0, b1⟩ := HL.out.2 j hlt.1
        have c0 := old_cells c0 B
        have c1 := old_cells c1 B
        have z1 := hlt.1
        have z2 := hlt.2
        have A := do_any P k0 k1 b1.2
        have HB : Hid (Below w.heap.size w wr) := B
        clear hlt b0 b1 P B HX
        go_wp2_with (go_at_call 12; refine A.mono ?_; rintro e w4 ⟨rfl, HL2⟩)
        have HY : Hid (∃ f, Both w4 (w.heap.size + 1) w.heap.size q c f k d ∧ Below w.heap.size w w4) := by
          obtain ⟨f', P4, B4⟩ := HL2
          exact ⟨f', P4, HB.out.trans (B4 _ (Nat.le_refl _) hcc.out HB.out.size)⟩
        clear HL2
        go_wp2
        go_roundw
        case rel => exact ⟨j + 1, by omega, by omega, by go_num, HY⟩
        case measure => simp [intOf]; omega
      · have TA := told_all P
        have HB : Hid (Below w.heap.size w wr) := B
        have ex : len ≤ j ∨ (j < len ∧ 200 ≤ j) := by omega
        clear hlt P B HX
        rcases ex with g1 | ⟨g1, g2⟩
        all_goals go_wp2_with (go_at_call 13; refine TA.mono ?_; rintro e w4 ⟨rfl, B4⟩)
        all_goals go_ret
        all_goals exact ⟨rfl, HB.out.trans (B4.mono HB.out.size)⟩
  · have NW := new_no n w hh
    have RW := rnew_no n w hh
    clear hh hn hl
    go_enter Try.func3, Try.ntmps3
    go_wp2_with (first
      | (go_at_call 9; refine NW.mono ?_; clear NW; rintro e w1 ⟨rfl, hw⟩; rw [hw]; clear hw)
      | (go_at_call 10; refine RW.mono ?_; rintro e w2 ⟨rfl, hw⟩; rw [hw]; clear hw)
      | (go_at_call 11; refine (awake_any w).mono ?_; rintro e w3 ⟨rfl, B3⟩))
    go_ret
    exact ⟨rfl, B3⟩


set_option maxRecDepth 100000 in
theorem lifted (os : Os) (started : os.Started) (H : Type) (enc : TypeId × Value → H) :
    ReturnsInHanded {} Try.checked os 3 .any (Rows.poolDoesSpec.pre6 enc Try.prog Try.f3 Rows.poolDoesRow.domain false) (Rows.poolDoesSpec.post enc Try.prog Try.f3 false true false false) := by
  refine returnsInHanded_of_change (C := Try.checked) own started (by kernel_rfl) Try.func3
    (ChangeSpec.witness6 (enc := enc) (C := Try.checked) false ⟨#[], #[.int .i64 0, .slice none 0 0], []⟩ 8 (by kernel_rfl) (by kernel_rfl) (by kernel_rfl) (by kernel_rfl)) ?_
  intro W base args ds gs before hval0 hW hcnd _
  have hval : ∀ (j : Nat) t v, Try.f3.params[j]? = some t → args[j]? = some v → Value.okWide Try.prog W .any base t v := hval0
  have hW' := hW
  obtain ⟨p, q, hA0, hV, rfl, hfz, hnd⟩ := hW
  have hA : DataW.TrodAll enc Try.prog W 0 (fun _ => true) true Try.f3.params.toList args.toList ds p := hA0
  rw [Try.params3] at hA hval
  obtain ⟨v0, vs0, d0, ds0, p0, q0, hargs, rfl, rfl, h0, r0⟩ := trodAll_cons hA
  obtain ⟨v1, vs1, d1, ds1, p1, q1, rfl, rfl, rfl, h1, r1⟩ := trodAll_cons r0
  obtain ⟨rfl, rfl, rfl⟩ := trodAll_nil r1
  obtain rfl : args = #[v0, v1] := by cases args; simp_all
  obtain ⟨rfl, rfl⟩ := trodVars_none hV
  have t0 := h0
  have lt0 : ∀ x ∈ p0, x.block < W.heap.size := by obtain ⟨m, hm⟩ := t0; exact DataW.trod_lt m _ _ _ hm
  obtain ⟨a0, rfl, hd0, hp0, w0⟩ := open_int Try.underlying3 (hval 0 3 v0 rfl rfl) h0
  have t1 := h1
  have lt1 : ∀ x ∈ p1, x.block < W.heap.size := by obtain ⟨m, hm⟩ := t1; exact DataW.trod_lt m _ _ _ hm
  obtain ⟨ad1, len1, cap1, rfl⟩ := okWide_slice Try.underlying22 (hval 1 22 v1 rfl rfl)
  have w1 := open_acts h1
  clear hA0 hval0
  refine (walk a0 ad1 len1 cap1 W (bounds_i64 w0) w1).mono fun e W' ⟨he, bel⟩ => ?_
  subst he
  exact ⟨_, rfl, _, _, _, [], _, [], hW', trodAll_mk1 (shut_bool Try.underlying4 _), (trodAll_cons_mk (Below.trod laidOut (by kernel_rfl) (of_decide_eq_true (by kernel_rfl)) t0 bel lt0) (trodAll_cons_mk (Below.trod laidOut (by kernel_rfl) (of_decide_eq_true (by kernel_rfl)) t1 bel lt1) trodAll_mk0)), rfl, bel.frame _, fun h => by cases h⟩

theorem over : Rows.poolDoesRow.holds Try.pinned (OpenSpec.ofChange Rows.poolDoesSpec) :=
  OpenClaim.holds_of_wide 3 Try.f3 rfl rfl rfl rfl rfl rfl rfl ⟨rfl, rfl, rfl, rfl, rfl⟩ rfl rfl rfl rfl rfl (by kernel_rfl) Try.func3 (by kernel_rfl)
    (of_decide_eq_true (by kernel_rfl)) (by unfold Func.isWrapper; first | (rw [if_pos (by decide +kernel)]; kernel_rfl) | (rw [if_neg (by decide +kernel)]; exact ⟨rfl, rfl⟩))
    (fun os started H enc _ => lifted os started H enc)
end Go.Proofs.Ytaeehhonahhelaa.poolDoes

namespace Go.Proofs.Ytaeehhonahhelaa
theorem poolDoes_holds : Rows.PoolDoesSaid := poolDoes.over
#print axioms poolDoes_holds
end Go.Proofs.Ytaeehhonahhelaa
