/-
  The statement ArenaDoes: for every number of words and every list of calls, every call of an arena is answered as the document says (the first sixty of them), and an arena of at most 4096 words holds behind them what the document says.
  Conditions: none on the input.
-/
import Derived.Test.YtldcjbdhcciieaaLists
import Derived.Test.YtldcjbdhcciieaaBoth
namespace Go.Proofs.Ytldcjbdhcciieaa.arenaDoes
open Go.ChangeShapes Go.WideShapes Go.ChangeAt Go.RowKit
set_option linter.unusedVariables false

theorem pair_made {w w1 w2 w3 : World} {xs : List Int} (H1 : Has 52 w1 (w.heap.size + 1) w.heap.size xs) (H2 : Has 38 w2 (w1.heap.size + 1) w1.heap.size xs) (B2 : Below w1.heap.size w1 w2) (B3 : Below w2.heap.size w2 w3) (hp : 0 < xs.length) :
    Pair w3 (w.heap.size + 1) w.heap.size (w1.heap.size + 1) w1.heap.size xs := by
  have l1 := H1.lt
  exact ⟨(H1.later B2).later B3, H2.later B3, hp, by omega, by omega, by omega⟩
theorem below3 {w w1 w2 w3 : World} (B1 : Below w.heap.size w w1) (B2 : Below w1.heap.size w1 w2) (B3 : Below w2.heap.size w2 w3) : Below w.heap.size w w3 :=
  (B1.trans (B2.mono B1.size)).trans (B3.mono (Nat.le_trans B1.size B2.size))
theorem old_cells {w wr : World} {B O i : Nat} {k0 k1 k2 k3 k4 : Int} (h : ∀ j v, (actCells k0 k1 k2 k3 k4)[j]? = some v → w.cell? ⟨B, O + i * 5 + j, none⟩ = some v) (hb : Below w.heap.size w wr) :
    wr.cell? ⟨B, O + i * 5, none⟩ = some (.int .i64 k0) ∧ wr.cell? ⟨B, O + i * 5 + 1, none⟩ = some (.int .i64 k1) ∧ wr.cell? ⟨B, O + i * 5 + 2, none⟩ = some (.int .i64 k2) ∧ wr.cell? ⟨B, O + i * 5 + 3, none⟩ = some (.int .i64 k3) ∧ wr.cell? ⟨B, O + i * 5 + 4, none⟩ = some (.int .u64 k4) := by
  have z : B < w.heap.size := World.block_lt_of_cell? _ _ (h 0 _ rfl)
  have e : ∀ o, wr.cell? ⟨B, o, none⟩ = w.cell? ⟨B, o, none⟩ := fun o => hb.cell (p := ⟨B, o, none⟩) z
  exact ⟨(e _).trans (h 0 _ rfl), (e _).trans (h 1 _ rfl), (e _).trans (h 2 _ rfl), (e _).trans (h 3 _ rfl), (e _).trans (h 4 _ rfl)⟩
set_option maxHeartbeats 4000000 in
theorem walk_no (a0 : Int) (ad : Option Addr) (len cap : Nat) (w : World) (h : ¬ (1 ≤ a0 ∧ a0 ≤ 524288)) :
    Calls Try.prog 3 #[.int .i64 a0, .slice ad len cap] w fun e w' => e = .returned (.bool true) ∧ Below w.heap.size w w' := by
  go_enter Try.func3, Try.ntmps3
  go_wp2_with (first | (go_at_call 8; refine (new_no a0 w h).mono ?_; rintro e w1 ⟨rfl, hw⟩; rw [hw]; clear hw) | (go_at_call 9; refine (refNew_no a0 w h).mono ?_; rintro e w1 ⟨rfl, hw⟩; rw [hw]; clear hw) | (go_at_call 10; refine (awake_any _).mono ?_; rintro e w2 ⟨rfl, B⟩))
  go_ret
  exact ⟨rfl, B⟩
set_option maxHeartbeats 8000000 in
theorem walk_ok (n : Nat) (ad : Option Addr) (len cap : Nat) (w : World) (h1 : 1 ≤ n) (h2 : n ≤ 524288) (hl : IsActs w ad len) :
    Calls Try.prog 3 #[.int .i64 n, .slice ad len cap] w fun e w' => e = .returned (.bool true) ∧ Below w.heap.size w w' := by
  have hm : len ≤ 9223372036854775807 := by have := hl.1; unfold maxLen at this; exact this
  have hpos : 0 < (List.replicate n (0 : Int)).length := by simp; omega
  have HL : Hid (IsActs w ad len) := hl
  clear hl
  go_enter Try.func3, Try.ntmps3
  go_wp2_with (first | (go_at_call 8; refine (new_ok n w h1 h2).mono ?_; rintro e w1 ⟨rfl, H1, B1⟩) | (go_at_call 9; refine (refNew_ok n w1 h1 h2).mono ?_; rintro e w2 ⟨rfl, H2, B2⟩) | (go_at_call 10; refine (awake_any w2).mono ?_; rintro e w3 ⟨rfl, B3⟩; have P3 := pair_made H1 H2 B2 B3 hpos; have B := below3 B1 B2 B3; clear H1 H2 B2 B3))
  have c1 : w.heap.size ≤ w1.heap.size := B1.size
  clear B1
  go_loopw [9] (fun i wr => ∃ (k : Nat) (ys : List Int), k ≤ len ∧ k ≤ 60 ∧ i = .int .i64 k ∧ ys.length = n ∧ Pair wr (w.heap.size + 1) w.heap.size (w1.heap.size + 1) w1.heap.size ys ∧ Below w.heap.size w wr) (fun i _ => 60 - (intOf i).toNat)
  case atStart => exact ⟨0, _, Nat.zero_le _, Nat.zero_le _, rfl, by simp, P3, B⟩
  case round =>
    obtain ⟨k, ys, hk, hk6, rfl, hy, P, Br⟩ := hrel
    have HY : Hid (ys.length = n) := hy
    have HB : Hid (Below w.heap.size w w3) := B
    clear hy P3 B
    by_cases hlt : k < len ∧ k < 60
    · obtain ⟨BB, OO, k0, k1, k2, k3, k4, rfl, hcells, hb1, hb2⟩ := HL.out.2 k hlt.1
      obtain ⟨c0, c1', c2, c3, c4⟩ := old_cells hcells Br
      have z1 := hlt.1
      have z2 := hlt.2
      have D := do_any P k0 k1 k2 k3 k4 hb1.2 hb2.2
      clear hlt hcells hb1 hb2
      go_wp2_with (go_at_call 11; refine D.mono ?_; rintro e w4 ⟨rfl, zs, hz, P4, hB4⟩)
      go_roundw
      case rel => exact ⟨k + 1, zs, by omega, by omega, by go_num, hz.trans HY.out, P4, Br.trans (hB4 _ (Nat.le_refl _) c1 Br.size)⟩
      case measure => simp [intOf]; omega
    · have cx := P.x.cell
      have S := same_any P
      have hy := HY.out
      rw [hy] at cx S
      clear hy
      by_cases hbig : (4096 : Int) < n
      · rcases (by omega : k = len ∨ (k < len ∧ k = 60)) with rfl | ⟨z1, rfl⟩
        · go_wp2
          go_ret
          exact ⟨rfl, Br⟩
        · have z2 : (60 : Int) < len := by omega
          go_wp2
          go_ret
          exact ⟨rfl, Br⟩
      · have hs : (n : Int) ≤ 4096 := by omega
        rcases (by omega : k = len ∨ (k < len ∧ k = 60)) with rfl | ⟨z1, rfl⟩
        · go_wp2_with (go_at_call 12; refine S.mono ?_; rintro e w4 ⟨rfl, hw⟩; rw [hw]; clear hw)
          go_ret
          exact ⟨rfl, Br⟩
        · have z2 : (60 : Int) < len := by omega
          go_wp2_with (go_at_call 12; refine S.mono ?_; rintro e w4 ⟨rfl, hw⟩; rw [hw]; clear hw)
          go_ret
          exact ⟨rfl, Br⟩
theorem walk (a0 : Int) (ad : Option Addr) (len cap : Nat) (w : World) (b0 : -9223372036854775808 ≤ a0 ∧ a0 ≤ 9223372036854775807) (hl : IsActs w ad len) :
    Calls Try.prog 3 #[.int .i64 a0, .slice ad len cap] w fun e w' => e = .returned (.bool true) ∧ Below w.heap.size w w' := by
  by_cases h : 1 ≤ a0 ∧ a0 ≤ 524288
  · obtain ⟨n, rfl⟩ := Int.eq_ofNat_of_zero_le (show 0 ≤ a0 by omega)
    exact walk_ok n ad len cap w (by omega) (by omega) hl
  · exact walk_no a0 ad len cap w h

set_option maxRecDepth 100000 in
theorem lifted (os : Os) (started : os.Started) (H : Type) (enc : TypeId × Value → H) :
    ReturnsInHanded {} Try.checked os 3 .any (Rows.arenaDoesSpec.pre6 enc Try.prog Try.f3 Rows.arenaDoesRow.domain false) (Rows.arenaDoesSpec.post enc Try.prog Try.f3 false true false false) := by
  refine returnsInHanded_of_change (C := Try.checked) own started (by kernel_rfl) Try.func3
    (ChangeSpec.witness6 (enc := enc) (C := Try.checked) false ⟨#[], #[.int .i64 0, .slice none 0 0], []⟩ 8 (by kernel_rfl) (by kernel_rfl) (by kernel_rfl) (by kernel_rfl)) ?_
  intro W base args ds gs before hval0 hW hcnd _
  have hval : ∀ (j : Nat) t v, Try.f3.params[j]? = some t → args[j]? = some v → Value.okWide Try.prog W .any base t v := hval0
  have hW' := hW
  obtain ⟨p, q, hA0, hV, rfl, hfz, hnd⟩ := hW
  have hA : DataW.TrodAll enc Try.prog W 0 (fun _ => true) true Try.f3.params.toList args.toList ds p := hA0
  rw [Try.params3] at hA hval
  obtain ⟨v0, vs0, d0, ds0, p0, q0, hargs, rfl, rfl, h0, r0⟩ := trodAll_cons hA
  obtain ⟨v1, vs1, d1, ds1, p1, q1, rfl, rfl, rfl, h1, r1⟩ := trodAll_cons r0
  obtain ⟨rfl, rfl, rfl⟩ := trodAll_nil r1
  obtain rfl : args = #[v0, v1] := by cases args; simp_all
  obtain ⟨rfl, rfl⟩ := trodVars_none hV
  have t0 := h0
  have lt0 : ∀ x ∈ p0, x.block < W.heap.size := by obtain ⟨m, hm⟩ := t0; exact DataW.trod_lt m _ _ _ hm
  obtain ⟨a0, rfl, hd0, hp0, w0⟩ := open_int Try.underlying3 (hval 0 3 v0 rfl rfl) h0
  have t1 := h1
  have lt1 : ∀ x ∈ p1, x.block < W.heap.size := by obtain ⟨m, hm⟩ := t1; exact DataW.trod_lt m _ _ _ hm
  obtain ⟨ad1, len1, cap1, rfl⟩ := okWide_slice Try.underlying22 (hval 1 22 v1 rfl rfl)
  have w1 := open_acts h1
  clear hA0 hval0
  refine (walk a0 ad1 len1 cap1 W (bounds_i64 w0) w1).mono fun e W' ⟨he, bel⟩ => ?_
  subst he
  exact ⟨_, rfl, _, _, _, [], _, [], hW', trodAll_mk1 (shut_bool Try.underlying4 _), (trodAll_cons_mk (Below.trod laidOut (by kernel_rfl) (of_decide_eq_true (by kernel_rfl)) t0 bel lt0) (trodAll_cons_mk (Below.trod laidOut (by kernel_rfl) (of_decide_eq_true (by kernel_rfl)) t1 bel lt1) trodAll_mk0)), rfl, bel.frame _, fun h => by cases h⟩

theorem over : Rows.arenaDoesRow.holds Try.pinned (OpenSpec.ofChange Rows.arenaDoesSpec) :=
  OpenClaim.holds_of_wide 3 Try.f3 rfl rfl rfl rfl rfl rfl rfl ⟨rfl, rfl, rfl, rfl, rfl⟩ rfl rfl rfl rfl rfl (by kernel_rfl) Try.func3 (by kernel_rfl)
    (of_decide_eq_true (by kernel_rfl)) (by unfold Func.isWrapper; first | (rw [if_pos (by decide +kernel)]; kernel_rfl) | (rw [if_neg (by decide +kernel)]; exact ⟨rfl, rfl⟩))
    (fun os started H enc _ => lifted os started H enc)
end Go.Proofs.Ytldcjbdhcciieaa.arenaDoes

namespace Go.Proofs.Ytldcjbdhcciieaa
theorem arenaDoes_holds : Rows.ArenaDoesSaid := arenaDoes.over
#print axioms arenaDoes_holds
end Go.Proofs.Ytldcjbdhcciieaa
