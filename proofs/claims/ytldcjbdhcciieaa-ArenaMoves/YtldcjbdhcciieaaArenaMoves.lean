/-
  The statement ArenaMoves: for every number of words and every move, words that are moved are what they were, wherever they come to stand, and all others stay.
  Conditions: none on the input.
-/
import Derived.Test.YtldcjbdhcciieaaSmall
import Derived.Test.YtldcjbdhcciieaaActs
namespace Go.Proofs.Ytldcjbdhcciieaa.arenaMoves
open Go.ChangeShapes Go.WideShapes Go.ChangeAt Go.RowKit
set_option linter.unusedVariables false

/-- The record's own block ahead, the rest of the walk behind it. -/
theorem bound {w wz w3 : World} (h : Below w.heap.size w wz) (h2 : Below wz.heap.size wz w3) : Below w.heap.size w w3 := h.trans (h2.mono h.size)
set_option maxHeartbeats 4000000 in
theorem walk (a0 k0 k1 k2 k3 k4 : Int) (w : World) (b0 : 0 ≤ a0 ∧ a0 ≤ 255) (bk0 : In64 k0) (bk1 : In64 k1) (bk2 : In64 k2) (bk3 : In64 k3) (bk4 : InU64 k4) :
    Calls Try.prog 5 #[.int .u8 a0, .agg (actCells k0 k1 k2 k3 k4).toArray] w fun e w' => e = .returned (.bool true) ∧ Below w.heap.size w w' := by
  obtain ⟨r, hr, hr1⟩ := size_of a0 b0
  have L : (upTo (r + 1)).length = r + 1 := upTo_length _
  have b1 := bk1.2
  have b2 := bk2.2
  clear bk0 bk1 bk2 bk3 bk4
  unfold actCells
  rcases move_cases (upTo (r + 1)) k1 k2 k3 with ⟨hE, hL⟩ | ⟨t, f, c, rfl, rfl, rfl, htc, hfc, hE, hL⟩
  · rw [L] at hE
    obtain ⟨E, hE2⟩ : ∃ E, moveE (r + 1) k1 k2 k3 = E := ⟨_, rfl⟩
    rw [hE2] at hE
    have hE3 : (E != 0) = true := by simpa using hE
    go_enter Try.func5, Try.ntmps5
    go_wp2
    go_region
    have B0 : Below w.heap.size w (w.alloc (Obj.cells #[Value.int IntKind.i64 k0, Value.int IntKind.i64 k1, Value.int IntKind.i64 k2, Value.int IntKind.i64 k3, Value.int IntKind.u64 k4] 34)).drew := by go_grown
    generalize (w.alloc (Obj.cells #[Value.int IntKind.i64 k0, Value.int IntKind.i64 k1, Value.int IntKind.i64 k2, Value.int IntKind.i64 k3, Value.int IntKind.u64 k4] 34)).drew = wz at B0 ⊢
    go_wp2_with (first | (go_at_call 13; refine (filled_next r _ hr1).mono ?_; rintro e w1 ⟨rfl, H1, B1⟩) | (go_at_call 10; refine (awake_any _).mono ?_; rintro e w2 ⟨rfl, B⟩; have H2 := H1.later B; have B2 := B1.trans (B.mono B1.size)) | (go_at_call 16; refine (move_any H2 k1 k2 k3 b1 b2).mono ?_; rintro e w3 ⟨rfl, H3, G3⟩; have B3 := below_grown B2 G3 (Nat.le_refl _); rw [hL] at H3; rw [L, hE2]))
    go_loop [10] (fun i => ∃ k : Nat, k ≤ r + 1 ∧ i = .int .i64 k) (fun i => r + 1 - (intOf i).toNat)
    case atStart => exact ⟨0, Nat.zero_le _, rfl⟩
    case round =>
      obtain ⟨k, hk, rfl⟩ := hrel
      by_cases hlt : k < r + 1
      · have rd := read_any H3 k
        rw [read_upTo (r + 1) k hlt] at rd
        have z3 : (0 : Int) ≤ k := by omega
        have z5 : decide ((k : Int) < 0) = false := by simp
        go_wp2_with (go_at_call 15; refine rd.mono ?_; rintro e w4 ⟨rfl, hw⟩; rw [hw]; clear hw)
        go_round
        case rel => exact ⟨k + 1, by omega, by go_num⟩
        case measure => simp [intOf]; omega
      · obtain rfl : k = r + 1 := by omega
        go_wp2
        go_ret
        exact ⟨rfl, bound B0 B3⟩
  · rw [L] at hE hfc htc
    go_enter Try.func5, Try.ntmps5
    go_wp2
    go_region
    have B0 : Below w.heap.size w (w.alloc (Obj.cells #[Value.int IntKind.i64 k0, Value.int IntKind.i64 (t : Int), Value.int IntKind.i64 (f : Int), Value.int IntKind.i64 (c : Int), Value.int IntKind.u64 k4] 34)).drew := by go_grown
    generalize (w.alloc (Obj.cells #[Value.int IntKind.i64 k0, Value.int IntKind.i64 (t : Int), Value.int IntKind.i64 (f : Int), Value.int IntKind.i64 (c : Int), Value.int IntKind.u64 k4] 34)).drew = wz at B0 ⊢
    go_wp2_with (first | (go_at_call 13; refine (filled_next r _ hr1).mono ?_; rintro e w1 ⟨rfl, H1, B1⟩) | (go_at_call 10; refine (awake_any _).mono ?_; rintro e w2 ⟨rfl, B⟩; have H2 := H1.later B; have B2 := B1.trans (B.mono B1.size)) | (go_at_call 16; refine (move_any H2 t f c b1 b2).mono ?_; rintro e w3 ⟨rfl, H3, G3⟩; have B3 := below_grown B2 G3 (Nat.le_refl _); rw [hL] at H3; rw [L, hE]))
    go_loop [10] (fun i => ∃ k : Nat, k ≤ r + 1 ∧ i = .int .i64 k) (fun i => r + 1 - (intOf i).toNat)
    case atStart => exact ⟨0, Nat.zero_le _, rfl⟩
    case round =>
      obtain ⟨k, hk, rfl⟩ := hrel
      by_cases hlt : k < r + 1
      · have rd := read_any H3 k
        rw [read_moved (r + 1) t f c k htc hfc hlt] at rd
        rcases (by omega : k < t ∨ (t ≤ k ∧ k < t + c) ∨ t + c ≤ k) with h | h | h
        · rw [if_neg (by omega)] at rd
          have z5 : (k : Int) < t := by omega
          go_wp2_with (go_at_call 15; refine rd.mono ?_; rintro e w4 ⟨rfl, hw⟩; rw [hw]; clear hw)
          go_round
          case rel => exact ⟨k + 1, by omega, by go_num⟩
          case measure => simp [intOf]; omega
        · rw [if_pos h] at rd
          have z5 : (t : Int) ≤ k := by omega
          have z6 : (k : Int) - t < c := by omega
          have z7 : (0 : Int) ≤ (f : Int) + k - t := by omega
          have z8 : (f : Int) + k - t ≤ 1000 := by omega
          go_wp2_with (go_at_call 15; refine rd.mono ?_; rintro e w4 ⟨rfl, hw⟩; rw [hw]; clear hw)
          go_round
          case rel => exact ⟨k + 1, by omega, by go_num⟩
          case measure => simp [intOf]; omega
        · rw [if_neg (by omega)] at rd
          have z5 : (t : Int) ≤ k := by omega
          have z6 : ¬ ((k : Int) - t < c) := by omega
          go_wp2_with (go_at_call 15; refine rd.mono ?_; rintro e w4 ⟨rfl, hw⟩; rw [hw]; clear hw)
          go_round
          case rel => exact ⟨k + 1, by omega, by go_num⟩
          case measure => simp [intOf]; omega
      · obtain rfl : k = r + 1 := by omega
        go_wp2
        go_ret
        exact ⟨rfl, bound B0 B3⟩

set_option maxRecDepth 100000 in
theorem lifted (os : Os) (started : os.Started) (H : Type) (enc : TypeId × Value → H) :
    ReturnsInHanded {} Try.checked os 5 .any (Rows.arenaMovesSpec.pre6 enc Try.prog Try.f5 Rows.arenaMovesRow.domain false) (Rows.arenaMovesSpec.post enc Try.prog Try.f5 false true false false) := by
  refine returnsInHanded_of_change (C := Try.checked) own started (by kernel_rfl) Try.func5
    (ChangeSpec.witness6 (enc := enc) (C := Try.checked) false ⟨#[], #[.int .u8 0, .agg #[.int .i64 0, .int .i64 0, .int .i64 0, .int .i64 0, .int .u64 0]], []⟩ 8 (by kernel_rfl) (by kernel_rfl) (by kernel_rfl) (by kernel_rfl)) ?_
  intro W base args ds gs before hval0 hW hcnd _
  have hval : ∀ (j : Nat) t v, Try.f5.params[j]? = some t → args[j]? = some v → Value.okWide Try.prog W .any base t v := hval0
  have hW' := hW
  obtain ⟨p, q, hA0, hV, rfl, hfz, hnd⟩ := hW
  have hA : DataW.TrodAll enc Try.prog W 0 (fun _ => true) true Try.f5.params.toList args.toList ds p := hA0
  rw [Try.params5] at hA hval
  obtain ⟨v0, vs0, d0, ds0, p0, q0, hargs, rfl, rfl, h0, r0⟩ := trodAll_cons hA
  obtain ⟨v1, vs1, d1, ds1, p1, q1, rfl, rfl, rfl, h1, r1⟩ := trodAll_cons r0
  obtain ⟨rfl, rfl, rfl⟩ := trodAll_nil r1
  obtain rfl : args = #[v0, v1] := by cases args; simp_all
  obtain ⟨rfl, rfl⟩ := trodVars_none hV
  have t0 := h0
  have lt0 : ∀ x ∈ p0, x.block < W.heap.size := by obtain ⟨m, hm⟩ := t0; exact DataW.trod_lt m _ _ _ hm
  obtain ⟨a0, rfl, hd0, hp0, w0⟩ := open_int Try.underlying5 (hval 0 5 v0 rfl rfl) h0
  have t1 := h1
  have lt1 : ∀ x ∈ p1, x.block < W.heap.size := by obtain ⟨m, hm⟩ := t1; exact DataW.trod_lt m _ _ _ hm
  obtain ⟨k0, k1, k2, k3, k4, rfl, bk0, bk1, bk2, bk3, bk4⟩ := open_act (hval 1 34 v1 rfl rfl) h1
  clear hA0 hval0
  refine (walk a0 k0 k1 k2 k3 k4 W (bounds_u8 w0) bk0 bk1 bk2 bk3 bk4).mono fun e W' ⟨he, bel⟩ => ?_
  subst he
  exact ⟨_, rfl, _, _, _, [], _, [], hW', trodAll_mk1 (shut_bool Try.underlying4 _), (trodAll_cons_mk (Below.trod laidOut (by kernel_rfl) (of_decide_eq_true (by kernel_rfl)) t0 bel lt0) (trodAll_cons_mk (Below.trod laidOut (by kernel_rfl) (of_decide_eq_true (by kernel_rfl)) t1 bel lt1) trodAll_mk0)), rfl, bel.frame _, fun h => by cases h⟩

theorem over : Rows.arenaMovesRow.holds Try.pinned (OpenSpec.ofChange Rows.arenaMovesSpec) :=
  OpenClaim.holds_of_wide 5 Try.f5 rfl rfl rfl rfl rfl rfl rfl ⟨rfl, rfl, rfl, rfl, rfl⟩ rfl rfl rfl rfl rfl (by kernel_rfl) Try.func5 (by kernel_rfl)
    (of_decide_eq_true (by kernel_rfl)) (by unfold Func.isWrapper; first | (rw [if_pos (by decide +kernel)]; kernel_rfl) | (rw [if_neg (by decide +kernel)]; exact ⟨rfl, rfl⟩))
    (fun os started H enc _ => lifted os started H enc)
end Go.Proofs.Ytldcjbdhcciieaa.arenaMoves

namespace Go.Proofs.Ytldcjbdhcciieaa
theorem arenaMoves_holds : Rows.ArenaMovesSaid := arenaMoves.over
#print axioms arenaMoves_holds
end Go.Proofs.Ytldcjbdhcciieaa
