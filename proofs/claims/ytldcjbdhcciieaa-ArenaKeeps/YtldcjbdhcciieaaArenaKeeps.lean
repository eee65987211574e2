/-
  The statement ArenaKeeps: for every number of words, place and word, a word that is written changes no other one, and is taken just where the place is one of the arena.
  Conditions: none on the input.
-/
import Derived.Test.YtldcjbdhcciieaaSmall
namespace Go.Proofs.Ytldcjbdhcciieaa.arenaKeeps
open Go.ChangeShapes Go.WideShapes Go.ChangeAt Go.RowKit
set_option linter.unusedVariables false

set_option maxHeartbeats 2000000 in
theorem walk (a0 a1 a2 : Int) (w : World) (b0 : 0 ≤ a0 ∧ a0 ≤ 255) (b1 : -9223372036854775808 ≤ a1 ∧ a1 ≤ 9223372036854775807) (b2 : 0 ≤ a2 ∧ a2 ≤ 18446744073709551615) :
    Calls Try.prog 4 #[.int .u8 a0, .int .i64 a1, .int .u64 a2] w fun e w' => e = .returned (.bool true) ∧ Below w.heap.size w w' := by
  obtain ⟨r, hr, hr1⟩ := size_of a0 b0
  have nf := filled_next r w hr1
  have L : (upTo (r + 1)).length = r + 1 := upTo_length _
  go_enter Try.func4, Try.ntmps4
  go_wp2_with (first | (go_at_call 13; refine nf.mono ?_; rintro e w1 ⟨rfl, H1, B1⟩) | (go_at_call 10; refine (awake_any _).mono ?_; rintro e w2 ⟨rfl, B⟩; have H2 := H1.later B; have B2 := B1.trans (B.mono B1.size)) | (go_at_call 14; refine (write_any H2 a1 a2).mono ?_; rintro e w3 ⟨rfl, H3, G3⟩; have B3 := below_grown B2 G3 (Nat.le_refl _)))
  go_loop [10] (fun i => ∃ k : Nat, k ≤ r + 1 ∧ i = .int .i64 k) (fun i => r + 1 - (intOf i).toNat)
  case atStart => exact ⟨0, Nat.zero_le _, rfl⟩
  case round =>
    obtain ⟨k, hk, rfl⟩ := hrel
    by_cases hlt : k < r + 1
    · have rd := read_any H3 k
      rw [read_written (r + 1) k a1 a2 hlt] at rd
      by_cases hi : (k : Int) = a1
      · rw [if_pos hi] at rd
        subst hi
        go_wp2_with (go_at_call 15; refine rd.mono ?_; rintro e w4 ⟨rfl, hw⟩; rw [hw]; clear hw)
        go_round
        case rel => exact ⟨k + 1, by omega, by go_num⟩
        case measure => simp [intOf]; omega
      · rw [if_neg hi] at rd
        go_wp2_with (go_at_call 15; refine rd.mono ?_; rintro e w4 ⟨rfl, hw⟩; rw [hw]; clear hw)
        go_round
        case rel => exact ⟨k + 1, by omega, by go_num⟩
        case measure => simp [intOf]; omega
    · obtain rfl : k = r + 1 := by omega
      rcases (by omega : a1 < 0 ∨ (0 ≤ a1 ∧ a1 < (r : Int) + 1) ∨ (0 ≤ a1 ∧ (r : Int) + 1 ≤ a1)) with h | ⟨h, h'⟩ | ⟨h, hge⟩
      · have E : atE (r + 1) a1 = 4 := by unfold atE; rw [if_neg (by omega)]
        go_wp2
        go_ret
        exact ⟨rfl, B3⟩
      · have E : atE (r + 1) a1 = 0 := by unfold atE; rw [if_pos (by omega)]
        go_wp2
        go_ret
        exact ⟨rfl, B3⟩
      · have E : atE (r + 1) a1 = 4 := by unfold atE; rw [if_neg (by omega)]
        have h' : ¬ (a1 < (r : Int) + 1) := by omega
        go_wp2
        go_ret
        exact ⟨by simp, B3⟩

set_option maxRecDepth 100000 in
theorem lifted (os : Os) (started : os.Started) (H : Type) (enc : TypeId × Value → H) :
    ReturnsInHanded {} Try.checked os 4 .any (Rows.arenaKeepsSpec.pre6 enc Try.prog Try.f4 Rows.arenaKeepsRow.domain false) (Rows.arenaKeepsSpec.post enc Try.prog Try.f4 false true false false) := by
  refine returnsInHanded_of_change (C := Try.checked) own started (by kernel_rfl) Try.func4
    (ChangeSpec.witness6 (enc := enc) (C := Try.checked) false ⟨#[], #[.int .u8 0, .int .i64 0, .int .u64 0], []⟩ 8 (by kernel_rfl) (by kernel_rfl) (by kernel_rfl) (by kernel_rfl)) ?_
  intro W base args ds gs before hval0 hW hcnd _
  have hval : ∀ (j : Nat) t v, Try.f4.params[j]? = some t → args[j]? = some v → Value.okWide Try.prog W .any base t v := hval0
  have hW' := hW
  obtain ⟨p, q, hA0, hV, rfl, hfz, hnd⟩ := hW
  have hA : DataW.TrodAll enc Try.prog W 0 (fun _ => true) true Try.f4.params.toList args.toList ds p := hA0
  rw [Try.params4] at hA hval
  obtain ⟨v0, vs0, d0, ds0, p0, q0, hargs, rfl, rfl, h0, r0⟩ := trodAll_cons hA
  obtain ⟨v1, vs1, d1, ds1, p1, q1, rfl, rfl, rfl, h1, r1⟩ := trodAll_cons r0
  obtain ⟨v2, vs2, d2, ds2, p2, q2, rfl, rfl, rfl, h2, r2⟩ := trodAll_cons r1
  obtain ⟨rfl, rfl, rfl⟩ := trodAll_nil r2
  obtain rfl : args = #[v0, v1, v2] := by cases args; simp_all
  obtain ⟨rfl, rfl⟩ := trodVars_none hV
  have t0 := h0
  have lt0 : ∀ x ∈ p0, x.block < W.heap.size := by obtain ⟨m, hm⟩ := t0; exact DataW.trod_lt m _ _ _ hm
  obtain ⟨a0, rfl, hd0, hp0, w0⟩ := open_int Try.underlying5 (hval 0 5 v0 rfl rfl) h0
  have t1 := h1
  have lt1 : ∀ x ∈ p1, x.block < W.heap.size := by obtain ⟨m, hm⟩ := t1; exact DataW.trod_lt m _ _ _ hm
  obtain ⟨a1, rfl, hd1, hp1, w1⟩ := open_int Try.underlying3 (hval 1 3 v1 rfl rfl) h1
  have t2 := h2
  have lt2 : ∀ x ∈ p2, x.block < W.heap.size := by obtain ⟨m, hm⟩ := t2; exact DataW.trod_lt m _ _ _ hm
  obtain ⟨a2, rfl, hd2, hp2, w2⟩ := open_int Try.underlying32 (hval 2 32 v2 rfl rfl) h2
  clear hA0 hval0
  refine (walk a0 a1 a2 W (bounds_u8 w0) (bounds_i64 w1) (bounds_u64 w2)).mono fun e W' ⟨he, bel⟩ => ?_
  subst he
  exact ⟨_, rfl, _, _, _, [], _, [], hW', trodAll_mk1 (shut_bool Try.underlying4 _), (trodAll_cons_mk (Below.trod laidOut (by kernel_rfl) (of_decide_eq_true (by kernel_rfl)) t0 bel lt0) (trodAll_cons_mk (Below.trod laidOut (by kernel_rfl) (of_decide_eq_true (by kernel_rfl)) t1 bel lt1) (trodAll_cons_mk (Below.trod laidOut (by kernel_rfl) (of_decide_eq_true (by kernel_rfl)) t2 bel lt2) trodAll_mk0))), rfl, bel.frame _, fun h => by cases h⟩

theorem over : Rows.arenaKeepsRow.holds Try.pinned (OpenSpec.ofChange Rows.arenaKeepsSpec) :=
  OpenClaim.holds_of_wide 4 Try.f4 rfl rfl rfl rfl rfl rfl rfl ⟨rfl, rfl, rfl, rfl, rfl⟩ rfl rfl rfl rfl rfl (by kernel_rfl) Try.func4 (by kernel_rfl)
    (of_decide_eq_true (by kernel_rfl)) (by unfold Func.isWrapper; first | (rw [if_pos (by decide +kernel)]; kernel_rfl) | (rw [if_neg (by decide +kernel)]; exact ⟨rfl, rfl⟩))
    (fun os started H enc _ => lifted os started H enc)
end Go.Proofs.Ytldcjbdhcciieaa.arenaKeeps

namespace Go.Proofs.Ytldcjbdhcciieaa
theorem arenaKeeps_holds : Rows.ArenaKeepsSaid := arenaKeeps.over
#print axioms arenaKeeps_holds
end Go.Proofs.Ytldcjbdhcciieaa
