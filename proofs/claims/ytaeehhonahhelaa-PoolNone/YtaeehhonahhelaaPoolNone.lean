/-
  The statement PoolNone: a nil pool has nothing, whatever it is asked.
  Conditions: none on the input.
-/
import Derived.Test.YtaeehhonahhelaaMade
import Derived.Test.YtaeehhonahhelaaNils
namespace Go.Proofs.Ytaeehhonahhelaa.poolNone
open Go.ChangeShapes Go.WideShapes Go.ChangeAt Go.RowKit
set_option linter.unusedVariables false

set_option maxRecDepth 100000 in
set_option maxHeartbeats 8000000 in
theorem walk (n : Int) (w : World) (hn : -9223372036854775808 ≤ n ∧ n ≤ 9223372036854775807) :
    Calls Try.prog 8 #[.int .i64 n] w fun e w' => e = .returned (.bool true) ∧ Below w.heap.size w w' := by
  go_enter Try.func8, Try.ntmps8
  go_wp2_with (first
    | (go_at_call 20; refine (alloc_nil n w).mono ?_; rintro e w1 ⟨rfl, B1⟩)
    | (go_at_call 18; refine (group_nil n w1).mono ?_; rintro e w2 ⟨rfl, hw⟩; rw [hw]; clear hw)
    | (go_at_call 17; refine (runs_nil w1).mono ?_; rintro e w3 ⟨rfl, Q3, B3⟩; have P3 := pairs_nil (C := w1.heap.size + 1) Q3; have D3 := B1.trans (B3.mono B1.size))
    | (go_at_call 15; refine P3.mono ?_; clear P3; rintro e w4 ⟨rfl, B4⟩; have D4 := D3.trans (B4.mono D3.size))
    | (go_at_call 16; refine (groups_nil w4).mono ?_; rintro e w5 ⟨rfl, Q5, B5⟩; have P5 := pairs_nil (C := w4.heap.size + 1) Q5; have D5 := D4.trans (B5.mono D4.size))
    | (go_at_call 15; refine P5.mono ?_; clear P5; rintro e w6 ⟨rfl, B6⟩; have D6 := D5.trans (B6.mono D5.size))
    | (go_at_call 11; refine (awake_any w6).mono ?_; rintro e w7 ⟨rfl, B7⟩; have D7 := D6.trans (B7.mono D6.size))
    | (go_at_call 19; refine (free_nil n w7).mono ?_; rintro e w8 ⟨rfl, hw⟩; rw [hw]; clear hw)
    | (go_at_call 22; refine (left_nil w7).mono ?_; rintro e w8 ⟨rfl, B8⟩; have D8 := D7.trans (B8.mono D7.size))
    | (go_at_call 23; refine (longest_nil w8).mono ?_; rintro e w9 ⟨rfl, B9⟩; have D9 := D8.trans (B9.mono D8.size)))
  go_ret
  exact ⟨rfl, D9⟩


set_option maxRecDepth 100000 in
theorem lifted (os : Os) (started : os.Started) (H : Type) (enc : TypeId × Value → H) :
    ReturnsInHanded {} Try.checked os 8 .any (Rows.poolNoneSpec.pre6 enc Try.prog Try.f8 Rows.poolNoneRow.domain false) (Rows.poolNoneSpec.post enc Try.prog Try.f8 false true false false) := by
  refine returnsInHanded_of_change (C := Try.checked) own started (by kernel_rfl) Try.func8
    (ChangeSpec.witness6 (enc := enc) (C := Try.checked) false ⟨#[], #[.int .i64 0], []⟩ 8 (by kernel_rfl) (by kernel_rfl) (by kernel_rfl) (by kernel_rfl)) ?_
  intro W base args ds gs before hval0 hW hcnd _
  have hval : ∀ (j : Nat) t v, Try.f8.params[j]? = some t → args[j]? = some v → Value.okWide Try.prog W .any base t v := hval0
  have hW' := hW
  obtain ⟨p, q, hA0, hV, rfl, hfz, hnd⟩ := hW
  have hA : DataW.TrodAll enc Try.prog W 0 (fun _ => true) true Try.f8.params.toList args.toList ds p := hA0
  rw [Try.params8] at hA hval
  obtain ⟨v0, vs0, d0, ds0, p0, q0, hargs, rfl, rfl, h0, r0⟩ := trodAll_cons hA
  obtain ⟨rfl, rfl, rfl⟩ := trodAll_nil r0
  obtain rfl : args = #[v0] := by cases args; simp_all
  obtain ⟨rfl, rfl⟩ := trodVars_none hV
  have t0 := h0
  have lt0 : ∀ x ∈ p0, x.block < W.heap.size := by obtain ⟨m, hm⟩ := t0; exact DataW.trod_lt m _ _ _ hm
  obtain ⟨a0, rfl, hd0, hp0, w0⟩ := open_int Try.underlying3 (hval 0 3 v0 rfl rfl) h0
  clear hA0 hval0
  refine (walk a0 W (bounds_i64 w0)).mono fun e W' ⟨he, bel⟩ => ?_
  subst he
  exact ⟨_, rfl, _, _, _, [], _, [], hW', trodAll_mk1 (shut_bool Try.underlying4 _), (trodAll_cons_mk (Below.trod laidOut (by kernel_rfl) (of_decide_eq_true (by kernel_rfl)) t0 bel lt0) trodAll_mk0), rfl, bel.frame _, fun h => by cases h⟩

theorem over : Rows.poolNoneRow.holds Try.pinned (OpenSpec.ofChange Rows.poolNoneSpec) :=
  OpenClaim.holds_of_wide 8 Try.f8 rfl rfl rfl rfl rfl rfl rfl ⟨rfl, rfl, rfl, rfl, rfl⟩ rfl rfl rfl rfl rfl (by kernel_rfl) Try.func8 (by kernel_rfl)
    (of_decide_eq_true (by kernel_rfl)) (by unfold Func.isWrapper; first | (rw [if_pos (by decide +kernel)]; kernel_rfl) | (rw [if_neg (by decide +kernel)]; exact ⟨rfl, rfl⟩))
    (fun os started H enc _ => lifted os started H enc)
end Go.Proofs.Ytaeehhonahhelaa.poolNone

namespace Go.Proofs.Ytaeehhonahhelaa
theorem poolNone_holds : Rows.PoolNoneSaid := poolNone.over
#print axioms poolNone_holds
end Go.Proofs.Ytaeehhonahhelaa
