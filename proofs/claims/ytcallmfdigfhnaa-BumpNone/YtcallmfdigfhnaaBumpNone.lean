/-
  The statement BumpNone: without a pool or an arena there is no space; a nil one has nothing.
  Conditions: none on the input.
-/
import Derived.Test.YtcallmfdigfhnaaActs
import Derived.Test.YtcallmfdigfhnaaBpj
namespace Go.Proofs.Ytcallmfdigfhnaa.bumpNone
open Go.ChangeShapes Go.WideShapes Go.ChangeAt Go.RowKit
set_option linter.unusedVariables false

set_option maxRecDepth 100000 in
set_option maxHeartbeats 8000000 in
theorem walk (n : Int) (w : World) (hn : -9223372036854775808 ≤ n ∧ n ≤ 9223372036854775807) :
    Calls Try.prog 7 #[.int .i64 n] w fun e w' => e = .returned (.bool true) ∧ Below w.heap.size w w' := by
  have NP := new_ok 1 w (by decide) (by decide)
  go_enter Try.func7, Try.ntmps7
  go_wp2_with (first
    | (go_at_call 19; refine NP.mono ?_; rintro e w1 ⟨rfl, P1, B1⟩; have NA := Ar.new_ok 1 w1 (by decide) (by decide); clear P1 NP)
    | (go_at_call 20; refine NA.mono ?_; rintro e w2 ⟨rfl, A2, B2⟩; have D2 := B1.trans (B2.mono B1.size); clear A2 NA)
    | (go_at_call 21; refine (newS_nil w2 _ _ (by first | exact .inl rfl | exact .inr rfl)).mono ?_; rintro e w3 ⟨rfl, hw⟩; rw [hw]; clear hw)
    | (go_at_call 13; refine (lay_nil w2 n).mono ?_; rintro e w3 ⟨rfl, hw⟩; rw [hw]; clear hw))
  go_at_call 23
  refine (each_nil w2).mono ?_
  rintro e w3 ⟨rfl, hw⟩
  have PN := pairs_nil (w := w3) (B := w2.heap.size) (by rw [hw]; exact (box_cell w2 _ _).1)
  have D3 : Below w.heap.size w w3 := by (rw [hw]; exact D2.alloc D2.size _)
  clear hw D2 B2 B1
  go_wp2_with (first
    | (go_at_call 22; refine PN.mono ?_; rintro e w4 ⟨rfl, B4⟩; have D4 := D3.trans (B4.mono D3.size); have AW := awake_any w4; clear PN)
    | (go_at_call 9; refine AW.mono ?_; rintro e w5 ⟨rfl, B5⟩; have D5 := D4.trans (B5.mono D4.size); have FN := freeS_nil w5; clear AW)
    | (go_at_call 24; refine (has_nil w5 n).mono ?_; rintro e w6 ⟨rfl, hw⟩; rw [hw]; clear hw)
    | (go_at_call 17; refine FN.mono ?_; rintro e w6 ⟨rfl, B6⟩; have D6 := D5.trans (B6.mono D5.size); clear FN)
    | (go_at_call 16; refine (used_nil w6).mono ?_; rintro e w7 ⟨rfl, hw⟩; rw [hw]; clear hw)
    | (go_at_call 15; refine (blocks_nil w6).mono ?_; rintro e w7 ⟨rfl, hw⟩; rw [hw]; clear hw))
  go_ret
  exact ⟨rfl, D6⟩


set_option maxRecDepth 100000 in
theorem lifted (os : Os) (started : os.Started) (H : Type) (enc : TypeId × Value → H) :
    ReturnsInHanded {} Try.checked os 7 .any (Rows.bumpNoneSpec.pre6 enc Try.prog Try.f7 Rows.bumpNoneRow.domain false) (Rows.bumpNoneSpec.post enc Try.prog Try.f7 false true false false) := by
  refine returnsInHanded_of_change (C := Try.checked) own started (by kernel_rfl) Try.func7
    (ChangeSpec.witness6 (enc := enc) (C := Try.checked) false ⟨#[], #[.int .i64 0], []⟩ 8 (by kernel_rfl) (by kernel_rfl) (by kernel_rfl) (by kernel_rfl)) ?_
  intro W base args ds gs before hval0 hW hcnd _
  have hval : ∀ (j : Nat) t v, Try.f7.params[j]? = some t → args[j]? = some v → Value.okWide Try.prog W .any base t v := hval0
  have hW' := hW
  obtain ⟨p, q, hA0, hV, rfl, hfz, hnd⟩ := hW
  have hA : DataW.TrodAll enc Try.prog W 0 (fun _ => true) true Try.f7.params.toList args.toList ds p := hA0
  rw [Try.params7] at hA hval
  obtain ⟨v0, vs0, d0, ds0, p0, q0, hargs, rfl, rfl, h0, r0⟩ := trodAll_cons hA
  obtain ⟨rfl, rfl, rfl⟩ := trodAll_nil r0
  obtain rfl : args = #[v0] := by cases args; simp_all
  obtain ⟨rfl, rfl⟩ := trodVars_none hV
  have t0 := h0
  have lt0 : ∀ x ∈ p0, x.block < W.heap.size := by obtain ⟨m, hm⟩ := t0; exact DataW.trod_lt m _ _ _ hm
  obtain ⟨a0, rfl, hd0, hp0, w0⟩ := open_int Try.underlying3 (hval 0 3 v0 rfl rfl) h0
  clear hA0 hval0
  refine (walk a0 W (bounds_i64 w0)).mono fun e W' ⟨he, bel⟩ => ?_
  subst he
  exact ⟨_, rfl, _, _, _, [], _, [], hW', trodAll_mk1 (shut_bool Try.underlying4 _), (trodAll_cons_mk (Below.trod laidOut (by kernel_rfl) (of_decide_eq_true (by kernel_rfl)) t0 bel lt0) trodAll_mk0), rfl, bel.frame _, fun h => by cases h⟩

theorem over : Rows.bumpNoneRow.holds Try.pinned (OpenSpec.ofChange Rows.bumpNoneSpec) :=
  OpenClaim.holds_of_wide 7 Try.f7 rfl rfl rfl rfl rfl rfl rfl ⟨rfl, rfl, rfl, rfl, rfl⟩ rfl rfl rfl rfl rfl (by kernel_rfl) Try.func7 (by kernel_rfl)
    (of_decide_eq_true (by kernel_rfl)) (by unfold Func.isWrapper; first | (rw [if_pos (by decide +kernel)]; kernel_rfl) | (rw [if_neg (by decide +kernel)]; exact ⟨rfl, rfl⟩))
    (fun os started H enc _ => lifted os started H enc)
end Go.Proofs.Ytcallmfdigfhnaa.bumpNone

namespace Go.Proofs.Ytcallmfdigfhnaa
theorem bumpNone_holds : Rows.BumpNoneSaid := bumpNone.over
#print axioms bumpNone_holds
end Go.Proofs.Ytcallmfdigfhnaa
