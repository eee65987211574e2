/-
  The statement GraphSame: for every two graphs, Same answers as the document's own, a graph is the same as itself, and Words is the document's own count.
  Conditions: none on the input.
-/
import Derived.Test.YtncimddgkgclpaaOpn
import Derived.Test.YtncimddgkgclpaaAwk
import Derived.Test.YtncimddgkgclpaaGrf
namespace Go.Proofs.Ytncimddgkgclpaa.graphSame
open Go.ChangeShapes Go.WideShapes Go.ChangeAt Go.RowKit
set_option linter.unusedVariables false

theorem below_drew (W : World) : Below W.heap.size W W.drew := Below.drew (Below.refl _ _)
set_option maxRecDepth 100000
set_option maxHeartbeats 8000000 in
theorem walk (g0 : Gr) (o1 : Option Addr) (c1 : Nat) (a1 : Option Addr) (d1 : Nat) (g1 : Gr) (o2 : Option Addr) (c2 : Nat) (a2 : Option Addr) (d2 : Nat) (w : World) (G : Gv w g0 o1 c1 a1 d1) (_ : OkG g0) (H : Gv w g1 o2 c2 a2 d2) (_ : OkG g1) :
    Calls Try.prog 4 #[gv g0 o1 c1 a1 d1, gv g1 o2 c2 a2 d2] w fun e w' => e = .returned (.bool true) ∧ Below w.heap.size w w' := by
  obtain ⟨b0, hb0⟩ : ∃ b : Bool, b = true ↔ SameG g0 g1 := by
    by_cases h : SameG g0 g1
    · exact ⟨true, by simp [h]⟩
    · exact ⟨false, by simp [h]⟩
  have C15 : ∀ W', Below w.heap.size w W' → Calls Try.prog 15 #[gv g0 o1 c1 a1 d1, gv g1 o2 c2 a2 d2] W' fun e w' => e = .returned (.bool b0) ∧ Below W'.heap.size W' w' := fun W' b =>
    (same15 g0 g1 o1 o2 a1 a2 c1 c2 d1 d2 W' (G.later b) (H.later b)).mono fun e w' ⟨⟨x, e1, e2⟩, B⟩ => ⟨e1.trans (retBool (Bool.eq_iff_iff.2 (e2.trans hb0.symm))), B⟩
  have C10 : ∀ W', Below w.heap.size w W' → Calls Try.prog 10 #[gv g0 o1 c1 a1 d1, gv g1 o2 c2 a2 d2] W' fun e w' => e = .returned (.bool b0) ∧ Below W'.heap.size W' w' := fun W' b =>
    (same10 g0 g1 o1 o2 a1 a2 c1 c2 d1 d2 W' (G.later b) (H.later b)).mono fun e w' ⟨⟨x, e1, e2⟩, B⟩ => ⟨e1.trans (retBool (Bool.eq_iff_iff.2 (e2.trans hb0.symm))), B⟩
  have CS : ∀ W', Below w.heap.size w W' → Calls Try.prog 15 #[gv g0 o1 c1 a1 d1, gv g0 o1 c1 a1 d1] W' fun e w' => e = .returned (.bool true) ∧ Below W'.heap.size W' w' := fun W' b =>
    (same15 g0 g0 o1 o1 a1 a1 c1 c1 d1 d1 W' (G.later b) (G.later b)).mono fun e w' ⟨⟨x, e1, e2⟩, B⟩ => ⟨e1.trans (retBool (e2.2 (SameG.refl g0))), B⟩
  have C16 : ∀ W', Below w.heap.size w W' → Calls Try.prog 16 #[gv g0 o1 c1 a1 d1] W' fun e w' => e = .returned (.int .i64 (szI (wsN g0.nd g0.nd.length))) ∧ Below W'.heap.size W' w' := fun W' b => words16 g0 o1 a1 c1 d1 W' (G.later b)
  have C17 : ∀ W', Below w.heap.size w W' → Calls Try.prog 17 #[gv g0 o1 c1 a1 d1] W' fun e w' => e = .returned (.int .i64 (szI (wsN g0.nd g0.nd.length))) ∧ Below W'.heap.size W' w' := fun W' b => words17 g0 o1 a1 c1 d1 W' (G.later b)
  unfold gv at *
  generalize szI (wsN g0.nd g0.nd.length) = z at C16 C17
  generalize g0.rs.length = n1 at *
  generalize g0.nd.length = n2 at *
  generalize g1.rs.length = n3 at *
  generalize g1.nd.length = n4 at *
  have H15 := Hid.mk C15
  have H10 := Hid.mk C10
  have HS := Hid.mk CS
  have H16 := Hid.mk C16
  have H17 := Hid.mk C17
  clear C15 C10 CS C16 C17 hb0 G H
  have B0 : Below w.heap.size w ((w.alloc (.cells #[.slice o1 n1 c1, .slice a1 n2 d1] 25)).alloc (.cells #[.slice o2 n3 c2, .slice a2 n4 d2] 25)) := by go_grown
  have HB0 := Hid.mk B0
  have x0 : ((w.alloc (.cells #[.slice o1 n1 c1, .slice a1 n2 d1] 25)).alloc (.cells #[.slice o2 n3 c2, .slice a2 n4 d2] 25)).cell? ⟨w.heap.size, 0, none⟩ = some (.slice o1 n1 c1) := by simp [go_sem]
  have x1 : ((w.alloc (.cells #[.slice o1 n1 c1, .slice a1 n2 d1] 25)).alloc (.cells #[.slice o2 n3 c2, .slice a2 n4 d2] 25)).cell? ⟨w.heap.size, 1, none⟩ = some (.slice a1 n2 d1) := by simp [go_sem]
  have x2 : ((w.alloc (.cells #[.slice o1 n1 c1, .slice a1 n2 d1] 25)).alloc (.cells #[.slice o2 n3 c2, .slice a2 n4 d2] 25)).cell? ⟨w.heap.size + 1, 0, none⟩ = some (.slice o2 n3 c2) := by simp [go_sem]
  have x3 : ((w.alloc (.cells #[.slice o1 n1 c1, .slice a1 n2 d1] 25)).alloc (.cells #[.slice o2 n3 c2, .slice a2 n4 d2] 25)).cell? ⟨w.heap.size + 1, 1, none⟩ = some (.slice a2 n4 d2) := by simp [go_sem]
  obtain ⟨q1, hq1⟩ : ∃ q, w.heap.size = q := ⟨_, rfl⟩
  obtain ⟨q2, hq2⟩ : ∃ q, q1 + 1 = q := ⟨_, rfl⟩
  rw [hq1] at x0 x1 x2 x3
  rw [hq2] at x2 x3
  clear B0
  have e0 : (b0 == b0) = true := by simp
  have e1 : (z == z) = true := by simp
  have CA := awake_any
  have HA := Hid.mk CA
  clear CA
  go_enter Try.func4, Try.ntmps4
  go_wp2
  try rw [hq1]
  try rw [hq2]
  have HX := HB0
  generalize (w.alloc (.cells #[.slice o1 n1 c1, .slice a1 n2 d1] 25)).alloc (.cells #[.slice o2 n3 c2, .slice a2 n4 d2] 25) = W at *
  clear HB0 hq1 hq2
  go_region_held3 (fun W' => W'.cell? ⟨q1, 0, none⟩ = some (.slice o1 n1 c1) ∧ W'.cell? ⟨q1, 1, none⟩ = some (.slice a1 n2 d1) ∧ W'.cell? ⟨q2, 0, none⟩ = some (.slice o2 n3 c2) ∧ W'.cell? ⟨q2, 1, none⟩ = some (.slice a2 n4 d2)) (go_keep) (first
    | (go_at_call 9; refine (HA.out _).mono ?_; rintro e w1 ⟨rfl, BA⟩; replace HX := Hid.mk (belowOn (belowOn HX.out (below_drew W)) BA); replace BA := (below_drew W).trans (BA.mono (below_drew W).size); have x0 := cellLater BA x0; have x1 := cellLater BA x1; have x2 := cellLater BA x2; have x3 := cellLater BA x3; clear BA)
    | (go_at_call 10; with_reducible refine (H10.out _ HX.out).mono ?_; rintro e w2 ⟨rfl, BA⟩; replace HX := Hid.mk (belowOn HX.out BA); have x0 := cellLater BA x0; have x1 := cellLater BA x1; have x2 := cellLater BA x2; have x3 := cellLater BA x3; clear BA)
    | (go_at_call 15; with_reducible refine (H15.out _ HX.out).mono ?_; rintro e w2 ⟨rfl, BA⟩; replace HX := Hid.mk (belowOn HX.out BA); have x0 := cellLater BA x0; have x1 := cellLater BA x1; have x2 := cellLater BA x2; have x3 := cellLater BA x3; clear BA)
    | (go_at_call 15; with_reducible refine (HS.out _ HX.out).mono ?_; rintro e w2 ⟨rfl, BA⟩; replace HX := Hid.mk (belowOn HX.out BA); have x0 := cellLater BA x0; have x1 := cellLater BA x1; have x2 := cellLater BA x2; have x3 := cellLater BA x3; clear BA)
    | (go_at_call 16; with_reducible refine (H16.out _ HX.out).mono ?_; rintro e w2 ⟨rfl, BA⟩; replace HX := Hid.mk (belowOn HX.out BA); have x0 := cellLater BA x0; have x1 := cellLater BA x1; have x2 := cellLater BA x2; have x3 := cellLater BA x3; clear BA)
    | (go_at_call 17; with_reducible refine (H17.out _ HX.out).mono ?_; rintro e w2 ⟨rfl, BA⟩; replace HX := Hid.mk (belowOn HX.out BA); have x0 := cellLater BA x0; have x1 := cellLater BA x1; have x2 := cellLater BA x2; have x3 := cellLater BA x3; clear BA))
  all_goals go_wp2
  all_goals go_ret
  all_goals exact ⟨rfl, HX.out⟩


set_option maxRecDepth 100000 in
theorem lifted (os : Os) (started : os.Started) (H : Type) (enc : TypeId × Value → H) :
    ReturnsInHanded {} Try.checked os 4 .any (Rows.graphSameSpec.pre6 enc Try.prog Try.f4 Rows.graphSameRow.domain false) (Rows.graphSameSpec.post enc Try.prog Try.f4 false true false false) := by
  refine returnsInHanded_of_change (C := Try.checked) own started (by kernel_rfl) Try.func4
    (ChangeSpec.witness6 (enc := enc) (C := Try.checked) false ⟨#[], #[.agg #[.slice none 0 0, .slice none 0 0], .agg #[.slice none 0 0, .slice none 0 0]], []⟩ 8 (by kernel_rfl) (by kernel_rfl) (by kernel_rfl) (by kernel_rfl)) ?_
  intro W base args ds gs before hval0 hW hcnd _
  have hval : ∀ (j : Nat) t v, Try.f4.params[j]? = some t → args[j]? = some v → Value.okWide Try.prog W .any base t v := hval0
  have hW' := hW
  obtain ⟨p, q, hA0, hV, rfl, hfz, hnd⟩ := hW
  have hA : DataW.TrodAll enc Try.prog W 0 (fun _ => true) true Try.f4.params.toList args.toList ds p := hA0
  rw [Try.params4] at hA hval
  obtain ⟨v0, vs0, d0, ds0, p0, q0, hargs, rfl, rfl, h0, r0⟩ := trodAll_cons hA
  obtain ⟨v1, vs1, d1, ds1, p1, q1, rfl, rfl, rfl, h1, r1⟩ := trodAll_cons r0
  obtain ⟨rfl, rfl, rfl⟩ := trodAll_nil r1
  obtain rfl : args = #[v0, v1] := by cases args; simp_all
  obtain ⟨rfl, rfl⟩ := trodVars_none hV
  have t0 := h0
  have lt0 : ∀ x ∈ p0, x.block < W.heap.size := by obtain ⟨m, hm⟩ := t0; exact DataW.trod_lt m _ _ _ hm
  obtain ⟨g0, og0, cg0, ag0, dg0, rfl, w0, k0⟩ := open_gr h0
  have t1 := h1
  have lt1 : ∀ x ∈ p1, x.block < W.heap.size := by obtain ⟨m, hm⟩ := t1; exact DataW.trod_lt m _ _ _ hm
  obtain ⟨g1, og1, cg1, ag1, dg1, rfl, w1, k1⟩ := open_gr h1
  clear hA0 hval0
  refine (walk g0 og0 cg0 ag0 dg0 g1 og1 cg1 ag1 dg1 W w0 k0 w1 k1).mono fun e W' ⟨he, bel⟩ => ?_
  subst he
  exact ⟨_, rfl, _, _, _, [], _, [], hW', trodAll_mk1 (shut_bool Try.underlying4 _), (trodAll_cons_mk (Below.trod laidOut (by kernel_rfl) (of_decide_eq_true (by kernel_rfl)) t0 bel lt0) (trodAll_cons_mk (Below.trod laidOut (by kernel_rfl) (of_decide_eq_true (by kernel_rfl)) t1 bel lt1) trodAll_mk0)), rfl, bel.frame _, fun h => by cases h⟩

theorem over : Rows.graphSameRow.holds Try.pinned (OpenSpec.ofChange Rows.graphSameSpec) :=
  OpenClaim.holds_of_wide 4 Try.f4 rfl rfl rfl rfl rfl rfl rfl ⟨rfl, rfl, rfl, rfl, rfl⟩ rfl rfl rfl rfl rfl (by kernel_rfl) Try.func4 (by kernel_rfl)
    (of_decide_eq_true (by kernel_rfl)) (by unfold Func.isWrapper; first | (rw [if_pos (by decide +kernel)]; kernel_rfl) | (rw [if_neg (by decide +kernel)]; exact ⟨rfl, rfl⟩))
    (fun os started H enc _ => lifted os started H enc)
end Go.Proofs.Ytncimddgkgclpaa.graphSame

namespace Go.Proofs.Ytncimddgkgclpaa
theorem graphSame_holds : Rows.GraphSameSaid := graphSame.over
#print axioms graphSame_holds
end Go.Proofs.Ytncimddgkgclpaa
