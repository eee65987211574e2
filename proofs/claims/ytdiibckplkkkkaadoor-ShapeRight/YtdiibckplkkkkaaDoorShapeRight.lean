/-
  The statement ShapeRight, as its card says it: for every header, the program and the document say alike what is wrong with it, and how many words its closure has.
  Conditions: none on the input; the package-level table of the kinds starts as the program's text lays it (the card ties it to that text, of the pruned copy of the project that this seat holds).
-/
import Derived.Test.YtdiibckplkkkkaaDoorLaid
import Derived.Test.YtdiibckplkkkkaaDoorRef
import Derived.Deep.RegionHeld3
namespace Go.Proofs.YtdiibckplkkkkaaDoor.shapeRight
open Go.ChangeShapes Go.WideShapes Go.ChangeAt Go.RowKit
set_option linter.unusedVariables false

theorem tdrew {w : World} (h : Table w) : Table w.drew := h.later ⟨rfl, rfl, rfl, Nat.le_refl _, fun _ _ => rfl⟩
theorem hdrew {w : World} {b : Nat} {k i p n : Int} (h : HeadAt w b k i p n) : HeadAt w.drew b k i p n := h.later ⟨rfl, rfl, rfl, Nat.le_refl _, fun _ _ => rfl⟩
set_option maxHeartbeats 2000000 in
theorem walk (k0 i0 p0 n0 : Int) (w : World) (h : Table w) (bk : -9223372036854775808 ≤ k0 ∧ k0 ≤ 9223372036854775807) (bi : -9223372036854775808 ≤ i0 ∧ i0 ≤ 9223372036854775807) (bp : -9223372036854775808 ≤ p0 ∧ p0 ≤ 9223372036854775807) (bn : -9223372036854775808 ≤ n0 ∧ n0 ≤ 9223372036854775807) :
    Calls Tryd.prog 3 #[head k0 i0 p0 n0] w fun e w' => e = .returned (.bool true) ∧ Below w.heap.size w w' := by
  have hs0 : Table (w.alloc (Obj.cells #[Value.int IntKind.i64 k0, Value.int IntKind.i64 i0, Value.int IntKind.i64 p0, Value.int IntKind.i64 n0] 23)) := h.later (by go_grown)
  have A0 : HeadAt (w.alloc (Obj.cells #[Value.int IntKind.i64 k0, Value.int IntKind.i64 i0, Value.int IntKind.i64 p0, Value.int IntKind.i64 n0] 23)) w.heap.size k0 i0 p0 n0 := HeadAt.fresh w k0 i0 p0 n0
  have C0 : Below w.heap.size w (w.alloc (Obj.cells #[Value.int IntKind.i64 k0, Value.int IntKind.i64 i0, Value.int IntKind.i64 p0, Value.int IntKind.i64 n0] 23)) := by go_grown
  have R := fun w h => right_any k0 i0 p0 n0 w h
  have R' := fun w => refRight_any k0 i0 p0 n0 w
  have S := fun w h => size_any k0 i0 p0 n0 w h
  have S' := fun w => refSize_any k0 i0 p0 n0 w
  obtain ⟨E, hE⟩ : ∃ x, rightE k0 i0 p0 n0 = x := ⟨_, rfl⟩
  obtain ⟨s, hs⟩ : ∃ x, sizeN k0 i0 p0 n0 = x := ⟨_, rfl⟩
  simp only [hE] at R R'
  simp only [hs] at S S'
  clear hE hs
  go_enter Tryd.func3, Tryd.ntmps3
  go_wp2_with fail
  generalize (w.alloc (Obj.cells #[Value.int IntKind.i64 k0, Value.int IntKind.i64 i0, Value.int IntKind.i64 p0, Value.int IntKind.i64 n0] 23)) = W0 at hs0 A0 C0 ⊢
  have A0' := A0
  obtain ⟨u0, u1, u2, u3⟩ := A0'
  go_region_held3 (fun w' => w'.cell? ⟨w.heap.size, 0, none⟩ = some (.int .i64 k0) ∧ w'.cell? ⟨w.heap.size, 1, none⟩ = some (.int .i64 i0) ∧ w'.cell? ⟨w.heap.size, 2, none⟩ = some (.int .i64 p0) ∧ w'.cell? ⟨w.heap.size, 3, none⟩ = some (.int .i64 n0)) (go_keep) (first
    | (go_at_call 8; refine (awake_any _ (tdrew hs0)).mono ?_; rintro e w1 ⟨rfl, B1⟩; have hs1 := (tdrew hs0).later B1; have C1 := C0.drew.trans (B1.mono C0.drew.size); have A1 := (hdrew A0).later B1; have A1' := A1; obtain ⟨a0, a1, a2, a3⟩ := A1')
    | (go_at_call 9; refine (R _ hs1).mono ?_; rintro e w2 ⟨rfl, B2⟩; have hs2 := hs1.later B2; have C2 := C1.trans (B2.mono C1.size); have A2 := A1.later B2; have A2' := A2; obtain ⟨b0, b1, b2, b3⟩ := A2')
    | (go_at_call 10; refine (R' _).mono ?_; rintro e w3 ⟨rfl, B3⟩; have hs3 := hs2.later B3; have C3 := C2.trans (B3.mono C2.size); have A3 := A2.later B3; have A3' := A3; obtain ⟨c0, c1, c2, c3⟩ := A3')
    | (go_at_call 11; refine (S _ hs3).mono ?_; rintro e w4 ⟨rfl, B4⟩; have hs4 := hs3.later B4; have C4 := C3.trans (B4.mono C3.size); have A4 := A3.later B4; have A4' := A4; obtain ⟨d0, d1, d2, d3⟩ := A4')
    | (go_at_call 12; refine (S' _).mono ?_; rintro e w5 ⟨rfl, B5⟩; have hs5 := hs4.later B5; have C5 := C4.trans (B5.mono C4.size); have A5 := A4.later B5; have A5' := A5; obtain ⟨f0, f1, f2, f3⟩ := A5'))
  all_goals go_wp2
  all_goals go_ret
  all_goals exact ⟨rfl, C5⟩

/-- What the walk gives, for every argument and every world that holds the table. -/
theorem contract (H : Type) (enc : TypeId × Value → H) (W : World) (base : Nat) (args : Array Value) (ds gs : List (DataW H)) (before : List MemPlace)
    (hval : ∀ (j : Nat) t v, Tryd.f3.params[j]? = some t → args[j]? = some v → Value.okWide Tryd.prog W .any base t v)
    (hW : DataW.Whole enc Tryd.prog Tryd.f3.params.toList Rows.shapeRightSpec.vars false W args.toList ds gs before) (hL : laidMetH Tryd.prog Rows.shapeRightRow.laid W) :
    Calls Tryd.prog 3 args W fun e W' => ∃ v, e = .returned v ∧ Rows.shapeRightSpec.post enc Tryd.prog Tryd.f3 false true false false W args v W' := by
  have hW' := hW
  obtain ⟨p, q, hA0, hV, rfl, hfz, hnd⟩ := hW
  have hA : DataW.TrodAll enc Tryd.prog W 0 (fun _ => true) true Tryd.f3.params.toList args.toList ds p := hA0
  rw [Tryd.params3] at hA hval
  obtain ⟨v0, vs0, d0, ds0, p0, q0, hargs, rfl, rfl, h0, r0⟩ := trodAll_cons hA
  obtain ⟨rfl, rfl, rfl⟩ := trodAll_nil r0
  obtain rfl : args = #[v0] := by cases args; simp_all
  obtain ⟨rfl, rfl⟩ := trodVars_none hV
  have t0 := h0
  have lt0 : ∀ x ∈ p0, x.block < W.heap.size := by obtain ⟨m, hm⟩ := t0; exact DataW.trod_lt m _ _ _ hm
  obtain ⟨c0, c1, c2, c3, y0, y1, y2, y3, m, rfl, hd0, hp0, hy0, hy1, hy2, hy3⟩ := Joins.open_agg4 Tryd.underlying23 (by kernel_rfl) cells23 (hval 0 23 v0 rfl rfl) h0
  obtain ⟨k0, e0, _, wk0⟩ := DataW.trod_int Tryd.underlying3 hy0
  obtain ⟨i0, e1, _, wi0⟩ := DataW.trod_int Tryd.underlying3 hy1
  obtain ⟨p0', e2, _, wp0⟩ := DataW.trod_int Tryd.underlying3 hy2
  obtain ⟨n0, e3, _, wn0⟩ := DataW.trod_int Tryd.underlying3 hy3
  simp only [List.cons.injEq, and_true] at e0 e1 e2 e3
  subst e0 e1 e2 e3
  clear hy0 hy1 hy2 hy3
  clear hA0
  refine (walk k0 i0 p0' n0 W (table_of hL) (bounds_i64 wk0) (bounds_i64 wi0) (bounds_i64 wp0) (bounds_i64 wn0)).mono fun e W' ⟨he, bel⟩ => ?_
  subst he
  exact ⟨_, rfl, _, _, _, [], _, [], hW', trodAll_mk1 (shut_bool Tryd.underlying4 _), (trodAll_cons_mk (Below.trod laidOut (by kernel_rfl) (of_decide_eq_true (by kernel_rfl)) t0 bel lt0) trodAll_mk0), rfl, bel.frame _, fun h => by cases h⟩

theorem laid_met (os : Os) : laidMet Tryd.prog Rows.shapeRightRow.laid ((laidWorld os).forCall (fun _ _ => 0) ⟨#[], #[head 0 0 0 0], []⟩).memory :=
  laidMet_of_run' 8 (by kernel_rfl) (by kernel_rfl)
theorem reads (os : Os) {H : Type} (enc : TypeId × Value → H) : ∃ places, DataW.whole enc Tryd.prog ((laidWorld os).forCall (fun _ _ => 0) ⟨#[], #[head 0 0 0 0], []⟩).memory Tryd.f3.params.toList Rows.shapeRightSpec.vars false #[head 0 0 0 0].toList 8 = some ([.agg [.lit (.int .i64 0), .lit (.int .i64 0), .lit (.int .i64 0), .lit (.int .i64 0)]], [], places) :=
  ⟨[], by kernel_rfl⟩

set_option maxRecDepth 100000 in
theorem lifted (os : Os) (started : os.Started) (H : Type) (enc : TypeId × Value → H) (F : Stop.Interp) :
    ReturnsInHanded {} Tryd.checked os 3 .any ((OpenSpec.ofChange Rows.shapeRightSpec).preRow enc Tryd.prog Tryd.f3 Rows.shapeRightRow.domain false Rows.shapeRightRow.laid) (((OpenSpec.ofChange Rows.shapeRightSpec).at F).post enc Tryd.prog Tryd.f3 false true false false) := by
  obtain ⟨places, hx⟩ := reads os enc
  refine returnsInHanded_of_row (C := Tryd.checked) (s := OpenSpec.ofChange Rows.shapeRightSpec) own started (by kernel_rfl) Tryd.func3
    (witness_row_at (enc := enc) (C := Tryd.checked) false (laidWorld os) #[head 0 0 0 0] rfl (by kernel_rfl) (by kernel_rfl) (by kernel_rfl)
      (OpenSpec.preRow_of_cond 8 hx (by kernel_rfl) (fun k hk => by cases hk) (by kernel_rfl) (laid_met os))) ?_
  intro W base args ds gs before hval hW _ _ _ hL _ _
  exact contract H enc W base args ds gs before hval hW hL

theorem said : Rows.ShapeRightSaid :=
  OpenClaim.holds_of_cond 3 Tryd.f3 rfl rfl rfl rfl rfl rfl rfl ⟨rfl, rfl, rfl, rfl, rfl⟩ rfl rfl rfl rfl rfl (by kernel_rfl) Tryd.func3 (by kernel_rfl)
    (of_decide_eq_true (by kernel_rfl)) (by unfold Func.isWrapper; first | (rw [if_pos (by decide +kernel)]; kernel_rfl) | (rw [if_neg (by decide +kernel)]; exact ⟨rfl, rfl⟩))
    (fun os started H enc _ F => by rw [OpenClaim.pre_eq_preRow]; exact lifted os started H enc F)

/-- No parameter wants a stand-in; the program's own looks are off: what the card asks. -/
theorem plain (f : FuncId) (fn : Func) (hf : Tryd.pinned.checked.prog.funcNamed "midden/middenlaw04.ShapeRight" = some f) (hfn : Tryd.pinned.checked.prog.funcs[f]? = some fn) :
    false = Tryd.pinned.checked.prog.looks [] ∧ ∀ (j : Nat) t, fn.params[j]? = some t → Tryd.pinned.checked.prog.wantsStandIn t = false := by
  obtain rfl : f = 3 := Option.some.inj ((show Tryd.prog.funcNamed "midden/middenlaw04.ShapeRight" = some 3 by kernel_rfl).symm.trans hf) |>.symm
  obtain rfl : fn = Tryd.f3 := (Option.some.inj (Tryd.func3.symm.trans hfn)).symm
  refine ⟨by kernel_rfl, fun j t ht => ?_⟩
  rw [Tryd.params3] at ht
  have hm : t ∈ [23] := by simpa using Array.mem_of_getElem? ht
  have hall : ([23].all fun u => !Tryd.prog.wantsStandIn u) = true := by kernel_rfl
  exact (show Tryd.prog.wantsStandIn t = false by simpa using List.all_eq_true.1 hall t hm)

theorem card : Rows.ShapeRightCardSaid :=
  Claim7.holds_tied_plain_at .later [] _ _ _ _ said (fun _ h => by cases h) (by kernel_rfl) (fun _ h => by cases h) shapeRight_row_tie rfl ⟨rfl, rfl⟩ (by kernel_rfl) rfl plain (by kernel_rfl)
end Go.Proofs.YtdiibckplkkkkaaDoor.shapeRight

namespace Go.Proofs.YtdiibckplkkkkaaDoor
theorem shapeRight_card : Rows.ShapeRightCardSaid := shapeRight.card
#print axioms shapeRight_card
end Go.Proofs.YtdiibckplkkkkaaDoor
