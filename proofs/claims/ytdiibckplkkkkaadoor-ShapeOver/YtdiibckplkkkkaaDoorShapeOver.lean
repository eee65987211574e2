/-
  The statement ShapeOver, as its card says it: for every header and every kind, the program and the document say alike what a closure of that header becomes where it is passed, or what is wrong.
  Conditions: none on the input; the package-level table of the kinds starts as the program's text lays it (the card ties it to that text, of the pruned copy of the project that this seat holds).
-/
import Derived.Test.YtdiibckplkkkkaaDoorLaid
import Derived.Test.YtdiibckplkkkkaaDoorRefOver
namespace Go.Proofs.YtdiibckplkkkkaaDoor.shapeOver
open Go.ChangeShapes Go.WideShapes Go.ChangeAt Go.RowKit
set_option linter.unusedVariables false

set_option maxHeartbeats 2000000 in
theorem walk (k0 i0 p0 n0 a1 : Int) (w : World) (h : Table w) (bk : -9223372036854775808 ≤ k0 ∧ k0 ≤ 9223372036854775807) (bi : -9223372036854775808 ≤ i0 ∧ i0 ≤ 9223372036854775807) (bp : -9223372036854775808 ≤ p0 ∧ p0 ≤ 9223372036854775807) (bn : -9223372036854775808 ≤ n0 ∧ n0 ≤ 9223372036854775807) (b1 : -9223372036854775808 ≤ a1 ∧ a1 ≤ 9223372036854775807) :
    Calls Tryd.prog 5 #[head k0 i0 p0 n0, .int .i64 a1] w fun e w' => e = .returned (.bool true) ∧ Below w.heap.size w w' := by
  have hs0 : Table (w.alloc (Obj.cells #[Value.int IntKind.i64 k0, Value.int IntKind.i64 i0, Value.int IntKind.i64 p0, Value.int IntKind.i64 n0] 23)) := h.later (by go_grown)
  have A0 : HeadAt (w.alloc (Obj.cells #[Value.int IntKind.i64 k0, Value.int IntKind.i64 i0, Value.int IntKind.i64 p0, Value.int IntKind.i64 n0] 23)) w.heap.size k0 i0 p0 n0 := HeadAt.fresh w k0 i0 p0 n0
  have C0 : Below w.heap.size w (w.alloc (Obj.cells #[Value.int IntKind.i64 k0, Value.int IntKind.i64 i0, Value.int IntKind.i64 p0, Value.int IntKind.i64 n0] 23)) := by go_grown
  have O := fun w h => over_any k0 i0 p0 n0 a1 w h
  have O' := fun w => refOver_any k0 i0 p0 n0 a1 w
  unfold OverSays at O O'
  obtain ⟨K, hK⟩ : ∃ x, overK k0 i0 p0 n0 a1 = x := ⟨_, rfl⟩
  obtain ⟨P, hP⟩ : ∃ x, overP k0 i0 p0 n0 a1 = x := ⟨_, rfl⟩
  obtain ⟨M, hM⟩ : ∃ x, overN k0 i0 p0 n0 a1 = x := ⟨_, rfl⟩
  obtain ⟨E, hE⟩ : ∃ x, overE k0 i0 p0 n0 a1 = x := ⟨_, rfl⟩
  simp only [hK, hP, hM, hE] at O O'
  clear hK hP hM hE
  go_enter Tryd.func5, Tryd.ntmps5
  go_wp2_with (first
    | (go_at_call 17; refine (O _ hs0).mono ?_; rintro e w1 ⟨rfl, B1⟩; have hs1 := (hs0.later B1).later (Below.alloc (Below.refl _ _) (Nat.le_refl _) (Obj.cells #[Value.int IntKind.i64 K, Value.int IntKind.i64 0, Value.int IntKind.i64 P, Value.int IntKind.i64 M] 23)); have X1 := HeadAt.fresh w1 K 0 P M; have C1 := (C0.trans (B1.mono C0.size)).trans (Below.alloc (Below.refl _ _) (C0.trans (B1.mono C0.size)).size (Obj.cells #[Value.int IntKind.i64 K, Value.int IntKind.i64 0, Value.int IntKind.i64 P, Value.int IntKind.i64 M] 23)); have A1 := (A0.later B1).later (Below.alloc (Below.refl _ _) (Nat.le_refl _) (Obj.cells #[Value.int IntKind.i64 K, Value.int IntKind.i64 0, Value.int IntKind.i64 P, Value.int IntKind.i64 M] 23)); obtain ⟨a0, a1', a2, a3⟩ := A1)
    | (go_at_call 18; refine (O' _).mono ?_; rintro e w2 ⟨rfl, B2⟩; have hs2 := (hs1.later B2).later (Below.alloc (Below.refl _ _) (Nat.le_refl _) (Obj.cells #[Value.int IntKind.i64 K, Value.int IntKind.i64 0, Value.int IntKind.i64 P, Value.int IntKind.i64 M] 23)); have X2 := (X1.later B2).later (Below.alloc (Below.refl _ _) (Nat.le_refl _) (Obj.cells #[Value.int IntKind.i64 K, Value.int IntKind.i64 0, Value.int IntKind.i64 P, Value.int IntKind.i64 M] 23)); have Y2 := HeadAt.fresh w2 K 0 P M; have C2 := (C1.trans (B2.mono C1.size)).trans (Below.alloc (Below.refl _ _) (C1.trans (B2.mono C1.size)).size (Obj.cells #[Value.int IntKind.i64 K, Value.int IntKind.i64 0, Value.int IntKind.i64 P, Value.int IntKind.i64 M] 23)))
    | (go_at_call 8; refine (awake_any _ hs2).mono ?_; rintro e w3 ⟨rfl, B3⟩; have C3 := C2.trans (B3.mono C2.size); obtain ⟨x0, x1, x2, x3⟩ := X2.later B3; obtain ⟨y0, y1, y2, y3⟩ := Y2.later B3))
  go_ret
  exact ⟨rfl, C3⟩

/-- What the walk gives, for every argument and every world that holds the table. -/
theorem contract (H : Type) (enc : TypeId × Value → H) (W : World) (base : Nat) (args : Array Value) (ds gs : List (DataW H)) (before : List MemPlace)
    (hval : ∀ (j : Nat) t v, Tryd.f5.params[j]? = some t → args[j]? = some v → Value.okWide Tryd.prog W .any base t v)
    (hW : DataW.Whole enc Tryd.prog Tryd.f5.params.toList Rows.shapeOverSpec.vars false W args.toList ds gs before) (hL : laidMetH Tryd.prog Rows.shapeOverRow.laid W) :
    Calls Tryd.prog 5 args W fun e W' => ∃ v, e = .returned v ∧ Rows.shapeOverSpec.post enc Tryd.prog Tryd.f5 false true false false W args v W' := by
  have hW' := hW
  obtain ⟨p, q, hA0, hV, rfl, hfz, hnd⟩ := hW
  have hA : DataW.TrodAll enc Tryd.prog W 0 (fun _ => true) true Tryd.f5.params.toList args.toList ds p := hA0
  rw [Tryd.params5] at hA hval
  obtain ⟨v0, vs0, d0, ds0, p0, q0, hargs, rfl, rfl, h0, r0⟩ := trodAll_cons hA
  obtain ⟨v1, vs1, d1, ds1, p1, q1, rfl, rfl, rfl, h1, r1⟩ := trodAll_cons r0
  obtain ⟨rfl, rfl, rfl⟩ := trodAll_nil r1
  obtain rfl : args = #[v0, v1] := by cases args; simp_all
  obtain ⟨rfl, rfl⟩ := trodVars_none hV
  have t0 := h0
  have lt0 : ∀ x ∈ p0, x.block < W.heap.size := by obtain ⟨m, hm⟩ := t0; exact DataW.trod_lt m _ _ _ hm
  obtain ⟨c0, c1, c2, c3, y0, y1, y2, y3, m, rfl, hd0, hp0, hy0, hy1, hy2, hy3⟩ := Joins.open_agg4 Tryd.underlying23 (by kernel_rfl) cells23 (hval 0 23 v0 rfl rfl) h0
  obtain ⟨k0, e0, _, wk0⟩ := DataW.trod_int Tryd.underlying3 hy0
  obtain ⟨i0, e1, _, wi0⟩ := DataW.trod_int Tryd.underlying3 hy1
  obtain ⟨p0', e2, _, wp0⟩ := DataW.trod_int Tryd.underlying3 hy2
  obtain ⟨n0, e3, _, wn0⟩ := DataW.trod_int Tryd.underlying3 hy3
  simp only [List.cons.injEq, and_true] at e0 e1 e2 e3
  subst e0 e1 e2 e3
  clear hy0 hy1 hy2 hy3
  have t1 := h1
  have lt1 : ∀ x ∈ p1, x.block < W.heap.size := by obtain ⟨m, hm⟩ := t1; exact DataW.trod_lt m _ _ _ hm
  obtain ⟨a1, rfl, hd1, hp1, w1⟩ := open_int Tryd.underlying3 (hval 1 3 v1 rfl rfl) h1
  clear hA0
  refine (walk k0 i0 p0' n0 a1 W (table_of hL) (bounds_i64 wk0) (bounds_i64 wi0) (bounds_i64 wp0) (bounds_i64 wn0) (bounds_i64 w1)).mono fun e W' ⟨he, bel⟩ => ?_
  subst he
  exact ⟨_, rfl, _, _, _, [], _, [], hW', trodAll_mk1 (shut_bool Tryd.underlying4 _), (trodAll_cons_mk (Below.trod laidOut (by kernel_rfl) (of_decide_eq_true (by kernel_rfl)) t0 bel lt0) (trodAll_cons_mk (Below.trod laidOut (by kernel_rfl) (of_decide_eq_true (by kernel_rfl)) t1 bel lt1) trodAll_mk0)), rfl, bel.frame _, fun h => by cases h⟩

theorem laid_met (os : Os) : laidMet Tryd.prog Rows.shapeOverRow.laid ((laidWorld os).forCall (fun _ _ => 0) ⟨#[], #[head 0 0 0 0, .int .i64 0], []⟩).memory :=
  laidMet_of_run' 8 (by kernel_rfl) (by kernel_rfl)
theorem reads (os : Os) {H : Type} (enc : TypeId × Value → H) : ∃ places, DataW.whole enc Tryd.prog ((laidWorld os).forCall (fun _ _ => 0) ⟨#[], #[head 0 0 0 0, .int .i64 0], []⟩).memory Tryd.f5.params.toList Rows.shapeOverSpec.vars false #[head 0 0 0 0, .int .i64 0].toList 8 = some ([.agg [.lit (.int .i64 0), .lit (.int .i64 0), .lit (.int .i64 0), .lit (.int .i64 0)], .lit (.int .i64 0)], [], places) :=
  ⟨[], by kernel_rfl⟩

set_option maxRecDepth 100000 in
theorem lifted (os : Os) (started : os.Started) (H : Type) (enc : TypeId × Value → H) (F : Stop.Interp) :
    ReturnsInHanded {} Tryd.checked os 5 .any ((OpenSpec.ofChange Rows.shapeOverSpec).preRow enc Tryd.prog Tryd.f5 Rows.shapeOverRow.domain false Rows.shapeOverRow.laid) (((OpenSpec.ofChange Rows.shapeOverSpec).at F).post enc Tryd.prog Tryd.f5 false true false false) := by
  obtain ⟨places, hx⟩ := reads os enc
  refine returnsInHanded_of_row (C := Tryd.checked) (s := OpenSpec.ofChange Rows.shapeOverSpec) own started (by kernel_rfl) Tryd.func5
    (witness_row_at (enc := enc) (C := Tryd.checked) false (laidWorld os) #[head 0 0 0 0, .int .i64 0] rfl (by kernel_rfl) (by kernel_rfl) (by kernel_rfl)
      (OpenSpec.preRow_of_cond 8 hx (by kernel_rfl) (fun k hk => by cases hk) (by kernel_rfl) (laid_met os))) ?_
  intro W base args ds gs before hval hW _ _ _ hL _ _
  exact contract H enc W base args ds gs before hval hW hL

theorem said : Rows.ShapeOverSaid :=
  OpenClaim.holds_of_cond 5 Tryd.f5 rfl rfl rfl rfl rfl rfl rfl ⟨rfl, rfl, rfl, rfl, rfl⟩ rfl rfl rfl rfl rfl (by kernel_rfl) Tryd.func5 (by kernel_rfl)
    (of_decide_eq_true (by kernel_rfl)) (by unfold Func.isWrapper; first | (rw [if_pos (by decide +kernel)]; kernel_rfl) | (rw [if_neg (by decide +kernel)]; exact ⟨rfl, rfl⟩))
    (fun os started H enc _ F => by rw [OpenClaim.pre_eq_preRow]; exact lifted os started H enc F)

/-- No parameter wants a stand-in; the program's own looks are off: what the card asks. -/
theorem plain (f : FuncId) (fn : Func) (hf : Tryd.pinned.checked.prog.funcNamed "midden/middenlaw04.ShapeOver" = some f) (hfn : Tryd.pinned.checked.prog.funcs[f]? = some fn) :
    false = Tryd.pinned.checked.prog.looks [] ∧ ∀ (j : Nat) t, fn.params[j]? = some t → Tryd.pinned.checked.prog.wantsStandIn t = false := by
  obtain rfl : f = 5 := Option.some.inj ((show Tryd.prog.funcNamed "midden/middenlaw04.ShapeOver" = some 5 by kernel_rfl).symm.trans hf) |>.symm
  obtain rfl : fn = Tryd.f5 := (Option.some.inj (Tryd.func5.symm.trans hfn)).symm
  refine ⟨by kernel_rfl, fun j t ht => ?_⟩
  rw [Tryd.params5] at ht
  have hm : t ∈ [23, 3] := by simpa using Array.mem_of_getElem? ht
  have hall : ([23, 3].all fun u => !Tryd.prog.wantsStandIn u) = true := by kernel_rfl
  exact (show Tryd.prog.wantsStandIn t = false by simpa using List.all_eq_true.1 hall t hm)

theorem card : Rows.ShapeOverCardSaid :=
  Claim7.holds_tied_plain_at .later [] _ _ _ _ said (fun _ h => by cases h) (by kernel_rfl) (fun _ h => by cases h) shapeOver_row_tie rfl ⟨rfl, rfl⟩ (by kernel_rfl) rfl plain (by kernel_rfl)
end Go.Proofs.YtdiibckplkkkkaaDoor.shapeOver

namespace Go.Proofs.YtdiibckplkkkkaaDoor
theorem shapeOver_card : Rows.ShapeOverCardSaid := shapeOver.card
#print axioms shapeOver_card
end Go.Proofs.YtdiibckplkkkkaaDoor
