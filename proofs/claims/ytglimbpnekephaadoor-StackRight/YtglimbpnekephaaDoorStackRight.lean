/-
  StackRight: of every frame package stack's Right tells what the document's Right tells, and what must come at any rate comes.
  Conditions: none on the input; the package-level table of the frames' kinds starts as the program's text lays it (the card ties it to that text, of the pruned copy of the project that this seat holds).
-/
import Derived.Test.YtglimbpnekephaaDoorOpn
import Derived.Test.YtglimbpnekephaaDoorRef
import Derived.Deep.DeepHandedRow
namespace Go.Proofs.YtglimbpnekephaaDoor.stackRight
open Go.ChangeShapes Go.WideShapes Go.ChangeAt Go.RowKit
open Go.ChangeMaps (open_string)
set_option linter.unusedVariables false
set_option linter.unusedSimpArgs false

set_option maxRecDepth 100000 in
set_option maxHeartbeats 2000000 in
theorem walk (f : Fr) (o : Option Addr) (cap : Nat) (w : World) (T : Table w) (P : PS w o cap f.ps) : Calls Tryd.prog 4 #[fv f o cap] w fun e w' => e = .returned (.bool true) ∧ Below w.heap.size w w' := by
  have AW := fun W (B : Below w.heap.size w W) => awake_any W (T.later B)
  have RI := fun W (B : Below w.heap.size w W) => right_any f o cap W (T.later B) (P.later B)
  have RF := fun W (B : Below w.heap.size w W) => ref_any f o cap W (P.later B)
  have FA := Hid.mk (FrAt.fresh w f.k f.a f.b (.slice o f.ps.length cap))
  unfold fv at *
  obtain ⟨fk, fa, fb, ps⟩ := f
  generalize rightE _ = E at *
  dsimp only at *
  generalize ps.length = n at *
  clear P T
  have e1 : (E == E) = true := by simp
  obtain ⟨z, hz⟩ : ∃ z, z = w.heap.size := ⟨_, rfl⟩
  rw [← hz] at FA
  have B0 : Below w.heap.size w (w.alloc (Obj.cells #[.int .i64 fk, .int .i64 fa, .int .i64 fb, .slice o n cap] 36)) := by go_grown
  have HB0 := Hid.mk B0
  go_enter Tryd.func4, Tryd.ntmps4
  go_wp2
  rw [← hz]
  clear hz B0
  generalize w.alloc (Obj.cells #[.int .i64 fk, .int .i64 fa, .int .i64 fb, .slice o n cap] 36) = W at *
  obtain ⟨x0, x1, x2, x3⟩ := FA.out
  go_region_held3 (fun W' => W'.cell? ⟨z, 0, none⟩ = some (.int .i64 fk) ∧ W'.cell? ⟨z, 1, none⟩ = some (.int .i64 fa) ∧ W'.cell? ⟨z, 2, none⟩ = some (.int .i64 fb) ∧ W'.cell? ⟨z, 3, none⟩ = some (.slice o n cap)) (go_keep) (first
    | (go_at_call 10; have B1 := belowOn HB0.out (below_drew W); refine (AW _ B1).mono ?_; rintro e w1 ⟨rfl, BA⟩; have HB1 := Hid.mk (belowOn B1 BA); obtain ⟨y0, y1, y2, y3⟩ := (FA.out.later (below_drew W)).later BA; have HF1 := Hid.mk ((FA.out.later (below_drew W)).later BA); clear B1)
    | (go_at_call 13; refine (RI _ HB1.out).mono ?_; rintro e w2 ⟨rfl, BR⟩; have HB2 := Hid.mk (belowOn HB1.out BR); obtain ⟨u0, u1, u2, u3⟩ := HF1.out.later BR; have HF2 := Hid.mk (HF1.out.later BR))
    | (go_at_call 14; refine (RF _ HB2.out).mono ?_; rintro e w3 ⟨rfl, BS⟩; have HB3 := Hid.mk (belowOn HB2.out BS); obtain ⟨v0, v1, v2, v3⟩ := HF2.out.later BS))
  all_goals go_wp2
  all_goals go_ret
  all_goals exact ⟨rfl, HB3.out⟩


set_option maxRecDepth 100000 in
/-- What the walk gives, for every argument and every world that holds the table. -/
theorem contract (H : Type) (enc : TypeId × Value → H) (W : World) (base : Nat) (args : Array Value) (ds gs : List (DataW H)) (before : List MemPlace)
    (hval : ∀ (j : Nat) t v, Tryd.f4.params[j]? = some t → args[j]? = some v → Value.okWide Tryd.prog W .any base t v)
    (hW : DataW.Whole enc Tryd.prog Tryd.f4.params.toList Rows.stackRightSpec.vars false W args.toList ds gs before) (hL : laidMetH Tryd.prog Rows.stackRightRow.laid W) :
    Calls Tryd.prog 4 args W fun e W' => ∃ v, e = .returned v ∧ Rows.stackRightSpec.post enc Tryd.prog Tryd.f4 false true false false W args v W' := by
  have hW' := hW
  obtain ⟨p, q, hA0, hV, rfl, hfz, hnd⟩ := hW
  have hA : DataW.TrodAll enc Tryd.prog W 0 (fun _ => true) true Tryd.f4.params.toList args.toList ds p := hA0
  rw [Tryd.params4] at hA hval
  obtain ⟨v0, vs0, d0, ds0, p0, q0, hargs, rfl, rfl, h0, r0⟩ := trodAll_cons hA
  obtain ⟨rfl, rfl, rfl⟩ := trodAll_nil r0
  obtain rfl : args = #[v0] := by cases args; simp_all
  obtain ⟨rfl, rfl⟩ := trodVars_none hV
  have t0 := h0
  have lt0 : ∀ x ∈ p0, x.block < W.heap.size := by obtain ⟨m, hm⟩ := t0; exact DataW.trod_lt m _ _ _ hm
  obtain ⟨f0, o0, cap0, rfl, P0⟩ := open_fr h0
  clear hA0
  refine (walk f0 o0 cap0 W (table_of hL) P0).mono fun e W' ⟨he, bel⟩ => ?_
  subst he
  exact ⟨_, rfl, _, _, _, [], _, [], hW', trodAll_mk1 (shut_bool Tryd.underlying4 _), (trodAll_cons_mk (Below.trod laidOut (by kernel_rfl) (of_decide_eq_true (by kernel_rfl)) t0 bel lt0) trodAll_mk0), rfl, bel.frame _, fun h => by cases h⟩

theorem laid_met (os : Os) : laidMet Tryd.prog Rows.stackRightRow.laid ((laidWorld os).forCall (fun _ _ => 0) ⟨#[], #[.agg #[.int .i64 0, .int .i64 0, .int .i64 0, .slice none 0 0]], []⟩).memory :=
  laidMet_of_run' 8 (by kernel_rfl) (by kernel_rfl)
theorem reads (os : Os) {H : Type} (enc : TypeId × Value → H) : ∃ places, DataW.whole enc Tryd.prog ((laidWorld os).forCall (fun _ _ => 0) ⟨#[], #[.agg #[.int .i64 0, .int .i64 0, .int .i64 0, .slice none 0 0]], []⟩).memory Tryd.f4.params.toList Rows.stackRightSpec.vars false #[.agg #[.int .i64 0, .int .i64 0, .int .i64 0, .slice none 0 0]].toList 8 = some ([.agg [.lit (.int .i64 0), .lit (.int .i64 0), .lit (.int .i64 0), .nil]], [], places) :=
  ⟨[], by kernel_rfl⟩

set_option maxRecDepth 100000 in
theorem lifted (os : Os) (started : os.Started) (H : Type) (enc : TypeId × Value → H) (F : Stop.Interp) :
    ReturnsInHanded {} Tryd.checked os 4 .any ((OpenSpec.ofChange Rows.stackRightSpec).preRow enc Tryd.prog Tryd.f4 Rows.stackRightRow.domain false Rows.stackRightRow.laid) (((OpenSpec.ofChange Rows.stackRightSpec).at F).post enc Tryd.prog Tryd.f4 false true false false) := by
  obtain ⟨places, hx⟩ := reads os enc
  refine returnsInHanded_of_row (C := Tryd.checked) (s := OpenSpec.ofChange Rows.stackRightSpec) own started (by kernel_rfl) Tryd.func4
    (witness_row_at (enc := enc) (C := Tryd.checked) false (laidWorld os) #[.agg #[.int .i64 0, .int .i64 0, .int .i64 0, .slice none 0 0]] rfl (by kernel_rfl) (by kernel_rfl) (by kernel_rfl)
      (OpenSpec.preRow_of_cond 8 hx (by kernel_rfl) (fun k hk => by cases hk) (by kernel_rfl) (laid_met os))) ?_
  intro W base args ds gs before hval hW _ hcond _ hL _ _
  exact contract H enc W base args ds gs before hval hW hL

theorem said : Rows.StackRightSaid :=
  OpenClaim.holds_of_cond 4 Tryd.f4 rfl rfl rfl rfl rfl rfl rfl ⟨rfl, rfl, rfl, rfl, rfl⟩ rfl rfl rfl rfl rfl (by kernel_rfl) Tryd.func4 (by kernel_rfl)
    (of_decide_eq_true (by kernel_rfl)) (by unfold Func.isWrapper; first | (rw [if_pos (by decide +kernel)]; kernel_rfl) | (rw [if_neg (by decide +kernel)]; exact ⟨rfl, rfl⟩))
    (fun os started H enc _ F => by rw [OpenClaim.pre_eq_preRow]; exact lifted os started H enc F)

/-- No parameter wants a stand-in; the program's own looks are off: what the card asks. -/
theorem plain (f : FuncId) (fn : Func) (hf : Tryd.pinned.checked.prog.funcNamed "midden/middenlaw14.StackRight" = some f) (hfn : Tryd.pinned.checked.prog.funcs[f]? = some fn) :
    false = Tryd.pinned.checked.prog.looks [] ∧ ∀ (j : Nat) t, fn.params[j]? = some t → Tryd.pinned.checked.prog.wantsStandIn t = false := by
  obtain rfl : f = 4 := Option.some.inj ((show Tryd.prog.funcNamed "midden/middenlaw14.StackRight" = some 4 by kernel_rfl).symm.trans hf) |>.symm
  obtain rfl : fn = Tryd.f4 := (Option.some.inj (Tryd.func4.symm.trans hfn)).symm
  refine ⟨by kernel_rfl, fun j t ht => ?_⟩
  rw [Tryd.params4] at ht
  have hm : t ∈ [36] := by simpa using Array.mem_of_getElem? ht
  have hall : ([36].all fun u => !Tryd.prog.wantsStandIn u) = true := by kernel_rfl
  exact (show Tryd.prog.wantsStandIn t = false by simpa using List.all_eq_true.1 hall t hm)

theorem card : Rows.StackRightCardSaid :=
  Claim7.holds_tied_plain_at .later [] _ _ _ _ said (fun _ h => by cases h) (by kernel_rfl) (fun _ h => by cases h) stackRight_row_tie rfl ⟨rfl, rfl⟩ (by kernel_rfl) rfl plain (by kernel_rfl)
end Go.Proofs.YtglimbpnekephaaDoor.stackRight

namespace Go.Proofs.YtglimbpnekephaaDoor
theorem stackRight_card : Rows.StackRightCardSaid := stackRight.card
#print axioms stackRight_card
end Go.Proofs.YtglimbpnekephaaDoor
