/-
  The statement PrimNames, as its card says it: for every number and every text, the program and the document give the same name and the same number, and a name is found again by its number.
  Conditions: none on the input; the package-level table of the primitives starts as the program's text lays it (the card ties it to that text, of the pruned copy of the project that this seat holds).
-/
import Derived.Test.YtfopbakhbobgjaaDoorLaid
namespace Go.Proofs.YtfopbakhbobgjaaDoor.primNames
open Go.ChangeShapes Go.WideShapes Go.ChangeAt Go.RowKit
open Go.ChangeMaps (open_string)
set_option linter.unusedVariables false

theorem finds (s : ByteArray) : ∃ r, FindsTo s r := by
  by_cases h : ∃ k, k < 17 ∧ str (tN k) = s
  · obtain ⟨k, hk, e⟩ := h
    exact ⟨k, Or.inl ⟨hk, e⟩⟩
  · exact ⟨0, Or.inr ⟨rfl, fun k hk e => h ⟨k, hk, e⟩⟩⟩
theorem find_is {s : ByteArray} {r : Nat} (F : FindsTo s r) (w : World) (h : Table w) : Calls Tryd.prog 11 #[.string s] w fun e w' => e = .returned (.int .i64 r) ∧ Below w.heap.size w w' :=
  (find_any s w h).mono fun e w' ⟨⟨r', hr, F'⟩, B⟩ => ⟨by rw [hr, F'.one F], B⟩
theorem refFind_is {s : ByteArray} {r : Nat} (F : FindsTo s r) (w : World) : Calls Tryd.prog 12 #[.string s] w fun e w' => e = .returned (.int .i64 r) ∧ w' = w :=
  (refFind_any s w).mono fun e w' ⟨⟨r', hr, F'⟩, B⟩ => ⟨by rw [hr, F'.one F], B⟩
theorem noName : ∀ k, k < 17 → k ≠ 0 → tN k ≠ [] := by decide

set_option maxHeartbeats 2000000 in
theorem walk_a (a0 : Int) (s1 : ByteArray) (w : World) (h : Table w) (z : rowN a0 = 0) :
    Calls Tryd.prog 3 #[.int .i64 a0, .string s1] w fun e w' => e = .returned (.bool true) ∧ Below w.heap.size w w' := by
  obtain ⟨r, F⟩ := finds s1
  have N := name_any a0
  have M := refName_any a0
  have G := fun w h => find_is F w h
  have G' := fun w => refFind_is F w
  have q : ((str (tN (rowN a0))).toList == []) = true := by rw [z, ByteArray.toList_eq]; rfl
  have d : ((str (tN (rowN a0))).toList == (str (tN (rowN a0))).toList) = true := by simp
  generalize str (tN (rowN a0)) = t at *
  clear F z
  go_enter Tryd.func3, Tryd.ntmps3
  go_wp2_with (first
    | (go_at_call 8; refine (awake_any _ h).mono ?_; rintro e w1 ⟨rfl, B1⟩; have T1 := h.later B1)
    | (go_at_call 9; refine (N _ T1).mono ?_; rintro e w2 ⟨rfl, B2⟩; replace T1 := T1.later B2; replace B1 := belowOn B1 B2)
    | (go_at_call 10; refine (M _).mono ?_; rintro e w3 ⟨rfl, rfl⟩)
    | (go_at_call 11; refine (G _ T1).mono ?_; rintro e w4 ⟨rfl, B2⟩; replace T1 := T1.later B2; replace B1 := belowOn B1 B2)
    | (go_at_call 12; refine (G' _).mono ?_; rintro e w5 ⟨rfl, rfl⟩))
  go_ret
  exact ⟨rfl, B1⟩
set_option maxHeartbeats 2000000 in
theorem walk_b (k : Nat) (hk : k < 17) (s1 : ByteArray) (w : World) (h : Table w) (z : k ≠ 0) :
    Calls Tryd.prog 3 #[.int .i64 k, .string s1] w fun e w' => e = .returned (.bool true) ∧ Below w.heap.size w w' := by
  obtain ⟨r, F⟩ := finds s1
  have N := name_any k
  have M := refName_any k
  rw [rowN_in hk] at N M
  have G := fun w h => find_is F w h
  have G' := fun w => refFind_is F w
  have GT := fun w h => find_is (Or.inl ⟨hk, rfl⟩ : FindsTo (str (tN k)) k) w h
  have q : ((str (tN k)).toList == []) = false := by rw [ByteArray.toList_eq]; exact beq_eq_false_iff_ne.2 (by simpa [str] using noName k hk z)
  have d : ((str (tN k)).toList == (str (tN k)).toList) = true := by simp
  generalize str (tN k) = t at *
  clear F z hk
  go_enter Tryd.func3, Tryd.ntmps3
  go_wp2_with (first
    | (go_at_call 8; refine (awake_any _ h).mono ?_; rintro e w1 ⟨rfl, B1⟩; have T1 := h.later B1)
    | (go_at_call 9; refine (N _ T1).mono ?_; rintro e w2 ⟨rfl, B2⟩; replace T1 := T1.later B2; replace B1 := belowOn B1 B2)
    | (go_at_call 10; refine (M _).mono ?_; rintro e w3 ⟨rfl, rfl⟩)
    | (go_at_call_of 11 (Value.string s1); refine (G _ T1).mono ?_; rintro e w4 ⟨rfl, B2⟩; replace T1 := T1.later B2; replace B1 := belowOn B1 B2)
    | (go_at_call_of 11 (Value.string t); refine (GT _ T1).mono ?_; rintro e w4 ⟨rfl, B2⟩; replace T1 := T1.later B2; replace B1 := belowOn B1 B2)
    | (go_at_call 12; refine (G' _).mono ?_; rintro e w5 ⟨rfl, rfl⟩))
  go_ret
  exact ⟨rfl, B1⟩
theorem walk (a0 : Int) (s1 : ByteArray) (w : World) (h : Table w) (b0 : -9223372036854775808 ≤ a0 ∧ a0 ≤ 9223372036854775807) :
    Calls Tryd.prog 3 #[.int .i64 a0, .string s1] w fun e w' => e = .returned (.bool true) ∧ Below w.heap.size w w' := by
  by_cases z : rowN a0 = 0
  · exact walk_a a0 s1 w h z
  · obtain ⟨k, rfl⟩ : ∃ k : Nat, a0 = k := ⟨a0.toNat, by unfold rowN at z; split at z <;> omega⟩
    have hk : k < 17 := by unfold rowN at z; split at z <;> omega
    rw [rowN_in hk] at z
    exact walk_b k hk s1 w h z

/-- What the walk gives, for every argument and every world that holds the table. -/
theorem contract (H : Type) (enc : TypeId × Value → H) (W : World) (base : Nat) (args : Array Value) (ds gs : List (DataW H)) (before : List MemPlace)
    (hval : ∀ (j : Nat) t v, Tryd.f3.params[j]? = some t → args[j]? = some v → Value.okWide Tryd.prog W .any base t v)
    (hW : DataW.Whole enc Tryd.prog Tryd.f3.params.toList Rows.primNamesSpec.vars false W args.toList ds gs before) (hL : laidMetH Tryd.prog Rows.primNamesRow.laid W) :
    Calls Tryd.prog 3 args W fun e W' => ∃ v, e = .returned v ∧ Rows.primNamesSpec.post enc Tryd.prog Tryd.f3 false true false false W args v W' := by
  have hW' := hW
  obtain ⟨p, q, hA0, hV, rfl, hfz, hnd⟩ := hW
  have hA : DataW.TrodAll enc Tryd.prog W 0 (fun _ => true) true Tryd.f3.params.toList args.toList ds p := hA0
  rw [Tryd.params3] at hA hval
  obtain ⟨v0, vs0, d0, ds0, p0, q0, hargs, rfl, rfl, h0, r0⟩ := trodAll_cons hA
  obtain ⟨v1, vs1, d1, ds1, p1, q1, rfl, rfl, rfl, h1, r1⟩ := trodAll_cons r0
  obtain ⟨rfl, rfl, rfl⟩ := trodAll_nil r1
  obtain rfl : args = #[v0, v1] := by cases args; simp_all
  obtain ⟨rfl, rfl⟩ := trodVars_none hV
  have t0 := h0
  have lt0 : ∀ x ∈ p0, x.block < W.heap.size := by obtain ⟨m, hm⟩ := t0; exact DataW.trod_lt m _ _ _ hm
  obtain ⟨a0, rfl, hd0, hp0, w0⟩ := open_int Tryd.underlying3 (hval 0 3 v0 rfl rfl) h0
  have t1 := h1
  have lt1 : ∀ x ∈ p1, x.block < W.heap.size := by obtain ⟨m, hm⟩ := t1; exact DataW.trod_lt m _ _ _ hm
  obtain ⟨s1, rfl, hd1, hp1, ws1⟩ := open_string Tryd.underlying9 (hval 1 9 v1 rfl rfl) h1
  clear hA0
  refine (walk a0 s1 W (table_of hL) (bounds_i64 w0) ).mono fun e W' ⟨he, bel⟩ => ?_
  subst he
  exact ⟨_, rfl, _, _, _, [], _, [], hW', trodAll_mk1 (shut_bool Tryd.underlying4 _), (trodAll_cons_mk (Below.trod laidOut (by kernel_rfl) (of_decide_eq_true (by kernel_rfl)) t0 bel lt0) (trodAll_cons_mk (Below.trod laidOut (by kernel_rfl) (of_decide_eq_true (by kernel_rfl)) t1 bel lt1) trodAll_mk0)), rfl, bel.frame _, fun h => by cases h⟩

theorem laid_met (os : Os) : laidMet Tryd.prog Rows.primNamesRow.laid ((laidWorld os).forCall (fun _ _ => 0) ⟨#[], #[.int .i64 0, .string ⟨#[]⟩], []⟩).memory :=
  laidMet_of_run' 8 (by kernel_rfl) (by kernel_rfl)
theorem reads (os : Os) {H : Type} (enc : TypeId × Value → H) : ∃ places, DataW.whole enc Tryd.prog ((laidWorld os).forCall (fun _ _ => 0) ⟨#[], #[.int .i64 0, .string ⟨#[]⟩], []⟩).memory Tryd.f3.params.toList Rows.primNamesSpec.vars false #[.int .i64 0, .string ⟨#[]⟩].toList 8 = some ([.lit (.int .i64 0), .lit (.string [])], [], places) :=
  ⟨[], by kernel_rfl⟩

set_option maxRecDepth 100000 in
theorem lifted (os : Os) (started : os.Started) (H : Type) (enc : TypeId × Value → H) (F : Stop.Interp) :
    ReturnsInHanded {} Tryd.checked os 3 .any ((OpenSpec.ofChange Rows.primNamesSpec).preRow enc Tryd.prog Tryd.f3 Rows.primNamesRow.domain false Rows.primNamesRow.laid) (((OpenSpec.ofChange Rows.primNamesSpec).at F).post enc Tryd.prog Tryd.f3 false true false false) := by
  obtain ⟨places, hx⟩ := reads os enc
  refine returnsInHanded_of_row (C := Tryd.checked) (s := OpenSpec.ofChange Rows.primNamesSpec) own started (by kernel_rfl) Tryd.func3
    (witness_row_at (enc := enc) (C := Tryd.checked) false (laidWorld os) #[.int .i64 0, .string ⟨#[]⟩] rfl (by kernel_rfl) (by kernel_rfl) (by kernel_rfl)
      (OpenSpec.preRow_of_cond 8 hx (by kernel_rfl) (fun k hk => by cases hk) (by kernel_rfl) (laid_met os))) ?_
  intro W base args ds gs before hval hW _ _ _ hL _ _
  exact contract H enc W base args ds gs before hval hW hL

theorem said : Rows.PrimNamesSaid :=
  OpenClaim.holds_of_cond 3 Tryd.f3 rfl rfl rfl rfl rfl rfl rfl ⟨rfl, rfl, rfl, rfl, rfl⟩ rfl rfl rfl rfl rfl (by kernel_rfl) Tryd.func3 (by kernel_rfl)
    (of_decide_eq_true (by kernel_rfl)) (by unfold Func.isWrapper; first | (rw [if_pos (by decide +kernel)]; kernel_rfl) | (rw [if_neg (by decide +kernel)]; exact ⟨rfl, rfl⟩))
    (fun os started H enc _ F => by rw [OpenClaim.pre_eq_preRow]; exact lifted os started H enc F)

/-- No parameter wants a stand-in; the program's own looks are off: what the card asks. -/
theorem plain (f : FuncId) (fn : Func) (hf : Tryd.pinned.checked.prog.funcNamed "midden/middenlaw08.PrimNames" = some f) (hfn : Tryd.pinned.checked.prog.funcs[f]? = some fn) :
    false = Tryd.pinned.checked.prog.looks [] ∧ ∀ (j : Nat) t, fn.params[j]? = some t → Tryd.pinned.checked.prog.wantsStandIn t = false := by
  obtain rfl : f = 3 := Option.some.inj ((show Tryd.prog.funcNamed "midden/middenlaw08.PrimNames" = some 3 by kernel_rfl).symm.trans hf) |>.symm
  obtain rfl : fn = Tryd.f3 := (Option.some.inj (Tryd.func3.symm.trans hfn)).symm
  refine ⟨by kernel_rfl, fun j t ht => ?_⟩
  rw [Tryd.params3] at ht
  have hm : t ∈ [3, 9] := by simpa using Array.mem_of_getElem? ht
  have hall : ([3, 9].all fun u => !Tryd.prog.wantsStandIn u) = true := by kernel_rfl
  exact (show Tryd.prog.wantsStandIn t = false by simpa using List.all_eq_true.1 hall t hm)

theorem card : Rows.PrimNamesCardSaid :=
  Claim7.holds_tied_plain_at .later [] _ _ _ _ said (fun _ h => by cases h) (by kernel_rfl) (fun _ h => by cases h) primNames_row_tie rfl ⟨rfl, rfl⟩ (by kernel_rfl) rfl plain (by kernel_rfl)
end Go.Proofs.YtfopbakhbobgjaaDoor.primNames

namespace Go.Proofs.YtfopbakhbobgjaaDoor
theorem primNames_card : Rows.PrimNamesCardSaid := primNames.card
#print axioms primNames_card
end Go.Proofs.YtfopbakhbobgjaaDoor
