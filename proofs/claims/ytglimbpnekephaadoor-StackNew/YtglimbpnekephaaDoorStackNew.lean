/-
  StackNew: for every size of an arena, every place and every number of words, package stack's New tells the document's error or makes a stack, and what must come at any rate comes.
  Conditions: none on the input; the package-level table of the frames' kinds starts as the program's text lays it (the card ties it to that text, of the pruned copy of the project that this seat holds).
-/
import Derived.Test.YtglimbpnekephaaDoorOpn
import Derived.Deep.DeepHandedRow
namespace Go.Proofs.YtglimbpnekephaaDoor.stackNew
open Go.ChangeShapes Go.WideShapes Go.ChangeAt Go.RowKit
open Go.ChangeMaps (open_string)
set_option linter.unusedVariables false
set_option linter.unusedSimpArgs false

theorem snew_nil (y z : Int) (w : World) : Calls Tryd.prog 16 #[.pointer none, .int .i64 y, .int .i64 z] w fun e w' => e = .returned (.tuple #[.pointer none, .int .i64 1]) ∧ w' = w := by
  go_enter Tryd.func16, Tryd.ntmps16
  go_wp2
  go_ret2
  exact ⟨rfl, rfl⟩
theorem snew_lo {a : Nat} (y z : Int) (w : World) (h : z < 1) : Calls Tryd.prog 16 #[.pointer (some ⟨a, 0, none⟩), .int .i64 y, .int .i64 z] w fun e w' => e = .returned (.tuple #[.pointer none, .int .i64 7]) ∧ w' = w := by
  go_enter Tryd.func16, Tryd.ntmps16
  go_wp2
  go_ret2
  exact ⟨rfl, rfl⟩
theorem snew_hi {a : Nat} (y z : Int) (w : World) (h : 65536 < z) : Calls Tryd.prog 16 #[.pointer (some ⟨a, 0, none⟩), .int .i64 y, .int .i64 z] w fun e w' => e = .returned (.tuple #[.pointer none, .int .i64 7]) ∧ w' = w := by
  have h1 : 1 ≤ z := by omega
  go_enter Tryd.func16, Tryd.ntmps16
  go_wp2
  go_ret2
  exact ⟨rfl, rfl⟩
theorem snew_neg {a : Nat} (y z : Int) (w : World) (h1 : 1 ≤ z) (h2 : z ≤ 65536) (h3 : y < 0) : Calls Tryd.prog 16 #[.pointer (some ⟨a, 0, none⟩), .int .i64 y, .int .i64 z] w fun e w' => e = .returned (.tuple #[.pointer none, .int .i64 4]) ∧ w' = w := by
  go_enter Tryd.func16, Tryd.ntmps16
  go_wp2
  go_ret2
  exact ⟨rfl, rfl⟩
theorem snew_far {a b : Nat} {ws : List Int} (y z : Int) (w : World) (H : Has w a b ws) (h1 : 1 ≤ z) (h2 : z ≤ 65536) (h3 : 0 ≤ y) (h4 : (ws.length : Int) - z < y) : Calls Tryd.prog 16 #[.pointer (some ⟨a, 0, none⟩), .int .i64 y, .int .i64 z] w fun e w' => e = .returned (.tuple #[.pointer none, .int .i64 4]) ∧ w' = w := by
  have LA := len_any H
  have l := H.len
  go_enter Tryd.func16, Tryd.ntmps16
  go_wp2_with (go_at_call 40; refine LA.mono ?_; rintro e w' ⟨rfl, rfl⟩)
  go_ret2
  exact ⟨rfl, rfl⟩
theorem w_none (x y z : Int) (w : World) (T : Table w) (bx : In64 x) (by_ : In64 y) (bz : In64 z) (h : ¬ (1 ≤ x ∧ x ≤ 524288)) : Calls Tryd.prog 5 #[.int .i64 x, .int .i64 y, .int .i64 z] w fun e w' => e = .returned (.bool true) ∧ Below w.heap.size w w' := by
  go_enter Tryd.func5, Tryd.ntmps5
  go_wp2_with (first
    | (go_at_call 15; refine (new_no x _ h).mono ?_; rintro e w1 ⟨rfl, rfl⟩)
    | (go_at_call 16; refine (snew_nil y z _).mono ?_; rintro e w2 ⟨rfl, rfl⟩)
    | (go_at_call 10; refine (awake_any w2 (T.later (Below.refl _ _))).mono ?_; rintro e w3 ⟨rfl, B3⟩))
  go_ret
  exact ⟨rfl, belowOn (Below.refl _ _) B3⟩

theorem w_lo (x y z : Int) (w : World) (T : Table w) (bx : In64 x) (by_ : In64 y) (bz : In64 z) (h : 1 ≤ x ∧ x ≤ 524288) (hz : z < 1) : Calls Tryd.prog 5 #[.int .i64 x, .int .i64 y, .int .i64 z] w fun e w' => e = .returned (.bool true) ∧ Below w.heap.size w w' := by
  obtain ⟨n, rfl⟩ := Int.eq_ofNat_of_zero_le (show 0 ≤ x by omega)
  have NA := new_ok n w (by omega) (by omega)
  go_enter Tryd.func5, Tryd.ntmps5
  go_wp2_with (first
    | (go_at_call 15; refine NA.mono ?_; rintro e w1 ⟨rfl, H1, B1⟩)
    | (go_at_call 16; refine (snew_lo y z _ hz).mono ?_; rintro e w2 ⟨rfl, rfl⟩)
    | (go_at_call 10; refine (awake_any w2 (T.later B1)).mono ?_; rintro e w3 ⟨rfl, B3⟩))
  go_ret
  exact ⟨rfl, belowOn B1 B3⟩

theorem w_hi (x y z : Int) (w : World) (T : Table w) (bx : In64 x) (by_ : In64 y) (bz : In64 z) (h : 1 ≤ x ∧ x ≤ 524288) (hz : 65536 < z) : Calls Tryd.prog 5 #[.int .i64 x, .int .i64 y, .int .i64 z] w fun e w' => e = .returned (.bool true) ∧ Below w.heap.size w w' := by
  obtain ⟨n, rfl⟩ := Int.eq_ofNat_of_zero_le (show 0 ≤ x by omega)
  have NA := new_ok n w (by omega) (by omega)
  have hz1 : 1 ≤ z := by omega
  go_enter Tryd.func5, Tryd.ntmps5
  go_wp2_with (first
    | (go_at_call 15; refine NA.mono ?_; rintro e w1 ⟨rfl, H1, B1⟩)
    | (go_at_call 16; refine (snew_hi y z _ hz).mono ?_; rintro e w2 ⟨rfl, rfl⟩)
    | (go_at_call 10; refine (awake_any w2 (T.later B1)).mono ?_; rintro e w3 ⟨rfl, B3⟩))
  go_ret
  exact ⟨rfl, belowOn B1 B3⟩

theorem w_neg (x y z : Int) (w : World) (T : Table w) (bx : In64 x) (by_ : In64 y) (bz : In64 z) (h : 1 ≤ x ∧ x ≤ 524288) (hz : 1 ≤ z) (hz2 : z ≤ 65536) (hy : y < 0) : Calls Tryd.prog 5 #[.int .i64 x, .int .i64 y, .int .i64 z] w fun e w' => e = .returned (.bool true) ∧ Below w.heap.size w w' := by
  obtain ⟨n, rfl⟩ := Int.eq_ofNat_of_zero_le (show 0 ≤ x by omega)
  have NA := new_ok n w (by omega) (by omega)
  go_enter Tryd.func5, Tryd.ntmps5
  go_wp2_with (first
    | (go_at_call 15; refine NA.mono ?_; rintro e w1 ⟨rfl, H1, B1⟩)
    | (go_at_call 16; refine (snew_neg y z _ hz hz2 hy).mono ?_; rintro e w2 ⟨rfl, rfl⟩)
    | (go_at_call 10; refine (awake_any w2 (T.later B1)).mono ?_; rintro e w3 ⟨rfl, B3⟩))
  go_ret
  exact ⟨rfl, belowOn B1 B3⟩

theorem w_far1 (x y z : Int) (w : World) (T : Table w) (bx : In64 x) (by_ : In64 y) (bz : In64 z) (h : 1 ≤ x ∧ x ≤ 524288) (hz : 1 ≤ z) (hz2 : z ≤ 65536) (hy : 0 ≤ y) (hy2 : x < y) : Calls Tryd.prog 5 #[.int .i64 x, .int .i64 y, .int .i64 z] w fun e w' => e = .returned (.bool true) ∧ Below w.heap.size w w' := by
  obtain ⟨n, rfl⟩ := Int.eq_ofNat_of_zero_le (show 0 ≤ x by omega)
  have NA := new_ok n w (by omega) (by omega)
  have b1 := by_.2
  go_enter Tryd.func5, Tryd.ntmps5
  go_wp2_with (first
    | (go_at_call 15; refine NA.mono ?_; rintro e w1 ⟨rfl, H1, B1⟩)
    | (go_at_call 16; refine (snew_far y z _ H1 hz hz2 hy (by simp; omega)).mono ?_; rintro e w2 ⟨rfl, rfl⟩)
    | (go_at_call 10; refine (awake_any w2 (T.later B1)).mono ?_; rintro e w3 ⟨rfl, B3⟩))
  go_ret
  exact ⟨rfl, belowOn B1 B3⟩

theorem w_far2 (x y z : Int) (w : World) (T : Table w) (bx : In64 x) (by_ : In64 y) (bz : In64 z) (h : 1 ≤ x ∧ x ≤ 524288) (hz : 1 ≤ z) (hz2 : z ≤ 65536) (hy : 0 ≤ y) (hy2 : y ≤ x) (hy3 : x - y < z) : Calls Tryd.prog 5 #[.int .i64 x, .int .i64 y, .int .i64 z] w fun e w' => e = .returned (.bool true) ∧ Below w.heap.size w w' := by
  obtain ⟨n, rfl⟩ := Int.eq_ofNat_of_zero_le (show 0 ≤ x by omega)
  have NA := new_ok n w (by omega) (by omega)
  go_enter Tryd.func5, Tryd.ntmps5
  go_wp2_with (first
    | (go_at_call 15; refine NA.mono ?_; rintro e w1 ⟨rfl, H1, B1⟩)
    | (go_at_call 16; refine (snew_far y z _ H1 hz hz2 hy (by simp; omega)).mono ?_; rintro e w2 ⟨rfl, rfl⟩)
    | (go_at_call 10; refine (awake_any w2 (T.later B1)).mono ?_; rintro e w3 ⟨rfl, B3⟩))
  go_ret
  exact ⟨rfl, belowOn B1 B3⟩

theorem w_ok (x y z : Int) (w : World) (T : Table w) (bx : In64 x) (by_ : In64 y) (bz : In64 z) (h : 1 ≤ x ∧ x ≤ 524288) (hz : 1 ≤ z) (hz2 : z ≤ 65536) (hy : 0 ≤ y) (hy2 : y ≤ x) (hy3 : z ≤ x - y) : Calls Tryd.prog 5 #[.int .i64 x, .int .i64 y, .int .i64 z] w fun e w' => e = .returned (.bool true) ∧ Below w.heap.size w w' := by
  obtain ⟨n, rfl⟩ := Int.eq_ofNat_of_zero_le (show 0 ≤ x by omega)
  obtain ⟨F, rfl⟩ := Int.eq_ofNat_of_zero_le hy
  obtain ⟨M, rfl⟩ := Int.eq_ofNat_of_zero_le (show 0 ≤ z by omega)
  have NA := new_ok n w (by omega) (by omega)
  have SN := fun (W : World) (H : Has W (w.heap.size + 1) w.heap.size (List.replicate n 0)) => snew_ok H F M (by omega) (by omega) (by simp; omega)
  go_enter Tryd.func5, Tryd.ntmps5
  go_wp2_with (first
    | (go_at_call 15; refine NA.mono ?_; rintro e w1 ⟨rfl, H1, B1⟩)
    | (go_at_call 16; refine (SN w1 H1).mono ?_; rintro e w2 ⟨rfl, S2, B2⟩)
    | (go_at_call 10; refine (awake_any w2 (T.later (belowOn B1 B2))).mono ?_; rintro e w3 ⟨rfl, B3⟩))
  go_ret
  exact ⟨rfl, belowOn (belowOn B1 B2) B3⟩

theorem walk (x y z : Int) (w : World) (T : Table w) (bx : In64 x) (by_ : In64 y) (bz : In64 z) : Calls Tryd.prog 5 #[.int .i64 x, .int .i64 y, .int .i64 z] w fun e w' => e = .returned (.bool true) ∧ Below w.heap.size w w' := by
  by_cases h : 1 ≤ x ∧ x ≤ 524288
  · by_cases h1 : z < 1
    · exact w_lo x y z w T bx by_ bz h h1
    · by_cases h2 : 65536 < z
      · exact w_hi x y z w T bx by_ bz h h2
      · by_cases h3 : y < 0
        · exact w_neg x y z w T bx by_ bz h (by omega) (by omega) h3
        · by_cases h4 : x < y
          · exact w_far1 x y z w T bx by_ bz h (by omega) (by omega) (by omega) h4
          · by_cases h5 : x - y < z
            · exact w_far2 x y z w T bx by_ bz h (by omega) (by omega) (by omega) (by omega) h5
            · exact w_ok x y z w T bx by_ bz h (by omega) (by omega) (by omega) (by omega) (by omega)
  · exact w_none x y z w T bx by_ bz h


set_option maxRecDepth 100000 in
/-- What the walk gives, for every argument and every world that holds the table. -/
theorem contract (H : Type) (enc : TypeId × Value → H) (W : World) (base : Nat) (args : Array Value) (ds gs : List (DataW H)) (before : List MemPlace)
    (hval : ∀ (j : Nat) t v, Tryd.f5.params[j]? = some t → args[j]? = some v → Value.okWide Tryd.prog W .any base t v)
    (hW : DataW.Whole enc Tryd.prog Tryd.f5.params.toList Rows.stackNewSpec.vars false W args.toList ds gs before) (hL : laidMetH Tryd.prog Rows.stackNewRow.laid W) :
    Calls Tryd.prog 5 args W fun e W' => ∃ v, e = .returned v ∧ Rows.stackNewSpec.post enc Tryd.prog Tryd.f5 false true false false W args v W' := by
  have hW' := hW
  obtain ⟨p, q, hA0, hV, rfl, hfz, hnd⟩ := hW
  have hA : DataW.TrodAll enc Tryd.prog W 0 (fun _ => true) true Tryd.f5.params.toList args.toList ds p := hA0
  rw [Tryd.params5] at hA hval
  obtain ⟨v0, vs0, d0, ds0, p0, q0, hargs, rfl, rfl, h0, r0⟩ := trodAll_cons hA
  obtain ⟨v1, vs1, d1, ds1, p1, q1, rfl, rfl, rfl, h1, r1⟩ := trodAll_cons r0
  obtain ⟨v2, vs2, d2, ds2, p2, q2, rfl, rfl, rfl, h2, r2⟩ := trodAll_cons r1
  obtain ⟨rfl, rfl, rfl⟩ := trodAll_nil r2
  obtain rfl : args = #[v0, v1, v2] := by cases args; simp_all
  obtain ⟨rfl, rfl⟩ := trodVars_none hV
  have t0 := h0
  have lt0 : ∀ x ∈ p0, x.block < W.heap.size := by obtain ⟨m, hm⟩ := t0; exact DataW.trod_lt m _ _ _ hm
  have t1 := h1
  have lt1 : ∀ x ∈ p1, x.block < W.heap.size := by obtain ⟨m, hm⟩ := t1; exact DataW.trod_lt m _ _ _ hm
  have t2 := h2
  have lt2 : ∀ x ∈ p2, x.block < W.heap.size := by obtain ⟨m, hm⟩ := t2; exact DataW.trod_lt m _ _ _ hm
  obtain ⟨a0, rfl, hd0, hp0, w0⟩ := open_int Tryd.underlying3 (hval 0 3 v0 rfl rfl) h0
  obtain ⟨a1, rfl, hd1, hp1, w1⟩ := open_int Tryd.underlying3 (hval 1 3 v1 rfl rfl) h1
  obtain ⟨a2, rfl, hd2, hp2, w2⟩ := open_int Tryd.underlying3 (hval 2 3 v2 rfl rfl) h2
  clear hA0
  refine (walk a0 a1 a2 W (table_of hL) (bounds64 w0) (bounds64 w1) (bounds64 w2)).mono fun e W' ⟨he, bel⟩ => ?_
  subst he
  exact ⟨_, rfl, _, _, _, [], _, [], hW', trodAll_mk1 (shut_bool Tryd.underlying4 _), (trodAll_cons_mk (Below.trod laidOut (by kernel_rfl) (of_decide_eq_true (by kernel_rfl)) t0 bel lt0) (trodAll_cons_mk (Below.trod laidOut (by kernel_rfl) (of_decide_eq_true (by kernel_rfl)) t1 bel lt1) (trodAll_cons_mk (Below.trod laidOut (by kernel_rfl) (of_decide_eq_true (by kernel_rfl)) t2 bel lt2) trodAll_mk0))), rfl, bel.frame _, fun h => by cases h⟩

theorem laid_met (os : Os) : laidMet Tryd.prog Rows.stackNewRow.laid ((laidWorld os).forCall (fun _ _ => 0) ⟨#[], #[.int .i64 0, .int .i64 0, .int .i64 0], []⟩).memory :=
  laidMet_of_run' 8 (by kernel_rfl) (by kernel_rfl)
theorem reads (os : Os) {H : Type} (enc : TypeId × Value → H) : ∃ places, DataW.whole enc Tryd.prog ((laidWorld os).forCall (fun _ _ => 0) ⟨#[], #[.int .i64 0, .int .i64 0, .int .i64 0], []⟩).memory Tryd.f5.params.toList Rows.stackNewSpec.vars false #[.int .i64 0, .int .i64 0, .int .i64 0].toList 8 = some ([.lit (.int .i64 0), .lit (.int .i64 0), .lit (.int .i64 0)], [], places) :=
  ⟨[], by kernel_rfl⟩

set_option maxRecDepth 100000 in
theorem lifted (os : Os) (started : os.Started) (H : Type) (enc : TypeId × Value → H) (F : Stop.Interp) :
    ReturnsInHanded {} Tryd.checked os 5 .any ((OpenSpec.ofChange Rows.stackNewSpec).preRow enc Tryd.prog Tryd.f5 Rows.stackNewRow.domain false Rows.stackNewRow.laid) (((OpenSpec.ofChange Rows.stackNewSpec).at F).post enc Tryd.prog Tryd.f5 false true false false) := by
  obtain ⟨places, hx⟩ := reads os enc
  refine returnsInHanded_of_row (C := Tryd.checked) (s := OpenSpec.ofChange Rows.stackNewSpec) own started (by kernel_rfl) Tryd.func5
    (witness_row_at (enc := enc) (C := Tryd.checked) false (laidWorld os) #[.int .i64 0, .int .i64 0, .int .i64 0] rfl (by kernel_rfl) (by kernel_rfl) (by kernel_rfl)
      (OpenSpec.preRow_of_cond 8 hx (by kernel_rfl) (fun k hk => by cases hk) (by kernel_rfl) (laid_met os))) ?_
  intro W base args ds gs before hval hW _ hcond _ hL _ _
  exact contract H enc W base args ds gs before hval hW hL

theorem said : Rows.StackNewSaid :=
  OpenClaim.holds_of_cond 5 Tryd.f5 rfl rfl rfl rfl rfl rfl rfl ⟨rfl, rfl, rfl, rfl, rfl⟩ rfl rfl rfl rfl rfl (by kernel_rfl) Tryd.func5 (by kernel_rfl)
    (of_decide_eq_true (by kernel_rfl)) (by unfold Func.isWrapper; first | (rw [if_pos (by decide +kernel)]; kernel_rfl) | (rw [if_neg (by decide +kernel)]; exact ⟨rfl, rfl⟩))
    (fun os started H enc _ F => by rw [OpenClaim.pre_eq_preRow]; exact lifted os started H enc F)

/-- No parameter wants a stand-in; the program's own looks are off: what the card asks. -/
theorem plain (f : FuncId) (fn : Func) (hf : Tryd.pinned.checked.prog.funcNamed "midden/middenlaw14.StackNew" = some f) (hfn : Tryd.pinned.checked.prog.funcs[f]? = some fn) :
    false = Tryd.pinned.checked.prog.looks [] ∧ ∀ (j : Nat) t, fn.params[j]? = some t → Tryd.pinned.checked.prog.wantsStandIn t = false := by
  obtain rfl : f = 5 := Option.some.inj ((show Tryd.prog.funcNamed "midden/middenlaw14.StackNew" = some 5 by kernel_rfl).symm.trans hf) |>.symm
  obtain rfl : fn = Tryd.f5 := (Option.some.inj (Tryd.func5.symm.trans hfn)).symm
  refine ⟨by kernel_rfl, fun j t ht => ?_⟩
  rw [Tryd.params5] at ht
  have hm : t ∈ [3, 3, 3] := by simpa using Array.mem_of_getElem? ht
  have hall : ([3, 3, 3].all fun u => !Tryd.prog.wantsStandIn u) = true := by kernel_rfl
  exact (show Tryd.prog.wantsStandIn t = false by simpa using List.all_eq_true.1 hall t hm)

theorem card : Rows.StackNewCardSaid :=
  Claim7.holds_tied_plain_at .later [] _ _ _ _ said (fun _ h => by cases h) (by kernel_rfl) (fun _ h => by cases h) stackNew_row_tie rfl ⟨rfl, rfl⟩ (by kernel_rfl) rfl plain (by kernel_rfl)
end Go.Proofs.YtglimbpnekephaaDoor.stackNew

namespace Go.Proofs.YtglimbpnekephaaDoor
theorem stackNew_card : Rows.StackNewCardSaid := stackNew.card
#print axioms stackNew_card
end Go.Proofs.YtglimbpnekephaaDoor
