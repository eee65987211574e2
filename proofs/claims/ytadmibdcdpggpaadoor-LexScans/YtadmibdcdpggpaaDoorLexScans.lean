/-
  For every text: lex.Scan tells the tokens that the document's own Scan tells, or the same fault at the same place.
  Conditions: none on the input; seven package-level variables of the library (tables and two errors) start as the library's text lays them (the card ties them to that text, of the pruned copy of the project that this seat holds; one of them, unicode/utf8.first, by the form's own constant).
-/
import Derived.Test.YtadmibdcdpggpaaDoorLaid
import Derived.Test.YtadmibdcdpggpaaDoorShort
import Derived.Test.YtadmibdcdpggpaaDoorRefScan
namespace Go.Proofs.YtadmibdcdpggpaaDoor.lexScans
open Go.ChangeShapes Go.WideShapes Go.ChangeAt Go.RowKit
open Go.ChangeMaps (open_string)
set_option linter.unusedVariables false

set_option maxHeartbeats 2000000 in
theorem walk (s0 : ByteArray) (w : World) (L : Laid w) (bs : s0.size ≤ 140737488351232) :
    Calls Tryd.prog 3 #[.string s0] w fun e w' => e = .returned (.bool true) ∧ Below w.heap.size w w' := by
  have P := scan_any s0 w L
  have Q := fun w L => rscan_any s0 w L
  have hlen : (scanL (scanAll s0.data.toList)).length ≤ 16384 := scan_short _
  generalize scanAll s0.data.toList = R at P Q hlen
  generalize scanA R = x at P Q
  generalize scanE R = y at P Q
  generalize scanL R = ts at P Q hlen
  have SM : sameL true ts ts = true := sameL_refl _ ts
  have HL : Hid (ts.length ≤ 16384) := ⟨hlen⟩
  clear hlen bs
  have HM : Hid (sameL true ts ts = true) := ⟨SM⟩
  clear SM
  go_enter Tryd.func3, Tryd.ntmps3
  go_wp2_with (first
    | (go_at_call 9; refine P.mono ?_; rintro e w1 ⟨v, rfl, R1, B1⟩; have L1 := L.later B1)
    | (go_at_call 10; refine (Q _ L1).mono ?_; rintro e w2 ⟨v2, rfl, R2, B2⟩; have L2 := L1.later B2)
    | (go_at_call 11; refine (awake_any _ L2).mono ?_; rintro e w3 ⟨rfl, B3⟩; obtain ⟨ga, cap, rfl, _, l1⟩ := (R1.later (B2.trans (Joins.below_le B3 B2.size))).form; obtain ⟨gb, cap2, rfl, _, l2⟩ := (R2.later B3).form; have SS := same_any w3 ga gb ts.length cap cap2 ts ts rfl rfl l1 l2 true (by have := HL.out; omega); rw [HM.out] at SS; clear l1 l2 R1 R2)
    | (go_at_call 12; refine SS.mono ?_; rintro e w4 ⟨rfl, B4⟩))
  go_ret
  have C2 := B1.trans (Joins.below_le B2 B1.size)
  have C3 := C2.trans (Joins.below_le B3 C2.size)
  exact ⟨rfl, C3.trans (Joins.below_le B4 C3.size)⟩

set_option maxRecDepth 100000 in
/-- What the walk gives, for every argument and every world that holds what the row lists. -/
theorem contract (H : Type) (enc : TypeId × Value → H) (W : World) (base : Nat) (args : Array Value) (ds gs : List (DataW H)) (before : List MemPlace)
    (hval : ∀ (j : Nat) t v, Tryd.f3.params[j]? = some t → args[j]? = some v → Value.okWide Tryd.prog W .any base t v)
    (hW : DataW.Whole enc Tryd.prog Tryd.f3.params.toList Rows.lexScansSpec.vars false W args.toList ds gs before)
    (hsz0 : (DataW.weightsEach Tryd.prog (Tryd.f3.params.toList ++ Rows.lexScansSpec.plain.varTypes Tryd.prog) (ds ++ gs)).all (· ≤ reachBytes) = true)
    (hL : laidMetH Tryd.prog Rows.lexScansRow.laid W) :
    Calls Tryd.prog 3 args W fun e W' => ∃ v, e = .returned v ∧ Rows.lexScansSpec.post enc Tryd.prog Tryd.f3 false true false false W args v W' := by
  have hW' := hW
  obtain ⟨p, q, hA0, hV, rfl, hfz, hnd⟩ := hW
  have hA : DataW.TrodAll enc Tryd.prog W 0 (fun _ => true) true Tryd.f3.params.toList args.toList ds p := hA0
  rw [Tryd.params3] at hA hval hsz0
  obtain ⟨v0, vs0, d0, ds0, p0, q0, hargs, rfl, rfl, h0, r0⟩ := trodAll_cons hA
  obtain ⟨rfl, rfl, rfl⟩ := trodAll_nil r0
  obtain rfl : args = #[v0] := by cases args; simp_all
  obtain ⟨rfl, rfl⟩ := trodVars_none hV
  have hsz := hsz0
  have t0 := h0
  have lt0 : ∀ x ∈ p0, x.block < W.heap.size := by obtain ⟨m, hm⟩ := t0; exact DataW.trod_lt m _ _ _ hm
  obtain ⟨s0, rfl, hd0, hp0, ws0⟩ := open_string Tryd.underlying9 (hval 0 9 v0 rfl rfl) h0
  have bs0 : s0.size ≤ 140737488351232 := by
    have q := sized_string hsz (j := 0) (t := 9) (bytes := s0.data.toList) (by simp) (by rw [hd0]; simp)
    rw [size_list] at q
    unfold reachBytes at q
    omega
  clear hA0
  refine (walk s0 W (laid_of hL) bs0).mono fun e W' ⟨he, bel⟩ => ?_
  subst he
  exact ⟨_, rfl, _, _, _, [], _, [], hW', trodAll_mk1 (shut_bool Tryd.underlying4 _), (trodAll_cons_mk (Below.trod laidOut (by kernel_rfl) (of_decide_eq_true (by kernel_rfl)) t0 bel lt0) trodAll_mk0), rfl, bel.frame _, fun h => by cases h⟩

set_option maxRecDepth 100000 in
theorem lifted (os : Os) (started : os.Started) (H : Type) (enc : TypeId × Value → H) :
    ReturnsInHanded {} Tryd.checked os 3 .any (fun w args => (Rows.lexScansSpec.pre enc Tryd.prog Tryd.f3 Rows.lexScansRow.domain false w args ∧ laidMetH Tryd.prog Rows.lexScansRow.laid w) ∧ sizedMet enc Tryd.prog Tryd.f3 (OpenSpec.ofChange Rows.lexScansSpec) false w args)
      (Rows.lexScansSpec.post enc Tryd.prog Tryd.f3 false true false false) := by
  refine returnsInHanded_of_change_and (C := Tryd.checked) (X := fun w _ => laidMetH Tryd.prog Rows.lexScansRow.laid w) (fun _ _ _ hh h => h.of_heap hh) own started (by kernel_rfl) Tryd.func3
    (ChangeSpec.witness_shaped (enc := enc) (C := Tryd.checked) (os := os) (X := fun w _ => laidMetH Tryd.prog Rows.lexScansRow.laid w) false (World.laidAll Tryd.prog os laidL) #[.string ⟨#[]⟩] 8 (World.laidAll_os _ _ _)
      (World.shaped_of_ZipB (by kernel_rfl) (by kernel_rfl)) (by kernel_rfl) (by kernel_rfl) (by kernel_rfl) (met os _)) ?_
  intro W base args ds gs before hval hW _ hsz hL _
  exact contract H enc W base args ds gs before hval hW hsz hL

theorem said : Rows.LexScansSaid :=
  OpenClaim.holds_of_wide 3 Tryd.f3 rfl rfl rfl rfl rfl rfl rfl ⟨rfl, rfl, rfl, rfl, rfl⟩ rfl rfl rfl rfl rfl (by kernel_rfl) Tryd.func3 (by kernel_rfl)
    (of_decide_eq_true (by kernel_rfl)) (by unfold Func.isWrapper; first | (rw [if_pos (by decide +kernel)]; kernel_rfl) | (rw [if_neg (by decide +kernel)]; exact ⟨rfl, rfl⟩))
    (fun os started H enc _ => lifted os started H enc)

/-- No parameter wants a stand-in: what the card asks. -/
theorem plain (f : FuncId) (fn : Func) (hf : Tryd.pinned.checked.prog.funcNamed "midden/middenlaw05.LexScans" = some f) (hfn : Tryd.pinned.checked.prog.funcs[f]? = some fn) :
    true = Tryd.pinned.checked.prog.looks [] ∧ ∀ (j : Nat) t, fn.params[j]? = some t → Tryd.pinned.checked.prog.wantsStandIn t = false := by
  obtain rfl : f = 3 := Option.some.inj ((show Tryd.prog.funcNamed "midden/middenlaw05.LexScans" = some 3 by kernel_rfl).symm.trans hf) |>.symm
  obtain rfl : fn = Tryd.f3 := (Option.some.inj (Tryd.func3.symm.trans hfn)).symm
  refine ⟨by kernel_rfl, fun j t ht => ?_⟩
  rw [Tryd.params3] at ht
  have hm : t ∈ [9] := by simpa using Array.mem_of_getElem? ht
  have hall : ([9].all fun u => !Tryd.prog.wantsStandIn u) = true := by kernel_rfl
  exact (show Tryd.prog.wantsStandIn t = false by simpa using List.all_eq_true.1 hall t hm)

theorem card : Rows.LexScansCardSaid :=
  Claim7.holds_tied_plain_at .later [] _ _ _ _ said (fun _ h => by cases h) (by kernel_rfl) (fun _ h => by cases h) lexScans_row_tie rfl ⟨rfl, rfl⟩ (by kernel_rfl) rfl plain (by kernel_rfl)
end Go.Proofs.YtadmibdcdpggpaaDoor.lexScans

namespace Go.Proofs.YtadmibdcdpggpaaDoor
theorem lexScans_card : Rows.LexScansCardSaid := lexScans.card
#print axioms lexScans_card
end Go.Proofs.YtadmibdcdpggpaaDoor
