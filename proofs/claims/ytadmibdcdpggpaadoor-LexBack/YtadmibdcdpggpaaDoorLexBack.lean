/-
  For every list of tokens, or of what is none: what lex.Join writes is scanned as the tokens that it was made of, but for their places; and where it writes nothing it hands back no text.
  Conditions: none on the input; seven package-level variables of the library (tables and two errors) start as the library's text lays them (the card ties them to that text, of the pruned copy of the project that this seat holds; one of them, unicode/utf8.first, by the form's own constant).
-/
import Derived.Test.YtadmibdcdpggpaaDoorLaid
import Derived.Test.YtadmibdcdpggpaaDoorLies
import Derived.Test.YtadmibdcdpggpaaDoorNamed
namespace Go.Proofs.YtadmibdcdpggpaaDoor.lexBack
open Go.ChangeShapes Go.WideShapes Go.ChangeAt Go.RowKit
open Go.ChangeMaps (open_string)
set_option linter.unusedVariables false

theorem join_count (ts : List ATok) : ts.length ≤ (joinL ts).length := by
  unfold joinL
  induction ts with
  | nil => simp
  | cons t r ih => simp only [List.flatMap_cons, List.length_append, List.length_cons, List.length_nil] at ih ⊢; omega

set_option maxRecDepth 100000 in
set_option maxHeartbeats 2000000 in
theorem walk_err (ga : Option Addr) (ts : List ATok) (cap : Nat) (w : World) (L : Laid w) (T : IsToks w ga ts) (hn : ts.length ≤ 140737488351232) (er : Int) (h : joinR ts = .error er) (hr : er ≠ 0) :
    Calls Tryd.prog 6 #[.slice ga ts.length cap] w fun e w' => e = .returned (.bool true) ∧ Below w.heap.size w w' := by
  have P := join_any ga ts cap w L T hn
  rw [h] at P
  simp only [joinS, joinE] at P
  rw [show str [] = ⟨#[]⟩ from rfl] at P
  have d : (er != 0) = true := by simp [hr]
  clear T hn h hr
  generalize ts.length = n at *
  go_enter Tryd.func6, Tryd.ntmps6
  go_wp2_with (first
    | (go_at_call 15; refine P.mono ?_; rintro e w1 ⟨rfl, B1⟩; have C := B1; clear B1)
    | (go_at_call 11; refine (awake_any _ (L.later C)).mono ?_; rintro e w2 ⟨rfl, B2⟩; have C' := C.trans (Joins.below_le B2 C.size); clear C B2; have C := C'; clear C'))
  go_ret
  exact ⟨rfl, C⟩

set_option maxRecDepth 100000 in
set_option maxHeartbeats 2000000 in
theorem walk_ok (ga : Option Addr) (ts : List ATok) (cap : Nat) (w : World) (L : Laid w) (T : IsToks w ga ts) (hn : ts.length ≤ 16384) (l : List UInt8) (h : joinR ts = .ok l) (ms : List Tok) (hs : scanAll l = .ok ms) (hm : ms.map three = ts.map nameT) :
    Calls Tryd.prog 6 #[.slice ga ts.length cap] w fun e w' => e = .returned (.bool true) ∧ Below w.heap.size w w' := by
  have P := join_any ga ts cap w L T (by omega)
  rw [h] at P
  simp only [joinS, joinE] at P
  have Q := fun w L => scan_any (str l) w L
  rw [str_list, hs] at Q
  simp only [scanA, scanE, scanL] at Q
  have NM := fun w T => named_any ga ts cap w T hn
  have hml : ms.length = ts.length := by have := congrArg List.length hm; simpa using this
  have hnl : (ts.map nm).length = ts.length := by simp
  have hm2 : (ts.map nm).map threeA = ms.map three := by
    rw [hm, List.map_map]
    apply List.map_congr_left
    intro t _
    exact nm_three t
  obtain ⟨nt, hnt⟩ : ∃ nt, ts.map nm = nt := ⟨_, rfl⟩
  rw [hnt] at NM hnl hm2
  have HM : Hid (nt.map threeA = ms.map three) := ⟨hm2⟩
  have HN : Hid (nt.length = ts.length) := ⟨hnl⟩
  have HL : Hid (ms.length = ts.length) := ⟨hml⟩
  have HT : Hid (IsToks w ga ts) := ⟨T⟩
  have HB : Hid (ts.length ≤ 16384) := ⟨hn⟩
  clear T hn h hs hm hml hnl hnt hm2
  go_enter Tryd.func6, Tryd.ntmps6
  go_wp2_with (first
    | (go_at_call 15; refine P.mono ?_; rintro e w1 ⟨rfl, B1⟩; have C := B1; clear B1)
    | (go_at_call 11; refine (awake_any _ (L.later C)).mono ?_; rintro e w2 ⟨rfl, B2⟩; have C' := C.trans (Joins.below_le B2 C.size); clear C B2; have C := C'; clear C')
    | (go_at_call 9; refine (Q _ (L.later C)).mono ?_; rintro e w3 ⟨v3, rfl, R3, B3⟩; have C' := C.trans (Joins.below_le B3 C.size); clear C; have C := C'; clear C')
    | (go_at_call 17; refine (NM _ (HT.out.later C)).mono ?_; rintro e w4 ⟨v4, rfl, R4, B4⟩; obtain ⟨ga3, cap3, rfl, _, l3⟩ := (R3.later B4).form; obtain ⟨ga4, cap4, rfl, l4⟩ := R4.form; have C' := C.trans (Joins.below_le B4 C.size); clear C; have C := C'; clear C'; have SS := same3 w4 ga3 ga4 ts.length cap3 cap4 (ms.map three) (by rw [List.length_map, HL.out]) (fun q => by obtain ⟨g, off, e, l⟩ := l3 (by rw [HL.out]; exact q); exact ⟨g, off, e, l.three⟩) (fun q => by obtain ⟨g, off, e, l⟩ := l4 (by rw [HN.out]; exact q); rw [HM.out] at l; exact ⟨g, off, e, l⟩) (by have := HB.out; omega); rw [HL.out, HN.out]; clear l3 l4 R3 R4)
    | (go_at_call 12; refine SS.mono ?_; rintro e w5 ⟨rfl, B5⟩; have C5 := C.trans (Joins.below_le B5 C.size)))
  go_ret
  exact ⟨rfl, C5⟩

theorem walk (ga : Option Addr) (ts : List ATok) (cap : Nat) (w : World) (L : Laid w) (T : IsToks w ga ts) (hn : ts.length ≤ 140737488351232) :
    Calls Tryd.prog 6 #[.slice ga ts.length cap] w fun e w' => e = .returned (.bool true) ∧ Below w.heap.size w w' := by
  cases h : joinR ts with
  | error er =>
    refine walk_err ga ts cap w L T hn er h ?_
    unfold joinR at h
    split at h
    · split at h
      · cases h; decide
      · cases h
    · cases h; decide
  | ok l =>
    have hh := h
    unfold joinR at hh
    split at hh
    · rename_i ho
      split at hh
      · cases hh
      · rename_i hl
        cases hh
        obtain ⟨ms, a, b⟩ := scan_join ts ho (fun t ht => (T.2 t ht).2.1) (by omega)
        exact walk_ok ga ts cap w L T (by have := join_count ts; omega) _ h ms a b
    · cases hh

set_option maxRecDepth 100000 in
/-- What the walk gives, for every argument and every world that holds what the row lists. -/
theorem contract (H : Type) (enc : TypeId × Value → H) (W : World) (base : Nat) (args : Array Value) (ds gs : List (DataW H)) (before : List MemPlace)
    (hval : ∀ (j : Nat) t v, Tryd.f6.params[j]? = some t → args[j]? = some v → Value.okWide Tryd.prog W .any base t v)
    (hW : DataW.Whole enc Tryd.prog Tryd.f6.params.toList Rows.lexBackSpec.vars false W args.toList ds gs before)
    (hsz0 : (DataW.weightsEach Tryd.prog (Tryd.f6.params.toList ++ Rows.lexBackSpec.plain.varTypes Tryd.prog) (ds ++ gs)).all (· ≤ reachBytes) = true)
    (hL : laidMetH Tryd.prog Rows.lexBackRow.laid W) :
    Calls Tryd.prog 6 args W fun e W' => ∃ v, e = .returned v ∧ Rows.lexBackSpec.post enc Tryd.prog Tryd.f6 false true false false W args v W' := by
  have hW' := hW
  obtain ⟨p, q, hA0, hV, rfl, hfz, hnd⟩ := hW
  have hA : DataW.TrodAll enc Tryd.prog W 0 (fun _ => true) true Tryd.f6.params.toList args.toList ds p := hA0
  rw [Tryd.params6] at hA hval hsz0
  obtain ⟨v0, vs0, d0, ds0, p0, q0, hargs, rfl, rfl, h0, r0⟩ := trodAll_cons hA
  obtain ⟨rfl, rfl, rfl⟩ := trodAll_nil r0
  obtain rfl : args = #[v0] := by cases args; simp_all
  obtain ⟨rfl, rfl⟩ := trodVars_none hV
  have hsz := hsz0
  have t0 := h0
  have lt0 : ∀ x ∈ p0, x.block < W.heap.size := by obtain ⟨m, hm⟩ := t0; exact DataW.trod_lt m _ _ _ hm
  obtain ⟨ad0, len0, cap0, rfl⟩ := okWide_slice Tryd.underlying22 (hval 0 22 v0 rfl rfl)
  obtain ⟨ts0, hl0, hb0, IT0⟩ := open_toks h0 (fun x hx => by
    have q := List.all_eq_true.1 hsz x (DataW.weights_mem_each (j := 0) (t := 22) (by simp) (by simp) x hx)
    simpa using q)
  subst hl0
  have bl0 : ts0.length ≤ 140737488351232 := by unfold reachBytes at hb0; omega
  clear hA0
  refine (walk ad0 ts0 cap0 W (laid_of hL) IT0 bl0).mono fun e W' ⟨he, bel⟩ => ?_
  subst he
  exact ⟨_, rfl, _, _, _, [], _, [], hW', trodAll_mk1 (shut_bool Tryd.underlying4 _), (trodAll_cons_mk (Below.trod laidOut (by kernel_rfl) (of_decide_eq_true (by kernel_rfl)) t0 bel lt0) trodAll_mk0), rfl, bel.frame _, fun h => by cases h⟩

set_option maxRecDepth 100000 in
theorem lifted (os : Os) (started : os.Started) (H : Type) (enc : TypeId × Value → H) :
    ReturnsInHanded {} Tryd.checked os 6 .any (fun w args => (Rows.lexBackSpec.pre enc Tryd.prog Tryd.f6 Rows.lexBackRow.domain false w args ∧ laidMetH Tryd.prog Rows.lexBackRow.laid w) ∧ sizedMet enc Tryd.prog Tryd.f6 (OpenSpec.ofChange Rows.lexBackSpec) false w args)
      (Rows.lexBackSpec.post enc Tryd.prog Tryd.f6 false true false false) := by
  refine returnsInHanded_of_change_and (C := Tryd.checked) (X := fun w _ => laidMetH Tryd.prog Rows.lexBackRow.laid w) (fun _ _ _ hh h => h.of_heap hh) own started (by kernel_rfl) Tryd.func6
    (ChangeSpec.witness_shaped (enc := enc) (C := Tryd.checked) (os := os) (X := fun w _ => laidMetH Tryd.prog Rows.lexBackRow.laid w) false (World.laidAll Tryd.prog os laidL) #[.slice none 0 0] 8 (World.laidAll_os _ _ _)
      (World.shaped_of_ZipB (by kernel_rfl) (by kernel_rfl)) (by kernel_rfl) (by kernel_rfl) (by kernel_rfl) (met os _)) ?_
  intro W base args ds gs before hval hW _ hsz hL _
  exact contract H enc W base args ds gs before hval hW hsz hL

theorem said : Rows.LexBackSaid :=
  OpenClaim.holds_of_wide 6 Tryd.f6 rfl rfl rfl rfl rfl rfl rfl ⟨rfl, rfl, rfl, rfl, rfl⟩ rfl rfl rfl rfl rfl (by kernel_rfl) Tryd.func6 (by kernel_rfl)
    (of_decide_eq_true (by kernel_rfl)) (by unfold Func.isWrapper; first | (rw [if_pos (by decide +kernel)]; kernel_rfl) | (rw [if_neg (by decide +kernel)]; exact ⟨rfl, rfl⟩))
    (fun os started H enc _ => lifted os started H enc)

/-- No parameter wants a stand-in: what the card asks. -/
theorem plain (f : FuncId) (fn : Func) (hf : Tryd.pinned.checked.prog.funcNamed "midden/middenlaw05.LexBack" = some f) (hfn : Tryd.pinned.checked.prog.funcs[f]? = some fn) :
    true = Tryd.pinned.checked.prog.looks [] ∧ ∀ (j : Nat) t, fn.params[j]? = some t → Tryd.pinned.checked.prog.wantsStandIn t = false := by
  obtain rfl : f = 6 := Option.some.inj ((show Tryd.prog.funcNamed "midden/middenlaw05.LexBack" = some 6 by kernel_rfl).symm.trans hf) |>.symm
  obtain rfl : fn = Tryd.f6 := (Option.some.inj (Tryd.func6.symm.trans hfn)).symm
  refine ⟨by kernel_rfl, fun j t ht => ?_⟩
  rw [Tryd.params6] at ht
  have hm : t ∈ [22] := by simpa using Array.mem_of_getElem? ht
  have hall : ([22].all fun u => !Tryd.prog.wantsStandIn u) = true := by kernel_rfl
  exact (show Tryd.prog.wantsStandIn t = false by simpa using List.all_eq_true.1 hall t hm)

theorem card : Rows.LexBackCardSaid :=
  Claim7.holds_tied_plain_at .later [] _ _ _ _ said (fun _ h => by cases h) (by kernel_rfl) (fun _ h => by cases h) lexBack_row_tie rfl ⟨rfl, rfl⟩ (by kernel_rfl) rfl plain (by kernel_rfl)
end Go.Proofs.YtadmibdcdpggpaaDoor.lexBack

namespace Go.Proofs.YtadmibdcdpggpaaDoor
theorem lexBack_card : Rows.LexBackCardSaid := lexBack.card
#print axioms lexBack_card
end Go.Proofs.YtadmibdcdpggpaaDoor
