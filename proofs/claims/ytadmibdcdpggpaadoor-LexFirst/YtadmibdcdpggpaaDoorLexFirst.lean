/-
  For every two texts of which the first is scanned: the tokens of the first come first, whatever stands behind it in another line; or the fault stands behind it.
  Conditions: none on the input; seven package-level variables of the library (tables and two errors) start as the library's text lays them (the card ties them to that text, of the pruned copy of the project that this seat holds; one of them, unicode/utf8.first, by the form's own constant).
-/
import Derived.Test.YtadmibdcdpggpaaDoorLaid
import Derived.Test.YtadmibdcdpggpaaDoorShort
import Derived.Test.YtadmibdcdpggpaaDoorFirst
import Derived.Laws.Concat
namespace Go.Proofs.YtadmibdcdpggpaaDoor.lexFirst
open Go.ChangeShapes Go.WideShapes Go.ChangeAt Go.RowKit
open Go.ChangeMaps (open_string)
set_option linter.unusedVariables false

theorem app_list (a b : ByteArray) : (a ++ b).data.toList = a.data.toList ++ b.data.toList := by
  rw [ByteArray.data_append, Array.toList_append]
theorem row_take {w : World} {base : Nat} {v : Value} {ts us : List Tok} (h : Row w base v (ts ++ us)) : ∃ ga cap, v = .slice ga (ts ++ us).length cap ∧ (ts ++ us).length ≤ cap ∧ (0 < ts.length → ∃ g off, ga = some ⟨g, off, none⟩ ∧ Lies w g off ts) := by
  obtain ⟨ga, cap, rfl, hc, hl⟩ := h.form
  refine ⟨ga, cap, rfl, hc, fun h0 => ?_⟩
  obtain ⟨g, off, rfl, L⟩ := hl (by rw [List.length_append]; omega)
  refine ⟨g, off, rfl, fun i hi => ?_⟩
  have := L i (by rw [List.length_append]; omega)
  rw [List.getElem_append_left hi] at this
  exact this

theorem row_lies {w : World} {base : Nat} {ga : Option Addr} {n cap : Nat} {ts : List Tok} (h : Row w base (.slice ga n cap) ts) : 0 < ts.length → ∃ g off, ga = some ⟨g, off, none⟩ ∧ Lies w g off ts := by
  obtain ⟨gb, cap2, e, _, l⟩ := h.form
  injection e with e1 _ _
  subst e1
  exact l

set_option maxRecDepth 100000 in
set_option maxHeartbeats 2000000 in
theorem walk_err (s0 s1 : ByteArray) (w : World) (L : Laid w) (p : Nat) (er : Int) (h : scanAll s0.data.toList = .error (p, er)) :
    Calls Tryd.prog 8 #[.string s0, .string s1] w fun e w' => e = .returned (.bool true) ∧ Below w.heap.size w w' := by
  have P := scan_any s0 w L
  have ne := scanAll_err h
  rw [h] at P
  simp only [scanA, scanE, scanL] at P
  have d : (er != 0) = true := by simp [ne]
  clear h ne
  go_enter Tryd.func8, Tryd.ntmps8
  go_wp2_with (first
    | (go_at_call 9; refine P.mono ?_; rintro e w1 ⟨v, rfl, R1, B1⟩; have C := B1; clear R1 B1)
    | (go_at_call 11; refine (awake_any _ (L.later C)).mono ?_; rintro e w2 ⟨rfl, B2⟩; have C' := C.trans (Joins.below_le B2 C.size); clear C B2; have C := C'; clear C'))
  go_ret
  exact ⟨rfl, C⟩

set_option maxRecDepth 100000 in
set_option maxHeartbeats 2000000 in
theorem walk_big (s0 s1 : ByteArray) (w : World) (L : Laid w) (b0 : s0.size ≤ 140737488351232) (b1 : s1.size ≤ 140737488351232) (ts : List Tok) (h : scanAll s0.data.toList = .ok ts) (hb : 16384 ≤ s0.size + s1.size) :
    Calls Tryd.prog 8 #[.string s0, .string s1] w fun e w' => e = .returned (.bool true) ∧ Below w.heap.size w w' := by
  have P := scan_any s0 w L
  rw [h] at P
  simp only [scanA, scanE, scanL] at P
  have d : (16384 : Int) ≤ (s0.size : Int) + s1.size := by omega
  clear h
  go_enter Tryd.func8, Tryd.ntmps8
  go_wp2_with (first
    | (go_at_call 9; refine P.mono ?_; rintro e w1 ⟨v, rfl, R1, B1⟩; have C := B1; clear R1 B1)
    | (go_at_call 11; refine (awake_any _ (L.later C)).mono ?_; rintro e w2 ⟨rfl, B2⟩; have C' := C.trans (Joins.below_le B2 C.size); clear C B2; have C := C'; clear C'))
  go_ret
  exact ⟨rfl, C⟩

set_option maxRecDepth 100000 in
set_option maxHeartbeats 2000000 in
theorem walk_bad (s0 s1 : ByteArray) (w : World) (L : Laid w) (ts : List Tok) (h : scanAll s0.data.toList = .ok ts) (hb : s0.size + s1.size < 16384) (p : Nat) (er : Int) (h2 : scanAll (s0.data.toList ++ 10 :: s1.data.toList) = .error (p, er)) (hp : s0.size < p) :
    Calls Tryd.prog 8 #[.string s0, .string s1] w fun e w' => e = .returned (.bool true) ∧ Below w.heap.size w w' := by
  have P := scan_any s0 w L
  rw [h] at P
  simp only [scanA, scanE, scanL] at P
  have ne := scanAll_err h2
  have d2 : (er != 0) = true := by simp [ne]
  have P2 := fun w L => scan_any ((s0 ++ ⟨#[10]⟩) ++ s1) w L
  rw [app_list, app_list, show (ByteArray.mk #[10]).data.toList = [10] from rfl, List.append_assoc, List.singleton_append, h2] at P2
  simp only [scanA, scanE, scanL] at P2
  have d : ¬ (16384 : Int) ≤ (s0.size : Int) + s1.size := by omega
  have a1 : ∀ w, (Op.stringOp .add s0 ⟨#[10]⟩).run Tryd.prog w = .ok (.string (s0 ++ ⟨#[10]⟩)) w := fun w => run_string_add_sum w _ _ (by have : (ByteArray.mk #[10]).size = 1 := rfl; omega)
  have a2 : ∀ w, (Op.stringOp .add (s0 ++ ⟨#[10]⟩) s1).run Tryd.prog w = .ok (.string ((s0 ++ ⟨#[10]⟩) ++ s1)) w := fun w => run_string_add_sum w _ _ (by have : (ByteArray.mk #[10]).size = 1 := rfl; rw [ByteArray.size_append]; omega)
  have d3 : (s0.size : Int) < p := by omega
  generalize (s0 ++ ⟨#[10]⟩) = sa at *
  generalize (sa ++ s1) = sb at *
  clear h h2 ne hp
  go_enter Tryd.func8, Tryd.ntmps8
  go_wp2_with (first
    | (go_at_call 9; first | (refine P.mono ?_; rintro e w1 ⟨v, rfl, R1, B1⟩; have C := B1; clear R1 B1 P) | (refine (P2 _ (L.later C)).mono ?_; rintro e w3 ⟨v3, rfl, R3, B3⟩; obtain ⟨ga, cap, rfl, _, _⟩ := R3.form; have C' := C.trans (Joins.below_le B3 C.size); clear C B3 R3; have C := C'; clear C'))
    | (go_at_call 11; refine (awake_any _ (L.later C)).mono ?_; rintro e w2 ⟨rfl, B2⟩; have C' := C.trans (Joins.below_le B2 C.size); clear C B2; have C := C'; clear C'))
  go_ret
  exact ⟨rfl, C⟩

set_option maxRecDepth 100000 in
set_option maxHeartbeats 2000000 in
theorem walk_good (s0 s1 : ByteArray) (w : World) (L : Laid w) (ts us : List Tok) (h : scanAll s0.data.toList = .ok ts) (hb : s0.size + s1.size < 16384) (h2 : scanAll (s0.data.toList ++ 10 :: s1.data.toList) = .ok (ts ++ us)) :
    Calls Tryd.prog 8 #[.string s0, .string s1] w fun e w' => e = .returned (.bool true) ∧ Below w.heap.size w w' := by
  have P := scan_any s0 w L
  have hl : ts.length ≤ 16384 := by have := scan_short s0.data.toList; rw [h] at this; exact this
  rw [h] at P
  simp only [scanA, scanE, scanL] at P
  have P2 := fun w L => scan_any ((s0 ++ ⟨#[10]⟩) ++ s1) w L
  rw [app_list, app_list, show (ByteArray.mk #[10]).data.toList = [10] from rfl, List.append_assoc, List.singleton_append, h2] at P2
  simp only [scanA, scanE, scanL] at P2
  have d : ¬ (16384 : Int) ≤ (s0.size : Int) + s1.size := by omega
  have a1 : ∀ w, (Op.stringOp .add s0 ⟨#[10]⟩).run Tryd.prog w = .ok (.string (s0 ++ ⟨#[10]⟩)) w := fun w => run_string_add_sum w _ _ (by have : (ByteArray.mk #[10]).size = 1 := rfl; omega)
  have a2 : ∀ w, (Op.stringOp .add (s0 ++ ⟨#[10]⟩) s1).run Tryd.prog w = .ok (.string ((s0 ++ ⟨#[10]⟩) ++ s1)) w := fun w => run_string_add_sum w _ _ (by have : (ByteArray.mk #[10]).size = 1 := rfl; rw [ByteArray.size_append]; omega)
  generalize (s0 ++ ⟨#[10]⟩) = sa at *
  generalize (sa ++ s1) = sb at *
  have HM : Hid (sameL true ts ts = true) := ⟨sameL_refl _ ts⟩
  have HL : Hid (ts.length ≤ 16384) := ⟨hl⟩
  have ll : (ts ++ us).length = ts.length + us.length := List.length_append
  obtain ⟨m, hm⟩ : ∃ m, (ts ++ us).length = m := ⟨_, rfl⟩
  have ge : (ts.length : Int) ≤ m := by omega
  have HMm : Hid ((ts ++ us).length = m) := ⟨hm⟩
  clear h h2 hl ll hm
  go_enter Tryd.func8, Tryd.ntmps8
  go_wp2_with (first
    | (go_at_call 9; first | (refine P.mono ?_; rintro e w1 ⟨v, rfl, R1, B1⟩; have C := B1; obtain ⟨ga, cap, rfl, hcc, l1⟩ := R1.form; have RR := R1; clear R1 P l1) | (refine (P2 _ (L.later C)).mono ?_; rintro e w3 ⟨v3, rfl, R3, B3⟩; have C' := C.trans (Joins.below_le B3 C.size); have RS := RR.later B3; obtain ⟨gb, cap2, rfl, hc2, l2⟩ := row_take R3; rw [HMm.out] at hc2 ⊢; clear C R3 RR; have C := C'; clear C'))
    | (go_at_call 11; refine (awake_any _ (L.later C)).mono ?_; rintro e w2 ⟨rfl, B2⟩; have C' := C.trans (Joins.below_le B2 C.size); have RR' := RR.later B2; clear C B2 RR; have C := C'; have RR := RR'; clear C' RR')
    | (go_at_call 12; have SS := same_any w3 gb ga ts.length cap2 cap ts ts rfl rfl l2 (row_lies RS) true (by have := HL.out; omega); rw [HM.out] at SS; refine SS.mono ?_; rintro e w4 ⟨rfl, B4⟩; have C4 := C.trans (Joins.below_le B4 C.size)))
  go_ret
  exact ⟨rfl, C4⟩

theorem walk (s0 s1 : ByteArray) (w : World) (L : Laid w) (b0 : s0.size ≤ 140737488351232) (b1 : s1.size ≤ 140737488351232) :
    Calls Tryd.prog 8 #[.string s0, .string s1] w fun e w' => e = .returned (.bool true) ∧ Below w.heap.size w w' := by
  cases h : scanAll s0.data.toList with
  | error x => exact walk_err s0 s1 w L x.1 x.2 h
  | ok ts =>
    by_cases hb : 16384 ≤ s0.size + s1.size
    · exact walk_big s0 s1 w L b0 b1 ts h hb
    · rcases scan_two (more := s1.data.toList) h (by rw [size_list, size_list]; omega) with ⟨us, h2⟩ | ⟨p, e, h2, hp⟩
      · exact walk_good s0 s1 w L ts us h (by omega) h2
      · exact walk_bad s0 s1 w L ts h (by omega) p e h2 (by rw [size_list] at hp; exact hp)

set_option maxRecDepth 100000 in
/-- What the walk gives, for every argument and every world that holds what the row lists. -/
theorem contract (H : Type) (enc : TypeId × Value → H) (W : World) (base : Nat) (args : Array Value) (ds gs : List (DataW H)) (before : List MemPlace)
    (hval : ∀ (j : Nat) t v, Tryd.f8.params[j]? = some t → args[j]? = some v → Value.okWide Tryd.prog W .any base t v)
    (hW : DataW.Whole enc Tryd.prog Tryd.f8.params.toList Rows.lexFirstSpec.vars false W args.toList ds gs before)
    (hsz0 : (DataW.weightsEach Tryd.prog (Tryd.f8.params.toList ++ Rows.lexFirstSpec.plain.varTypes Tryd.prog) (ds ++ gs)).all (· ≤ reachBytes) = true)
    (hL : laidMetH Tryd.prog Rows.lexFirstRow.laid W) :
    Calls Tryd.prog 8 args W fun e W' => ∃ v, e = .returned v ∧ Rows.lexFirstSpec.post enc Tryd.prog Tryd.f8 false true false false W args v W' := by
  have hW' := hW
  obtain ⟨p, q, hA0, hV, rfl, hfz, hnd⟩ := hW
  have hA : DataW.TrodAll enc Tryd.prog W 0 (fun _ => true) true Tryd.f8.params.toList args.toList ds p := hA0
  rw [Tryd.params8] at hA hval hsz0
  obtain ⟨v0, vs0, d0, ds0, p0, q0, hargs, rfl, rfl, h0, r0⟩ := trodAll_cons hA
  obtain ⟨v1, vs1, d1, ds1, p1, q1, rfl, rfl, rfl, h1, r1⟩ := trodAll_cons r0
  obtain ⟨rfl, rfl, rfl⟩ := trodAll_nil r1
  obtain rfl : args = #[v0, v1] := by cases args; simp_all
  obtain ⟨rfl, rfl⟩ := trodVars_none hV
  have hsz := hsz0
  have t0 := h0
  have lt0 : ∀ x ∈ p0, x.block < W.heap.size := by obtain ⟨m, hm⟩ := t0; exact DataW.trod_lt m _ _ _ hm
  obtain ⟨s0, rfl, hd0, hp0, ws0⟩ := open_string Tryd.underlying9 (hval 0 9 v0 rfl rfl) h0
  have bs0 : s0.size ≤ 140737488351232 := by
    have q := sized_string hsz (j := 0) (t := 9) (bytes := s0.data.toList) (by simp) (by rw [hd0]; simp)
    rw [size_list] at q
    unfold reachBytes at q
    omega
  have t1 := h1
  have lt1 : ∀ x ∈ p1, x.block < W.heap.size := by obtain ⟨m, hm⟩ := t1; exact DataW.trod_lt m _ _ _ hm
  obtain ⟨s1, rfl, hd1, hp1, ws1⟩ := open_string Tryd.underlying9 (hval 1 9 v1 rfl rfl) h1
  have bs1 : s1.size ≤ 140737488351232 := by
    have q := sized_string hsz (j := 1) (t := 9) (bytes := s1.data.toList) (by simp) (by rw [hd1]; simp)
    rw [size_list] at q
    unfold reachBytes at q
    omega
  clear hA0
  refine (walk s0 s1 W (laid_of hL) bs0 bs1).mono fun e W' ⟨he, bel⟩ => ?_
  subst he
  exact ⟨_, rfl, _, _, _, [], _, [], hW', trodAll_mk1 (shut_bool Tryd.underlying4 _), (trodAll_cons_mk (Below.trod laidOut (by kernel_rfl) (of_decide_eq_true (by kernel_rfl)) t0 bel lt0) (trodAll_cons_mk (Below.trod laidOut (by kernel_rfl) (of_decide_eq_true (by kernel_rfl)) t1 bel lt1) trodAll_mk0)), rfl, bel.frame _, fun h => by cases h⟩

set_option maxRecDepth 100000 in
theorem lifted (os : Os) (started : os.Started) (H : Type) (enc : TypeId × Value → H) :
    ReturnsInHanded {} Tryd.checked os 8 .any (fun w args => (Rows.lexFirstSpec.pre enc Tryd.prog Tryd.f8 Rows.lexFirstRow.domain false w args ∧ laidMetH Tryd.prog Rows.lexFirstRow.laid w) ∧ sizedMet enc Tryd.prog Tryd.f8 (OpenSpec.ofChange Rows.lexFirstSpec) false w args)
      (Rows.lexFirstSpec.post enc Tryd.prog Tryd.f8 false true false false) := by
  refine returnsInHanded_of_change_and (C := Tryd.checked) (X := fun w _ => laidMetH Tryd.prog Rows.lexFirstRow.laid w) (fun _ _ _ hh h => h.of_heap hh) own started (by kernel_rfl) Tryd.func8
    (ChangeSpec.witness_shaped (enc := enc) (C := Tryd.checked) (os := os) (X := fun w _ => laidMetH Tryd.prog Rows.lexFirstRow.laid w) false (World.laidAll Tryd.prog os laidL) #[.string ⟨#[]⟩, .string ⟨#[]⟩] 8 (World.laidAll_os _ _ _)
      (World.shaped_of_ZipB (by kernel_rfl) (by kernel_rfl)) (by kernel_rfl) (by kernel_rfl) (by kernel_rfl) (met os _)) ?_
  intro W base args ds gs before hval hW _ hsz hL _
  exact contract H enc W base args ds gs before hval hW hsz hL

theorem said : Rows.LexFirstSaid :=
  OpenClaim.holds_of_wide 8 Tryd.f8 rfl rfl rfl rfl rfl rfl rfl ⟨rfl, rfl, rfl, rfl, rfl⟩ rfl rfl rfl rfl rfl (by kernel_rfl) Tryd.func8 (by kernel_rfl)
    (of_decide_eq_true (by kernel_rfl)) (by unfold Func.isWrapper; first | (rw [if_pos (by decide +kernel)]; kernel_rfl) | (rw [if_neg (by decide +kernel)]; exact ⟨rfl, rfl⟩))
    (fun os started H enc _ => lifted os started H enc)

/-- No parameter wants a stand-in: what the card asks. -/
theorem plain (f : FuncId) (fn : Func) (hf : Tryd.pinned.checked.prog.funcNamed "midden/middenlaw05.LexFirst" = some f) (hfn : Tryd.pinned.checked.prog.funcs[f]? = some fn) :
    true = Tryd.pinned.checked.prog.looks [] ∧ ∀ (j : Nat) t, fn.params[j]? = some t → Tryd.pinned.checked.prog.wantsStandIn t = false := by
  obtain rfl : f = 8 := Option.some.inj ((show Tryd.prog.funcNamed "midden/middenlaw05.LexFirst" = some 8 by kernel_rfl).symm.trans hf) |>.symm
  obtain rfl : fn = Tryd.f8 := (Option.some.inj (Tryd.func8.symm.trans hfn)).symm
  refine ⟨by kernel_rfl, fun j t ht => ?_⟩
  rw [Tryd.params8] at ht
  have hm : t ∈ [9, 9] := by simpa using Array.mem_of_getElem? ht
  have hall : ([9, 9].all fun u => !Tryd.prog.wantsStandIn u) = true := by kernel_rfl
  exact (show Tryd.prog.wantsStandIn t = false by simpa using List.all_eq_true.1 hall t hm)

theorem card : Rows.LexFirstCardSaid :=
  Claim7.holds_tied_plain_at .later [] _ _ _ _ said (fun _ h => by cases h) (by kernel_rfl) (fun _ h => by cases h) lexFirst_row_tie rfl ⟨rfl, rfl⟩ (by kernel_rfl) rfl plain (by kernel_rfl)
end Go.Proofs.YtadmibdcdpggpaaDoor.lexFirst

namespace Go.Proofs.YtadmibdcdpggpaaDoor
theorem lexFirst_card : Rows.LexFirstCardSaid := lexFirst.card
#print axioms lexFirst_card
end Go.Proofs.YtadmibdcdpggpaaDoor
