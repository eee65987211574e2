/-
  The statement WordApart, as its card says it: for every word and every two headers, no word is a header's and an address's, and unlike headers have unlike words.
  Conditions: none on the input; the package-level table of the header's fields starts as the program's text lays it (the card ties it to that text, of the pruned copy of the project that this seat holds).
-/
import Derived.Test.YtecomopllkjfbaaDoorLaid
import Derived.Test.YtecomopllkjfbaaDoorHeads
import Derived.Test.YtecomopllkjfbaaDoorUnpack
namespace Go.Proofs.YtecomopllkjfbaaDoor.wordApart
open Go.ChangeShapes Go.WideShapes Go.ChangeAt Go.RowKit
set_option linter.unusedVariables false

def mvB (x : Int) : Bool := decide (x % 2 = 0 ∧ 2 ≤ x ∧ x ≤ 1048576)
def mvA (x : Int) : Int := if mvB x = true then x / 2 else 0
theorem moved_any (x : Int) (w : World) (h0 : 0 ≤ x) (h1 : x ≤ 18446744073709551615) :
    Calls Tryd.prog 15 #[.int .u64 x] w fun e w' => e = .returned (.tuple #[.int .i64 (mvA x), .bool (mvB x)]) ∧ w' = w := by
  by_cases a : x % 2 = 0 ∧ 2 ≤ x ∧ x ≤ 1048576
  · have e : mvB x = true := by simp [mvB, a]
    simp only [mvA, e, if_true]; exact moved_yes x w a.1 a.2.1 a.2.2
  · have e : mvB x = false := by simp only [mvB, decide_eq_false_iff_not]; exact a
    simp only [mvA, e]; exact moved_no x w h0 h1 a
/-- No word is a header's and an address's. -/
theorem apart1 (x : Int) (a : unE x = 0) : mvB x = false := by
  have m : uM x = 1 := by
    rcases Bool.eq_false_or_eq_true (wordB x) with c | c
    · exact (wordB_yes.1 c).1
    · rw [unE_kind c] at a; exact absurd a (by decide)
  unfold uM at m
  simp only [mvB, decide_eq_false_iff_not]; omega
theorem unlike {k1 i1 p1 n1 k2 i2 p2 n2 : Int} (h1 : packE k1 i1 p1 n1 = 0) (h2 : packE k2 i2 p2 n2 = 0) (c : ¬ (k1 = k2 ∧ i1 = i2 ∧ p1 = p2 ∧ n1 = n2)) : (packW k1 i1 p1 n1 == packW k2 i2 p2 n2) = false := by
  simp only [beq_eq_false_iff_ne]; exact fun e => c (apart2 h1 h2 e)

set_option maxHeartbeats 2000000 in
theorem walk (a0 k1 i1 p1 n1 k2 i2 p2 n2 : Int) (w : World) (h : Spans w) (b0 : 0 ≤ a0 ∧ a0 ≤ 18446744073709551615) (bk1 : -9223372036854775808 ≤ k1 ∧ k1 ≤ 9223372036854775807) (bi1 : -9223372036854775808 ≤ i1 ∧ i1 ≤ 9223372036854775807) (bp1 : -9223372036854775808 ≤ p1 ∧ p1 ≤ 9223372036854775807) (bn1 : -9223372036854775808 ≤ n1 ∧ n1 ≤ 9223372036854775807) (bk2 : -9223372036854775808 ≤ k2 ∧ k2 ≤ 9223372036854775807) (bi2 : -9223372036854775808 ≤ i2 ∧ i2 ≤ 9223372036854775807) (bp2 : -9223372036854775808 ≤ p2 ∧ p2 ≤ 9223372036854775807) (bn2 : -9223372036854775808 ≤ n2 ∧ n2 ≤ 9223372036854775807) :
    Calls Tryd.prog 7 #[.int .u64 a0, head k1 i1 p1 n1, head k2 i2 p2 n2] w fun e w' => e = .returned (.bool true) ∧ Below w.heap.size w w' := by
  have hs0 : Spans ((w.alloc (Obj.cells #[Value.int IntKind.i64 k1, Value.int IntKind.i64 i1, Value.int IntKind.i64 p1, Value.int IntKind.i64 n1] 23)).alloc (Obj.cells #[Value.int IntKind.i64 k2, Value.int IntKind.i64 i2, Value.int IntKind.i64 p2, Value.int IntKind.i64 n2] 23)) := h.later (by go_grown)
  have HA0 : HeadAt ((w.alloc (Obj.cells #[Value.int IntKind.i64 k1, Value.int IntKind.i64 i1, Value.int IntKind.i64 p1, Value.int IntKind.i64 n1] 23)).alloc (Obj.cells #[Value.int IntKind.i64 k2, Value.int IntKind.i64 i2, Value.int IntKind.i64 p2, Value.int IntKind.i64 n2] 23)) w.heap.size k1 i1 p1 n1 := (HeadAt.fresh w k1 i1 p1 n1).later (Below.alloc (Below.refl _ _) (Nat.le_refl _) _)
  have HB0 : HeadAt ((w.alloc (Obj.cells #[Value.int IntKind.i64 k1, Value.int IntKind.i64 i1, Value.int IntKind.i64 p1, Value.int IntKind.i64 n1] 23)).alloc (Obj.cells #[Value.int IntKind.i64 k2, Value.int IntKind.i64 i2, Value.int IntKind.i64 p2, Value.int IntKind.i64 n2] 23)) (w.heap.size + 1) k2 i2 p2 n2 := by
    have := HeadAt.fresh (w.alloc (Obj.cells #[Value.int IntKind.i64 k1, Value.int IntKind.i64 i1, Value.int IntKind.i64 p1, Value.int IntKind.i64 n1] 23)) k2 i2 p2 n2
    simpa using this
  have B0 : Below w.heap.size w ((w.alloc (Obj.cells #[Value.int IntKind.i64 k1, Value.int IntKind.i64 i1, Value.int IntKind.i64 p1, Value.int IntKind.i64 n1] 23)).alloc (Obj.cells #[Value.int IntKind.i64 k2, Value.int IntKind.i64 i2, Value.int IntKind.i64 p2, Value.int IntKind.i64 n2] 23)) := by go_grown
  have ap : unE a0 = 0 → mvB a0 = false := apart1 a0
  go_enter Tryd.func7, Tryd.ntmps7
  go_wp2_with (first | (go_at_call 12; refine (unpack_any _ _ hs0 b0.1 b0.2).mono ?_; rintro e w1 ⟨rfl, hb1⟩; have hs1 := (hs0.later hb1).later (Below.alloc (Below.refl _ _) (Nat.le_refl _) (Obj.cells #[Value.int IntKind.i64 (unK a0), Value.int IntKind.i64 (unI a0), Value.int IntKind.i64 (unP a0), Value.int IntKind.i64 (unN a0)] 23)); have HA1 := HA0.later hb1; have HB1 := HB0.later hb1; have z1 : w.heap.size + 1 < w1.heap.size := (by have := hb1.size; simp at this; omega); have HA1' := HA1.later (Below.alloc (Below.refl _ _) (Nat.le_refl _) (Obj.cells #[Value.int IntKind.i64 (unK a0), Value.int IntKind.i64 (unI a0), Value.int IntKind.i64 (unP a0), Value.int IntKind.i64 (unN a0)] 23)); have HB1' := HB1.later (Below.alloc (Below.refl _ _) (Nat.le_refl _) (Obj.cells #[Value.int IntKind.i64 (unK a0), Value.int IntKind.i64 (unI a0), Value.int IntKind.i64 (unP a0), Value.int IntKind.i64 (unN a0)] 23)); have B1 := B0.trans (hb1.mono B0.size); have B1' := B1.trans (Below.alloc (Below.refl _ _) B1.size (Obj.cells #[Value.int IntKind.i64 (unK a0), Value.int IntKind.i64 (unI a0), Value.int IntKind.i64 (unP a0), Value.int IntKind.i64 (unN a0)] 23)); have HA9 := HA1'; obtain ⟨xa0, xa1, xa2, xa3⟩ := HA9; clear HA1 HB1) | (go_at_call 15; refine (moved_any _ _ b0.1 b0.2).mono ?_; rintro e w' ⟨rfl, rfl⟩) | (go_at_call_of 9 (Value.agg #[Value.int IntKind.i64 k1, Value.int IntKind.i64 i1, Value.int IntKind.i64 p1, Value.int IntKind.i64 n1]); refine (pack_any _ _ _ _ _ hs1 bp1.2).mono ?_; rintro e w2 ⟨rfl, hb2⟩; have hs2 := hs1.later hb2; have HA2 := HA1'.later hb2; have HB2 := HB1'.later hb2; have B2 := B1'.trans (hb2.mono B1'.size); have HB2' := HB2; obtain ⟨yb0, yb1, yb2, yb3⟩ := HB2') | (go_at_call_of 9 (Value.agg #[Value.int IntKind.i64 k2, Value.int IntKind.i64 i2, Value.int IntKind.i64 p2, Value.int IntKind.i64 n2]); refine (pack_any _ _ _ _ _ hs2 bp2.2).mono ?_; rintro e w3 ⟨rfl, hb3⟩; have hs3 := hs2.later hb3; have HA3 := HA2.later hb3; have HB3 := HB2.later hb3; have B3 := B2.trans (hb3.mono B2.size)) | (go_at_call 11; refine (awake_any _ hs3).mono ?_; rintro e w4 ⟨rfl, hb4⟩; have B4 := B3.trans (hb4.mono B3.size); obtain ⟨za0, za1, za2, za3⟩ := HA3.later hb4; obtain ⟨zb0, zb1, zb2, zb3⟩ := HB3.later hb4))
  all_goals go_ret
  all_goals refine ⟨retBool ?_, B4⟩
  all_goals (try rfl)
  all_goals (clear hs0 hs1 hs2 hs3 HA0 HB0 HA1' HB1' HA2 HB2 HA3 HB3 B0 B1 B1' B2 B3 B4 hb1 hb2 hb3 hb4 xa0 xa1 xa2 xa3 yb0 yb1 yb2 yb3 za0 za1 za2 za3 zb0 zb1 zb2 zb3 bk1 bi1 bp1 bn1 bk2 bi2 bp2 bn2)
  all_goals (clear h ap z1; subst_vars; rw [Bool.not_eq_true']; exact unlike (by assumption) (by assumption) (by omega))

/-- What the walk gives, for every argument and every world that holds the table. -/
theorem contract (H : Type) (enc : TypeId × Value → H) (W : World) (base : Nat) (args : Array Value) (ds gs : List (DataW H)) (before : List MemPlace)
    (hval : ∀ (j : Nat) t v, Tryd.f7.params[j]? = some t → args[j]? = some v → Value.okWide Tryd.prog W .any base t v)
    (hW : DataW.Whole enc Tryd.prog Tryd.f7.params.toList Rows.wordApartSpec.vars false W args.toList ds gs before) (hL : laidMetH Tryd.prog Rows.wordApartRow.laid W) :
    Calls Tryd.prog 7 args W fun e W' => ∃ v, e = .returned v ∧ Rows.wordApartSpec.post enc Tryd.prog Tryd.f7 false true false false W args v W' := by
  have hW' := hW
  obtain ⟨p, q, hA0, hV, rfl, hfz, hnd⟩ := hW
  have hA : DataW.TrodAll enc Tryd.prog W 0 (fun _ => true) true Tryd.f7.params.toList args.toList ds p := hA0
  rw [Tryd.params7] at hA hval
  obtain ⟨v0, vs0, d0, ds0, p0, q0, hargs, rfl, rfl, h0, r0⟩ := trodAll_cons hA
  obtain ⟨v1, vs1, d1, ds1, p1, q1, rfl, rfl, rfl, h1, r1⟩ := trodAll_cons r0
  obtain ⟨v2, vs2, d2, ds2, p2, q2, rfl, rfl, rfl, h2, r2⟩ := trodAll_cons r1
  obtain ⟨rfl, rfl, rfl⟩ := trodAll_nil r2
  obtain rfl : args = #[v0, v1, v2] := by cases args; simp_all
  obtain ⟨rfl, rfl⟩ := trodVars_none hV
  have t0 := h0
  have lt0 : ∀ x ∈ p0, x.block < W.heap.size := by obtain ⟨m, hm⟩ := t0; exact DataW.trod_lt m _ _ _ hm
  obtain ⟨a0, rfl, hd0, hp0, w0⟩ := open_int Tryd.underlying24 (hval 0 24 v0 rfl rfl) h0
  have t1 := h1
  have lt1 : ∀ x ∈ p1, x.block < W.heap.size := by obtain ⟨m, hm⟩ := t1; exact DataW.trod_lt m _ _ _ hm
  obtain ⟨c0, c1, c2, c3, y0, y1, y2, y3, m, rfl, hd1, hp1, hy0, hy1, hy2, hy3⟩ := Joins.open_agg4 Tryd.underlying23 (by kernel_rfl) cells23 (hval 1 23 v1 rfl rfl) h1
  obtain ⟨k1, e0, _, wk1⟩ := DataW.trod_int Tryd.underlying3 hy0
  obtain ⟨i1, e1, _, wi1⟩ := DataW.trod_int Tryd.underlying3 hy1
  obtain ⟨p1', e2, _, wp1⟩ := DataW.trod_int Tryd.underlying3 hy2
  obtain ⟨n1, e3, _, wn1⟩ := DataW.trod_int Tryd.underlying3 hy3
  simp only [List.cons.injEq, and_true] at e0 e1 e2 e3
  subst e0 e1 e2 e3
  clear hy0 hy1 hy2 hy3
  have t2 := h2
  have lt2 : ∀ x ∈ p2, x.block < W.heap.size := by obtain ⟨m, hm⟩ := t2; exact DataW.trod_lt m _ _ _ hm
  obtain ⟨c0, c1, c2, c3, y0, y1, y2, y3, m, rfl, hd2, hp2, hy0, hy1, hy2, hy3⟩ := Joins.open_agg4 Tryd.underlying23 (by kernel_rfl) cells23 (hval 2 23 v2 rfl rfl) h2
  obtain ⟨k2, e0, _, wk2⟩ := DataW.trod_int Tryd.underlying3 hy0
  obtain ⟨i2, e1, _, wi2⟩ := DataW.trod_int Tryd.underlying3 hy1
  obtain ⟨p2', e2, _, wp2⟩ := DataW.trod_int Tryd.underlying3 hy2
  obtain ⟨n2, e3, _, wn2⟩ := DataW.trod_int Tryd.underlying3 hy3
  simp only [List.cons.injEq, and_true] at e0 e1 e2 e3
  subst e0 e1 e2 e3
  clear hy0 hy1 hy2 hy3
  clear hA0
  refine (walk a0 k1 i1 p1' n1 k2 i2 p2' n2 W (spans_of hL) (bounds_u64 w0) (bounds_i64 wk1) (bounds_i64 wi1) (bounds_i64 wp1) (bounds_i64 wn1) (bounds_i64 wk2) (bounds_i64 wi2) (bounds_i64 wp2) (bounds_i64 wn2)).mono fun e W' ⟨he, bel⟩ => ?_
  subst he
  exact ⟨_, rfl, _, _, _, [], _, [], hW', trodAll_mk1 (shut_bool Tryd.underlying4 _), (trodAll_cons_mk (Below.trod laidOut (by kernel_rfl) (of_decide_eq_true (by kernel_rfl)) t0 bel lt0) (trodAll_cons_mk (Below.trod laidOut (by kernel_rfl) (of_decide_eq_true (by kernel_rfl)) t1 bel lt1) (trodAll_cons_mk (Below.trod laidOut (by kernel_rfl) (of_decide_eq_true (by kernel_rfl)) t2 bel lt2) trodAll_mk0))), rfl, bel.frame _, fun h => by cases h⟩

theorem laid_met (os : Os) : laidMet Tryd.prog Rows.wordApartRow.laid ((laidWorld os).forCall (fun _ _ => 0) ⟨#[], #[.int .u64 0, head 0 0 0 0, head 0 0 0 0], []⟩).memory :=
  laidMet_of_run' 8 (by kernel_rfl) (by kernel_rfl)
theorem reads (os : Os) {H : Type} (enc : TypeId × Value → H) : ∃ places, DataW.whole enc Tryd.prog ((laidWorld os).forCall (fun _ _ => 0) ⟨#[], #[.int .u64 0, head 0 0 0 0, head 0 0 0 0], []⟩).memory Tryd.f7.params.toList Rows.wordApartSpec.vars false #[.int .u64 0, head 0 0 0 0, head 0 0 0 0].toList 8 = some ([.lit (.int .u64 0), .agg [.lit (.int .i64 0), .lit (.int .i64 0), .lit (.int .i64 0), .lit (.int .i64 0)], .agg [.lit (.int .i64 0), .lit (.int .i64 0), .lit (.int .i64 0), .lit (.int .i64 0)]], [], places) :=
  ⟨[], by kernel_rfl⟩

set_option maxRecDepth 100000 in
theorem lifted (os : Os) (started : os.Started) (H : Type) (enc : TypeId × Value → H) (F : Stop.Interp) :
    ReturnsInHanded {} Tryd.checked os 7 .any ((OpenSpec.ofChange Rows.wordApartSpec).preRow enc Tryd.prog Tryd.f7 Rows.wordApartRow.domain false Rows.wordApartRow.laid) (((OpenSpec.ofChange Rows.wordApartSpec).at F).post enc Tryd.prog Tryd.f7 false true false false) := by
  obtain ⟨places, hx⟩ := reads os enc
  refine returnsInHanded_of_row (C := Tryd.checked) (s := OpenSpec.ofChange Rows.wordApartSpec) own started (by kernel_rfl) Tryd.func7
    (witness_row_at (enc := enc) (C := Tryd.checked) false (laidWorld os) #[.int .u64 0, head 0 0 0 0, head 0 0 0 0] rfl (by kernel_rfl) (by kernel_rfl) (by kernel_rfl)
      (OpenSpec.preRow_of_cond 8 hx (by kernel_rfl) (fun k hk => by cases hk) (by kernel_rfl) (laid_met os))) ?_
  intro W base args ds gs before hval hW _ _ _ hL _ _
  exact contract H enc W base args ds gs before hval hW hL

theorem said : Rows.WordApartSaid :=
  OpenClaim.holds_of_cond 7 Tryd.f7 rfl rfl rfl rfl rfl rfl rfl ⟨rfl, rfl, rfl, rfl, rfl⟩ rfl rfl rfl rfl rfl (by kernel_rfl) Tryd.func7 (by kernel_rfl)
    (of_decide_eq_true (by kernel_rfl)) (by unfold Func.isWrapper; first | (rw [if_pos (by decide +kernel)]; kernel_rfl) | (rw [if_neg (by decide +kernel)]; exact ⟨rfl, rfl⟩))
    (fun os started H enc _ F => by rw [OpenClaim.pre_eq_preRow]; exact lifted os started H enc F)

/-- No parameter wants a stand-in; the program's own looks are off: what the card asks. -/
theorem plain (f : FuncId) (fn : Func) (hf : Tryd.pinned.checked.prog.funcNamed "midden/middenlaw01.WordApart" = some f) (hfn : Tryd.pinned.checked.prog.funcs[f]? = some fn) :
    false = Tryd.pinned.checked.prog.looks [] ∧ ∀ (j : Nat) t, fn.params[j]? = some t → Tryd.pinned.checked.prog.wantsStandIn t = false := by
  obtain rfl : f = 7 := Option.some.inj ((show Tryd.prog.funcNamed "midden/middenlaw01.WordApart" = some 7 by kernel_rfl).symm.trans hf) |>.symm
  obtain rfl : fn = Tryd.f7 := (Option.some.inj (Tryd.func7.symm.trans hfn)).symm
  refine ⟨by kernel_rfl, fun j t ht => ?_⟩
  rw [Tryd.params7] at ht
  have hm : t ∈ [24, 23, 23] := by simpa using Array.mem_of_getElem? ht
  have hall : ([24, 23, 23].all fun u => !Tryd.prog.wantsStandIn u) = true := by kernel_rfl
  exact (show Tryd.prog.wantsStandIn t = false by simpa using List.all_eq_true.1 hall t hm)

theorem card : Rows.WordApartCardSaid :=
  Claim7.holds_tied_plain_at .later [] _ _ _ _ said (fun _ h => by cases h) (by kernel_rfl) (fun _ h => by cases h) wordApart_row_tie rfl ⟨rfl, rfl⟩ (by kernel_rfl) rfl plain (by kernel_rfl)
end Go.Proofs.YtecomopllkjfbaaDoor.wordApart

namespace Go.Proofs.YtecomopllkjfbaaDoor
theorem wordApart_card : Rows.WordApartCardSaid := wordApart.card
#print axioms wordApart_card
end Go.Proofs.YtecomopllkjfbaaDoor
