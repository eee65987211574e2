/-
  The statement PrimParts, as its card says it: for every two numbers, quotient and rest make the number again, the rest is nearer to 0 than the divisor and has the sign of the number; by 0 both are refused.
  Conditions: none on the input; the package-level table of the primitives starts as the program's text lays it (the card ties it to that text, of the pruned copy of the project that this seat holds).
-/
import Derived.Test.YtfopbakhbobgjaaDoorLaid
namespace Go.Proofs.YtfopbakhbobgjaaDoor.primParts
open Go.ChangeShapes Go.WideShapes Go.ChangeAt Go.RowKit
open Go.ChangeMaps (open_string)
set_option linter.unusedVariables false

theorem wrap_mul (x y : Int) : wrap64 (wrap64 x * y) = wrap64 (x * y) := by
  refine wrap_of_mod ?_
  have e : wrap64 x = x + 18446744073709551616 * - ((x + 9223372036854775808) / 18446744073709551616) := by unfold wrap64; omega
  rw [e, Int.add_mul, Int.mul_assoc, Int.add_mul_emod_self_left]
theorem wrap_add (x y : Int) : wrap64 (wrap64 x + y) = wrap64 (x + y) := by unfold wrap64; omega
theorem again (a b : Int) (ha : isI a) : tellI 1 (tellI 3 (tellI 4 a b) b) (tellI 5 a b) = a := by
  show wrap64 (wrap64 (wrap64 (a.tdiv b) * b) + a.tmod b) = a
  rw [wrap_add]
  have e : wrap64 (a.tdiv b) * b + a.tmod b = a + 18446744073709551616 * (- ((a.tdiv b + 9223372036854775808) / 18446744073709551616) * b) := by
    have e1 : wrap64 (a.tdiv b) = a.tdiv b + 18446744073709551616 * - ((a.tdiv b + 9223372036854775808) / 18446744073709551616) := by unfold wrap64; omega
    rw [e1, Int.add_mul, Int.mul_assoc]
    have e2 := Int.tmod_add_mul_tdiv a b
    rw [Int.mul_comm b] at e2
    omega
  rw [wrap_of_mod (show (wrap64 (a.tdiv b) * b + a.tmod b) % 18446744073709551616 = a % 18446744073709551616 by rw [e, Int.add_mul_emod_self_left])]
  obtain ⟨h1, h2⟩ := ha
  unfold wrap64
  omega
theorem near (a b : Int) (hb : ¬ b = 0) : (a.tmod b).natAbs < b.natAbs := by
  rw [abs_tmod]
  have h1 : ((a.natAbs : Int) % (b.natAbs : Int)) < b.natAbs := by
    rw [← Int.natCast_emod]
    exact Int.ofNat_lt.2 (Nat.mod_lt _ (by omega))
  have h2 : 0 ≤ ((a.natAbs : Int) % (b.natAbs : Int)) := by rw [← Int.natCast_emod]; omega
  generalize (a.natAbs : Int) % (b.natAbs : Int) = r at *
  split <;> omega
theorem sign1 (a b : Int) (h : 0 < a.tmod b) : ¬ a < 0 := by
  intro n
  rw [abs_tmod] at h
  have h2 : 0 ≤ ((a.natAbs : Int) % (b.natAbs : Int)) := by rw [← Int.natCast_emod]; omega
  generalize (a.natAbs : Int) % (b.natAbs : Int) = r at *
  rw [if_pos (by simp [n])] at h
  omega
theorem sign2 (a b : Int) (h : a.tmod b < 0) : ¬ 0 < a := by
  intro n
  rw [abs_tmod] at h
  have h2 : 0 ≤ ((a.natAbs : Int) % (b.natAbs : Int)) := by rw [← Int.natCast_emod]; omega
  generalize (a.natAbs : Int) % (b.natAbs : Int) = r at *
  rw [if_neg (by simp; omega)] at h
  omega
theorem tell_do (k : Nat) (a b : Int) (w : World) (h : Table w) (h1 : 1 ≤ k) (h7 : k ≤ 7) (hb : b = 0 → ¬ (k = 4 ∨ k = 5)) {n : Int} (e : n = k) {x : Int} (hx : tellI k a b = x) : Calls Tryd.prog 17 #[.int .i64 n, .int .i64 a, .int .i64 b] w fun e w' => e = .returned (.tuple #[.int .i64 x, .int .i64 0]) ∧ Below w.heap.size w w' := by
  subst e hx
  exact do_in k a b w h h1 h7 hb
theorem div_do {n : Int} (o : n = 4 ∨ n = 5) (a : Int) (w : World) (h : Table w) : Calls Tryd.prog 17 #[.int .i64 n, .int .i64 a, .int .i64 0] w fun e w' => e = .returned (.tuple #[.int .i64 0, .int .i64 40]) ∧ Below w.heap.size w w' := do_div n a w h o
set_option maxHeartbeats 2000000 in
theorem walk_zero (a0 : Int) (w : World) (h : Table w) :
    Calls Tryd.prog 6 #[.int .i64 a0, .int .i64 0] w fun e w' => e = .returned (.bool true) ∧ Below w.heap.size w w' := by
  have X := fun w h => div_do (n := 4) (Or.inl rfl) a0 w h
  have Y := fun w h => div_do (n := 5) (Or.inr rfl) a0 w h
  go_enter Tryd.func6, Tryd.ntmps6
  go_wp2_with (first
    | (go_at_call_of 17 (Value.int IntKind.i64 4); refine (X _ h).mono ?_; rintro e w1 ⟨rfl, B1⟩; have T1 := h.later B1)
    | (go_at_call_of 17 (Value.int IntKind.i64 5); refine (Y _ T1).mono ?_; rintro e w2 ⟨rfl, B2⟩; have T2 := T1.later B2)
    | (go_at_call 8; refine (awake_any _ T2).mono ?_; rintro e w3 ⟨rfl, B3⟩))
  go_ret
  exact ⟨rfl, belowOn (belowOn B1 B2) B3⟩
set_option maxHeartbeats 4000000 in
theorem walk_of (a0 a1 q r p : Int) (w : World) (h : Table w) (z : ¬ a1 = 0) (hq : tellI 4 a0 a1 = q) (hr : tellI 5 a0 a1 = r) (hp : tellI 3 q a1 = p) (hs : tellI 1 p r = a0)
    (b1 : -9223372036854775808 ≤ a1 ∧ a1 ≤ 9223372036854775807) (br : -9223372036854775808 ≤ r ∧ r ≤ 9223372036854775807) (s1 : 0 < r → ¬ a0 < 0) (s2 : r < 0 → ¬ 0 < a0) (near : r.natAbs < a1.natAbs) :
    Calls Tryd.prog 6 #[.int .i64 a0, .int .i64 a1] w fun e w' => e = .returned (.bool true) ∧ Below w.heap.size w w' := by
  have Q := fun w h => tell_do 4 a0 a1 w h (by decide) (by decide) (fun e => absurd e z) (n := 4) rfl hq
  have R := fun w h => tell_do 5 a0 a1 w h (by decide) (by decide) (fun e => absurd e z) (n := 5) rfl hr
  have P := fun w h => tell_do 3 q a1 w h (by decide) (by decide) (fun _ => by decide) (n := 3) rfl hp
  have S := fun w h => tell_do 1 p r w h (by decide) (by decide) (fun _ => by decide) (n := 1) rfl hs
  have z' : (a1 == 0) = false := by simp [z]
  clear hq hr hp hs
  have rc : 0 < r ∨ r < 0 ∨ r = 0 := by omega
  rcases rc with rp | rp | rp <;> by_cases bp : 0 < a1
  · have c1 := s1 rp
    have c2 : ¬ r < 0 := by omega
    clear s1 s2
    go_enter Tryd.func6, Tryd.ntmps6
    go_wp2_with (first
      | (go_at_call_of 17 (Value.int IntKind.i64 4); refine (Q _ h).mono ?_; rintro e w1 ⟨rfl, B1⟩; have T1 := h.later B1)
      | (go_at_call_of 17 (Value.int IntKind.i64 5); refine (R _ T1).mono ?_; rintro e w2 ⟨rfl, B2⟩; have T2 := T1.later B2)
      | (go_at_call 8; refine (awake_any _ T2).mono ?_; rintro e w3 ⟨rfl, B3⟩; have T3 := T2.later B3)
      | (go_at_call_of 17 (Value.int IntKind.i64 3); refine (P _ T3).mono ?_; rintro e w4 ⟨rfl, B4⟩; have T4 := T3.later B4)
      | (go_at_call_of 17 (Value.int IntKind.i64 1); refine (S _ T4).mono ?_; rintro e w5 ⟨rfl, B5⟩))
    go_ret
    exact ⟨(by first | rfl | exact retBool (decide_eq_true (by omega))), belowOn (belowOn (belowOn (belowOn B1 B2) B3) B4) B5⟩
  · have c1 := s1 rp
    have c2 : ¬ r < 0 := by omega
    clear s1 s2
    go_enter Tryd.func6, Tryd.ntmps6
    go_wp2_with (first
      | (go_at_call_of 17 (Value.int IntKind.i64 4); refine (Q _ h).mono ?_; rintro e w1 ⟨rfl, B1⟩; have T1 := h.later B1)
      | (go_at_call_of 17 (Value.int IntKind.i64 5); refine (R _ T1).mono ?_; rintro e w2 ⟨rfl, B2⟩; have T2 := T1.later B2)
      | (go_at_call 8; refine (awake_any _ T2).mono ?_; rintro e w3 ⟨rfl, B3⟩; have T3 := T2.later B3)
      | (go_at_call_of 17 (Value.int IntKind.i64 3); refine (P _ T3).mono ?_; rintro e w4 ⟨rfl, B4⟩; have T4 := T3.later B4)
      | (go_at_call_of 17 (Value.int IntKind.i64 1); refine (S _ T4).mono ?_; rintro e w5 ⟨rfl, B5⟩))
    go_ret
    exact ⟨(by first | rfl | exact retBool (decide_eq_true (by omega))), belowOn (belowOn (belowOn (belowOn B1 B2) B3) B4) B5⟩
  · have c1 := s2 rp
    have c2 : ¬ 0 < r := by omega
    clear s1 s2
    go_enter Tryd.func6, Tryd.ntmps6
    go_wp2_with (first
      | (go_at_call_of 17 (Value.int IntKind.i64 4); refine (Q _ h).mono ?_; rintro e w1 ⟨rfl, B1⟩; have T1 := h.later B1)
      | (go_at_call_of 17 (Value.int IntKind.i64 5); refine (R _ T1).mono ?_; rintro e w2 ⟨rfl, B2⟩; have T2 := T1.later B2)
      | (go_at_call 8; refine (awake_any _ T2).mono ?_; rintro e w3 ⟨rfl, B3⟩; have T3 := T2.later B3)
      | (go_at_call_of 17 (Value.int IntKind.i64 3); refine (P _ T3).mono ?_; rintro e w4 ⟨rfl, B4⟩; have T4 := T3.later B4)
      | (go_at_call_of 17 (Value.int IntKind.i64 1); refine (S _ T4).mono ?_; rintro e w5 ⟨rfl, B5⟩))
    go_ret
    exact ⟨(by first | rfl | exact retBool (decide_eq_true (by omega))), belowOn (belowOn (belowOn (belowOn B1 B2) B3) B4) B5⟩
  · have c1 := s2 rp
    have c2 : ¬ 0 < r := by omega
    clear s1 s2
    go_enter Tryd.func6, Tryd.ntmps6
    go_wp2_with (first
      | (go_at_call_of 17 (Value.int IntKind.i64 4); refine (Q _ h).mono ?_; rintro e w1 ⟨rfl, B1⟩; have T1 := h.later B1)
      | (go_at_call_of 17 (Value.int IntKind.i64 5); refine (R _ T1).mono ?_; rintro e w2 ⟨rfl, B2⟩; have T2 := T1.later B2)
      | (go_at_call 8; refine (awake_any _ T2).mono ?_; rintro e w3 ⟨rfl, B3⟩; have T3 := T2.later B3)
      | (go_at_call_of 17 (Value.int IntKind.i64 3); refine (P _ T3).mono ?_; rintro e w4 ⟨rfl, B4⟩; have T4 := T3.later B4)
      | (go_at_call_of 17 (Value.int IntKind.i64 1); refine (S _ T4).mono ?_; rintro e w5 ⟨rfl, B5⟩))
    go_ret
    exact ⟨(by first | rfl | exact retBool (decide_eq_true (by omega))), belowOn (belowOn (belowOn (belowOn B1 B2) B3) B4) B5⟩
  · subst rp
    clear s1 s2
    go_enter Tryd.func6, Tryd.ntmps6
    go_wp2_with (first
      | (go_at_call_of 17 (Value.int IntKind.i64 4); refine (Q _ h).mono ?_; rintro e w1 ⟨rfl, B1⟩; have T1 := h.later B1)
      | (go_at_call_of 17 (Value.int IntKind.i64 5); refine (R _ T1).mono ?_; rintro e w2 ⟨rfl, B2⟩; have T2 := T1.later B2)
      | (go_at_call 8; refine (awake_any _ T2).mono ?_; rintro e w3 ⟨rfl, B3⟩; have T3 := T2.later B3)
      | (go_at_call_of 17 (Value.int IntKind.i64 3); refine (P _ T3).mono ?_; rintro e w4 ⟨rfl, B4⟩; have T4 := T3.later B4)
      | (go_at_call_of 17 (Value.int IntKind.i64 1); refine (S _ T4).mono ?_; rintro e w5 ⟨rfl, B5⟩))
    go_ret
    exact ⟨(by first | rfl | exact retBool (decide_eq_true (by omega))), belowOn (belowOn (belowOn (belowOn B1 B2) B3) B4) B5⟩
  · subst rp
    clear s1 s2
    go_enter Tryd.func6, Tryd.ntmps6
    go_wp2_with (first
      | (go_at_call_of 17 (Value.int IntKind.i64 4); refine (Q _ h).mono ?_; rintro e w1 ⟨rfl, B1⟩; have T1 := h.later B1)
      | (go_at_call_of 17 (Value.int IntKind.i64 5); refine (R _ T1).mono ?_; rintro e w2 ⟨rfl, B2⟩; have T2 := T1.later B2)
      | (go_at_call 8; refine (awake_any _ T2).mono ?_; rintro e w3 ⟨rfl, B3⟩; have T3 := T2.later B3)
      | (go_at_call_of 17 (Value.int IntKind.i64 3); refine (P _ T3).mono ?_; rintro e w4 ⟨rfl, B4⟩; have T4 := T3.later B4)
      | (go_at_call_of 17 (Value.int IntKind.i64 1); refine (S _ T4).mono ?_; rintro e w5 ⟨rfl, B5⟩))
    go_ret
    exact ⟨(by first | rfl | exact retBool (decide_eq_true (by omega))), belowOn (belowOn (belowOn (belowOn B1 B2) B3) B4) B5⟩
theorem walk (a0 a1 : Int) (w : World) (h : Table w) (b0 : -9223372036854775808 ≤ a0 ∧ a0 ≤ 9223372036854775807) (b1 : -9223372036854775808 ≤ a1 ∧ a1 ≤ 9223372036854775807) :
    Calls Tryd.prog 6 #[.int .i64 a0, .int .i64 a1] w fun e w' => e = .returned (.bool true) ∧ Below w.heap.size w w' := by
  by_cases z : a1 = 0
  · subst z
    exact walk_zero a0 w h
  · exact walk_of a0 a1 _ _ _ w h z rfl rfl rfl (again a0 a1 b0) b1 (tmod_le a0 a1 b0) (sign1 a0 a1) (sign2 a0 a1) (near a0 a1 z)

/-- What the walk gives, for every argument and every world that holds the table. -/
theorem contract (H : Type) (enc : TypeId × Value → H) (W : World) (base : Nat) (args : Array Value) (ds gs : List (DataW H)) (before : List MemPlace)
    (hval : ∀ (j : Nat) t v, Tryd.f6.params[j]? = some t → args[j]? = some v → Value.okWide Tryd.prog W .any base t v)
    (hW : DataW.Whole enc Tryd.prog Tryd.f6.params.toList Rows.primPartsSpec.vars false W args.toList ds gs before) (hL : laidMetH Tryd.prog Rows.primPartsRow.laid W) :
    Calls Tryd.prog 6 args W fun e W' => ∃ v, e = .returned v ∧ Rows.primPartsSpec.post enc Tryd.prog Tryd.f6 false true false false W args v W' := by
  have hW' := hW
  obtain ⟨p, q, hA0, hV, rfl, hfz, hnd⟩ := hW
  have hA : DataW.TrodAll enc Tryd.prog W 0 (fun _ => true) true Tryd.f6.params.toList args.toList ds p := hA0
  rw [Tryd.params6] at hA hval
  obtain ⟨v0, vs0, d0, ds0, p0, q0, hargs, rfl, rfl, h0, r0⟩ := trodAll_cons hA
  obtain ⟨v1, vs1, d1, ds1, p1, q1, rfl, rfl, rfl, h1, r1⟩ := trodAll_cons r0
  obtain ⟨rfl, rfl, rfl⟩ := trodAll_nil r1
  obtain rfl : args = #[v0, v1] := by cases args; simp_all
  obtain ⟨rfl, rfl⟩ := trodVars_none hV
  have t0 := h0
  have lt0 : ∀ x ∈ p0, x.block < W.heap.size := by obtain ⟨m, hm⟩ := t0; exact DataW.trod_lt m _ _ _ hm
  obtain ⟨a0, rfl, hd0, hp0, w0⟩ := open_int Tryd.underlying2 (hval 0 2 v0 rfl rfl) h0
  have t1 := h1
  have lt1 : ∀ x ∈ p1, x.block < W.heap.size := by obtain ⟨m, hm⟩ := t1; exact DataW.trod_lt m _ _ _ hm
  obtain ⟨a1, rfl, hd1, hp1, w1⟩ := open_int Tryd.underlying2 (hval 1 2 v1 rfl rfl) h1
  clear hA0
  refine (walk a0 a1 W (table_of hL) (bounds_i64 w0) (bounds_i64 w1)).mono fun e W' ⟨he, bel⟩ => ?_
  subst he
  exact ⟨_, rfl, _, _, _, [], _, [], hW', trodAll_mk1 (shut_bool Tryd.underlying4 _), (trodAll_cons_mk (Below.trod laidOut (by kernel_rfl) (of_decide_eq_true (by kernel_rfl)) t0 bel lt0) (trodAll_cons_mk (Below.trod laidOut (by kernel_rfl) (of_decide_eq_true (by kernel_rfl)) t1 bel lt1) trodAll_mk0)), rfl, bel.frame _, fun h => by cases h⟩

theorem laid_met (os : Os) : laidMet Tryd.prog Rows.primPartsRow.laid ((laidWorld os).forCall (fun _ _ => 0) ⟨#[], #[.int .i64 0, .int .i64 0], []⟩).memory :=
  laidMet_of_run' 8 (by kernel_rfl) (by kernel_rfl)
theorem reads (os : Os) {H : Type} (enc : TypeId × Value → H) : ∃ places, DataW.whole enc Tryd.prog ((laidWorld os).forCall (fun _ _ => 0) ⟨#[], #[.int .i64 0, .int .i64 0], []⟩).memory Tryd.f6.params.toList Rows.primPartsSpec.vars false #[.int .i64 0, .int .i64 0].toList 8 = some ([.lit (.int .i64 0), .lit (.int .i64 0)], [], places) :=
  ⟨[], by kernel_rfl⟩

set_option maxRecDepth 100000 in
theorem lifted (os : Os) (started : os.Started) (H : Type) (enc : TypeId × Value → H) (F : Stop.Interp) :
    ReturnsInHanded {} Tryd.checked os 6 .any ((OpenSpec.ofChange Rows.primPartsSpec).preRow enc Tryd.prog Tryd.f6 Rows.primPartsRow.domain false Rows.primPartsRow.laid) (((OpenSpec.ofChange Rows.primPartsSpec).at F).post enc Tryd.prog Tryd.f6 false true false false) := by
  obtain ⟨places, hx⟩ := reads os enc
  refine returnsInHanded_of_row (C := Tryd.checked) (s := OpenSpec.ofChange Rows.primPartsSpec) own started (by kernel_rfl) Tryd.func6
    (witness_row_at (enc := enc) (C := Tryd.checked) false (laidWorld os) #[.int .i64 0, .int .i64 0] rfl (by kernel_rfl) (by kernel_rfl) (by kernel_rfl)
      (OpenSpec.preRow_of_cond 8 hx (by kernel_rfl) (fun k hk => by cases hk) (by kernel_rfl) (laid_met os))) ?_
  intro W base args ds gs before hval hW _ _ _ hL _ _
  exact contract H enc W base args ds gs before hval hW hL

theorem said : Rows.PrimPartsSaid :=
  OpenClaim.holds_of_cond 6 Tryd.f6 rfl rfl rfl rfl rfl rfl rfl ⟨rfl, rfl, rfl, rfl, rfl⟩ rfl rfl rfl rfl rfl (by kernel_rfl) Tryd.func6 (by kernel_rfl)
    (of_decide_eq_true (by kernel_rfl)) (by unfold Func.isWrapper; first | (rw [if_pos (by decide +kernel)]; kernel_rfl) | (rw [if_neg (by decide +kernel)]; exact ⟨rfl, rfl⟩))
    (fun os started H enc _ F => by rw [OpenClaim.pre_eq_preRow]; exact lifted os started H enc F)

/-- No parameter wants a stand-in; the program's own looks are off: what the card asks. -/
theorem plain (f : FuncId) (fn : Func) (hf : Tryd.pinned.checked.prog.funcNamed "midden/middenlaw08.PrimParts" = some f) (hfn : Tryd.pinned.checked.prog.funcs[f]? = some fn) :
    false = Tryd.pinned.checked.prog.looks [] ∧ ∀ (j : Nat) t, fn.params[j]? = some t → Tryd.pinned.checked.prog.wantsStandIn t = false := by
  obtain rfl : f = 6 := Option.some.inj ((show Tryd.prog.funcNamed "midden/middenlaw08.PrimParts" = some 6 by kernel_rfl).symm.trans hf) |>.symm
  obtain rfl : fn = Tryd.f6 := (Option.some.inj (Tryd.func6.symm.trans hfn)).symm
  refine ⟨by kernel_rfl, fun j t ht => ?_⟩
  rw [Tryd.params6] at ht
  have hm : t ∈ [2, 2] := by simpa using Array.mem_of_getElem? ht
  have hall : ([2, 2].all fun u => !Tryd.prog.wantsStandIn u) = true := by kernel_rfl
  exact (show Tryd.prog.wantsStandIn t = false by simpa using List.all_eq_true.1 hall t hm)

theorem card : Rows.PrimPartsCardSaid :=
  Claim7.holds_tied_plain_at .later [] _ _ _ _ said (fun _ h => by cases h) (by kernel_rfl) (fun _ h => by cases h) primParts_row_tie rfl ⟨rfl, rfl⟩ (by kernel_rfl) rfl plain (by kernel_rfl)
end Go.Proofs.YtfopbakhbobgjaaDoor.primParts

namespace Go.Proofs.YtfopbakhbobgjaaDoor
theorem primParts_card : Rows.PrimPartsCardSaid := primParts.card
#print axioms primParts_card
end Go.Proofs.YtfopbakhbobgjaaDoor
