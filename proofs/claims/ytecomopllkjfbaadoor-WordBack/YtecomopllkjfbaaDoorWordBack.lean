/-
  The statement WordBack, as its card says it: for every header and every word, a header that is laid is read as itself, and a word that is read is laid as itself.
  Conditions: none on the input; the package-level table of the header's fields starts as the program's text lays it (the card ties it to that text, of the pruned copy of the project that this seat holds).
-/
import Derived.Test.YtecomopllkjfbaaDoorLaid
import Derived.Test.YtecomopllkjfbaaDoorHeads
import Derived.Test.YtecomopllkjfbaaDoorUnpack
namespace Go.Proofs.YtecomopllkjfbaaDoor.wordBack
open Go.ChangeShapes Go.WideShapes Go.ChangeAt Go.RowKit
set_option linter.unusedVariables false

theorem unpack_back {k i p n : Int} (hE : packE k i p n = 0) (w : World) (h : Spans w) :
    Calls Tryd.prog 12 #[.int .u64 (packW k i p n)] w fun e w' => e = .returned (.tuple #[head k i p n, .int .i64 0]) ∧ Below w.heap.size w w' := by
  have b := packed_bd hE
  rw [← packW_ok hE] at b
  have := unpack_any (packW k i p n) w h b.1 (by omega)
  obtain ⟨e0, e1, e2, e3, e4⟩ := back1 hE
  rw [e0, e1, e2, e3, e4] at this
  exact this
theorem pack_back {x : Int} (h0 : 0 ≤ x) (h1 : x ≤ 18446744073709551615) (hU : unE x = 0) (w : World) (h : Spans w) :
    Calls Tryd.prog 9 #[head (unK x) (unI x) (unP x) (unN x)] w fun e w' => e = .returned (.tuple #[.int .u64 x, .int .i64 0]) ∧ Below w.heap.size w w' := by
  have b := uP_bd x
  have c : unP x ≤ 9223372036854775807 := by simp only [unP, hU, if_true]; omega
  have := pack_any (unK x) (unI x) (unP x) (unN x) w h c
  obtain ⟨e0, e1⟩ := back2 h0 h1 hU
  rw [e0, e1] at this
  exact this
theorem unpack_bad {x : Int} (h0 : 0 ≤ x) (h1 : x ≤ 18446744073709551615) (hU : unE x ≠ 0) (w : World) (h : Spans w) :
    Calls Tryd.prog 12 #[.int .u64 x] w fun e w' => e = .returned (.tuple #[head 0 0 0 0, .int .i64 (unE x)]) ∧ Below w.heap.size w w' := by
  have := unpack_any x w h h0 h1
  rw [un_bad rfl hU] at this
  exact this
set_option maxHeartbeats 2000000 in
theorem walk_yy (k0 i0 p0 n0 a1 : Int) (w : World) (h : Spans w) (bk0 : -9223372036854775808 ≤ k0 ∧ k0 ≤ 9223372036854775807) (bi0 : -9223372036854775808 ≤ i0 ∧ i0 ≤ 9223372036854775807) (bp0 : -9223372036854775808 ≤ p0 ∧ p0 ≤ 9223372036854775807) (bn0 : -9223372036854775808 ≤ n0 ∧ n0 ≤ 9223372036854775807) (b1 : 0 ≤ a1 ∧ a1 ≤ 18446744073709551615) (hE : packE k0 i0 p0 n0 = 0) (hU : unE a1 = 0) :
    Calls Tryd.prog 6 #[head k0 i0 p0 n0, .int .u64 a1] w fun e w' => e = .returned (.bool true) ∧ Below w.heap.size w w' := by
  have hs0 : Spans (w.alloc (Obj.cells #[Value.int IntKind.i64 k0, Value.int IntKind.i64 i0, Value.int IntKind.i64 p0, Value.int IntKind.i64 n0] 23)) := h.later (by go_grown)
  have H0 : HeadAt (w.alloc (Obj.cells #[Value.int IntKind.i64 k0, Value.int IntKind.i64 i0, Value.int IntKind.i64 p0, Value.int IntKind.i64 n0] 23)) w.heap.size k0 i0 p0 n0 := HeadAt.fresh w k0 i0 p0 n0
  have B0 : Below w.heap.size w (w.alloc (Obj.cells #[Value.int IntKind.i64 k0, Value.int IntKind.i64 i0, Value.int IntKind.i64 p0, Value.int IntKind.i64 n0] 23)) := by go_grown
  have tE : (packE k0 i0 p0 n0 == 0) = true := by simp [hE]
  have tU : (unE a1 != 0) = false := by simp [hU]
  go_enter Tryd.func6, Tryd.ntmps6
  go_wp2_with (first | (go_at_call 11; refine (awake_any _ hs0).mono ?_; rintro e w1 ⟨rfl, hb1⟩; have hs1 := hs0.later hb1; have H1 := H0.later hb1; have B1 := B0.trans (hb1.mono B0.size); have H1' := H1; obtain ⟨xa0, xa1, xa2, xa3⟩ := H1') | (go_at_call_of 9 (Value.agg #[Value.int IntKind.i64 k0, Value.int IntKind.i64 i0, Value.int IntKind.i64 p0, Value.int IntKind.i64 n0]); refine (pack_any _ _ _ _ _ hs1 bp0.2).mono ?_; rintro e w2 ⟨rfl, hb2⟩; have hs2 := hs1.later hb2; have H2 := H1.later hb2; have B2 := B1.trans (hb2.mono B1.size)) | (go_at_call_of 12 (Value.int IntKind.u64 (packW k0 i0 p0 n0)); refine (unpack_back hE _ hs2).mono ?_; rintro e w3 ⟨rfl, hb3⟩; have hs3 := (hs2.later hb3).later (Below.alloc (Below.refl _ _) (Nat.le_refl _) (Obj.cells #[Value.int IntKind.i64 k0, Value.int IntKind.i64 i0, Value.int IntKind.i64 p0, Value.int IntKind.i64 n0] 23)); have H3 := (H2.later hb3).later (Below.alloc (Below.refl _ _) (Nat.le_refl _) (Obj.cells #[Value.int IntKind.i64 k0, Value.int IntKind.i64 i0, Value.int IntKind.i64 p0, Value.int IntKind.i64 n0] 23)); have G3 := HeadAt.fresh w3 k0 i0 p0 n0; have B3 := B2.trans (hb3.mono B2.size); have B3' := B3.trans (Below.alloc (Below.refl _ _) B3.size (Obj.cells #[Value.int IntKind.i64 k0, Value.int IntKind.i64 i0, Value.int IntKind.i64 p0, Value.int IntKind.i64 n0] 23)); obtain ⟨ya0, ya1, ya2, ya3⟩ := H3; obtain ⟨za0, za1, za2, za3⟩ := G3) | (go_at_call_of 12 (Value.int IntKind.u64 a1); refine (unpack_any _ _ hs3 b1.1 b1.2).mono ?_; rintro e w4 ⟨rfl, hb4⟩; have hs4 := (hs3.later hb4).later (Below.alloc (Below.refl _ _) (Nat.le_refl _) (Obj.cells #[Value.int IntKind.i64 (unK a1), Value.int IntKind.i64 (unI a1), Value.int IntKind.i64 (unP a1), Value.int IntKind.i64 (unN a1)] 23)); have G4 := HeadAt.fresh w4 (unK a1) (unI a1) (unP a1) (unN a1); have B4 := B3'.trans (hb4.mono B3'.size); have B4' := B4.trans (Below.alloc (Below.refl _ _) B4.size (Obj.cells #[Value.int IntKind.i64 (unK a1), Value.int IntKind.i64 (unI a1), Value.int IntKind.i64 (unP a1), Value.int IntKind.i64 (unN a1)] 23)); obtain ⟨ua0, ua1, ua2, ua3⟩ := G4) | (go_at_call 9; refine (pack_back b1.1 b1.2 hU _ hs4).mono ?_; rintro e w5 ⟨rfl, hb5⟩; have B5 := B4'.trans (hb5.mono B4'.size)))
  go_ret
  exact ⟨rfl, B5⟩
set_option maxHeartbeats 2000000 in
theorem walk_yn (k0 i0 p0 n0 a1 : Int) (w : World) (h : Spans w) (bk0 : -9223372036854775808 ≤ k0 ∧ k0 ≤ 9223372036854775807) (bi0 : -9223372036854775808 ≤ i0 ∧ i0 ≤ 9223372036854775807) (bp0 : -9223372036854775808 ≤ p0 ∧ p0 ≤ 9223372036854775807) (bn0 : -9223372036854775808 ≤ n0 ∧ n0 ≤ 9223372036854775807) (b1 : 0 ≤ a1 ∧ a1 ≤ 18446744073709551615) (hE : packE k0 i0 p0 n0 = 0) (hU : unE a1 ≠ 0) :
    Calls Tryd.prog 6 #[head k0 i0 p0 n0, .int .u64 a1] w fun e w' => e = .returned (.bool true) ∧ Below w.heap.size w w' := by
  have hs0 : Spans (w.alloc (Obj.cells #[Value.int IntKind.i64 k0, Value.int IntKind.i64 i0, Value.int IntKind.i64 p0, Value.int IntKind.i64 n0] 23)) := h.later (by go_grown)
  have H0 : HeadAt (w.alloc (Obj.cells #[Value.int IntKind.i64 k0, Value.int IntKind.i64 i0, Value.int IntKind.i64 p0, Value.int IntKind.i64 n0] 23)) w.heap.size k0 i0 p0 n0 := HeadAt.fresh w k0 i0 p0 n0
  have B0 : Below w.heap.size w (w.alloc (Obj.cells #[Value.int IntKind.i64 k0, Value.int IntKind.i64 i0, Value.int IntKind.i64 p0, Value.int IntKind.i64 n0] 23)) := by go_grown
  have tE : (packE k0 i0 p0 n0 == 0) = true := by simp [hE]
  have tU : (unE a1 != 0) = true := by simp [hU]
  go_enter Tryd.func6, Tryd.ntmps6
  go_wp2_with (first | (go_at_call 11; refine (awake_any _ hs0).mono ?_; rintro e w1 ⟨rfl, hb1⟩; have hs1 := hs0.later hb1; have H1 := H0.later hb1; have B1 := B0.trans (hb1.mono B0.size); have H1' := H1; obtain ⟨xa0, xa1, xa2, xa3⟩ := H1') | (go_at_call_of 9 (Value.agg #[Value.int IntKind.i64 k0, Value.int IntKind.i64 i0, Value.int IntKind.i64 p0, Value.int IntKind.i64 n0]); refine (pack_any _ _ _ _ _ hs1 bp0.2).mono ?_; rintro e w2 ⟨rfl, hb2⟩; have hs2 := hs1.later hb2; have H2 := H1.later hb2; have B2 := B1.trans (hb2.mono B1.size)) | (go_at_call_of 12 (Value.int IntKind.u64 (packW k0 i0 p0 n0)); refine (unpack_back hE _ hs2).mono ?_; rintro e w3 ⟨rfl, hb3⟩; have hs3 := (hs2.later hb3).later (Below.alloc (Below.refl _ _) (Nat.le_refl _) (Obj.cells #[Value.int IntKind.i64 k0, Value.int IntKind.i64 i0, Value.int IntKind.i64 p0, Value.int IntKind.i64 n0] 23)); have H3 := (H2.later hb3).later (Below.alloc (Below.refl _ _) (Nat.le_refl _) (Obj.cells #[Value.int IntKind.i64 k0, Value.int IntKind.i64 i0, Value.int IntKind.i64 p0, Value.int IntKind.i64 n0] 23)); have G3 := HeadAt.fresh w3 k0 i0 p0 n0; have B3 := B2.trans (hb3.mono B2.size); have B3' := B3.trans (Below.alloc (Below.refl _ _) B3.size (Obj.cells #[Value.int IntKind.i64 k0, Value.int IntKind.i64 i0, Value.int IntKind.i64 p0, Value.int IntKind.i64 n0] 23)); obtain ⟨ya0, ya1, ya2, ya3⟩ := H3; obtain ⟨za0, za1, za2, za3⟩ := G3) | (go_at_call_of 12 (Value.int IntKind.u64 a1); refine (unpack_bad b1.1 b1.2 hU _ hs3).mono ?_; rintro e w4 ⟨rfl, hb4⟩; have G4 := HeadAt.fresh w4 0 0 0 0; have B4 := B3'.trans (hb4.mono B3'.size); obtain ⟨ua0, ua1, ua2, ua3⟩ := G4))
  go_ret
  exact ⟨rfl, B4.trans (Below.alloc (Below.refl _ _) B4.size _)⟩
set_option maxHeartbeats 2000000 in
theorem walk_ny (k0 i0 p0 n0 a1 : Int) (w : World) (h : Spans w) (bk0 : -9223372036854775808 ≤ k0 ∧ k0 ≤ 9223372036854775807) (bi0 : -9223372036854775808 ≤ i0 ∧ i0 ≤ 9223372036854775807) (bp0 : -9223372036854775808 ≤ p0 ∧ p0 ≤ 9223372036854775807) (bn0 : -9223372036854775808 ≤ n0 ∧ n0 ≤ 9223372036854775807) (b1 : 0 ≤ a1 ∧ a1 ≤ 18446744073709551615) (hE : packE k0 i0 p0 n0 ≠ 0) (hU : unE a1 = 0) :
    Calls Tryd.prog 6 #[head k0 i0 p0 n0, .int .u64 a1] w fun e w' => e = .returned (.bool true) ∧ Below w.heap.size w w' := by
  have hs0 : Spans (w.alloc (Obj.cells #[Value.int IntKind.i64 k0, Value.int IntKind.i64 i0, Value.int IntKind.i64 p0, Value.int IntKind.i64 n0] 23)) := h.later (by go_grown)
  have H0 : HeadAt (w.alloc (Obj.cells #[Value.int IntKind.i64 k0, Value.int IntKind.i64 i0, Value.int IntKind.i64 p0, Value.int IntKind.i64 n0] 23)) w.heap.size k0 i0 p0 n0 := HeadAt.fresh w k0 i0 p0 n0
  have B0 : Below w.heap.size w (w.alloc (Obj.cells #[Value.int IntKind.i64 k0, Value.int IntKind.i64 i0, Value.int IntKind.i64 p0, Value.int IntKind.i64 n0] 23)) := by go_grown
  have tE : (packE k0 i0 p0 n0 == 0) = false := by simp [hE]
  have tU : (unE a1 != 0) = false := by simp [hU]
  go_enter Tryd.func6, Tryd.ntmps6
  go_wp2_with (first | (go_at_call 11; refine (awake_any _ hs0).mono ?_; rintro e w1 ⟨rfl, hb1⟩; have hs1 := hs0.later hb1; have H1 := H0.later hb1; have B1 := B0.trans (hb1.mono B0.size); have H1' := H1; obtain ⟨xa0, xa1, xa2, xa3⟩ := H1') | (go_at_call_of 9 (Value.agg #[Value.int IntKind.i64 k0, Value.int IntKind.i64 i0, Value.int IntKind.i64 p0, Value.int IntKind.i64 n0]); refine (pack_any _ _ _ _ _ hs1 bp0.2).mono ?_; rintro e w2 ⟨rfl, hb2⟩; have hs3 := hs1.later hb2; have B3' := B1.trans (hb2.mono B1.size)) | (go_at_call_of 12 (Value.int IntKind.u64 a1); refine (unpack_any _ _ hs3 b1.1 b1.2).mono ?_; rintro e w4 ⟨rfl, hb4⟩; have hs4 := (hs3.later hb4).later (Below.alloc (Below.refl _ _) (Nat.le_refl _) (Obj.cells #[Value.int IntKind.i64 (unK a1), Value.int IntKind.i64 (unI a1), Value.int IntKind.i64 (unP a1), Value.int IntKind.i64 (unN a1)] 23)); have G4 := HeadAt.fresh w4 (unK a1) (unI a1) (unP a1) (unN a1); have B4 := B3'.trans (hb4.mono B3'.size); have B4' := B4.trans (Below.alloc (Below.refl _ _) B4.size (Obj.cells #[Value.int IntKind.i64 (unK a1), Value.int IntKind.i64 (unI a1), Value.int IntKind.i64 (unP a1), Value.int IntKind.i64 (unN a1)] 23)); obtain ⟨ua0, ua1, ua2, ua3⟩ := G4) | (go_at_call 9; refine (pack_back b1.1 b1.2 hU _ hs4).mono ?_; rintro e w5 ⟨rfl, hb5⟩; have B5 := B4'.trans (hb5.mono B4'.size)))
  go_ret
  exact ⟨rfl, B5⟩
set_option maxHeartbeats 2000000 in
theorem walk_nn (k0 i0 p0 n0 a1 : Int) (w : World) (h : Spans w) (bk0 : -9223372036854775808 ≤ k0 ∧ k0 ≤ 9223372036854775807) (bi0 : -9223372036854775808 ≤ i0 ∧ i0 ≤ 9223372036854775807) (bp0 : -9223372036854775808 ≤ p0 ∧ p0 ≤ 9223372036854775807) (bn0 : -9223372036854775808 ≤ n0 ∧ n0 ≤ 9223372036854775807) (b1 : 0 ≤ a1 ∧ a1 ≤ 18446744073709551615) (hE : packE k0 i0 p0 n0 ≠ 0) (hU : unE a1 ≠ 0) :
    Calls Tryd.prog 6 #[head k0 i0 p0 n0, .int .u64 a1] w fun e w' => e = .returned (.bool true) ∧ Below w.heap.size w w' := by
  have hs0 : Spans (w.alloc (Obj.cells #[Value.int IntKind.i64 k0, Value.int IntKind.i64 i0, Value.int IntKind.i64 p0, Value.int IntKind.i64 n0] 23)) := h.later (by go_grown)
  have H0 : HeadAt (w.alloc (Obj.cells #[Value.int IntKind.i64 k0, Value.int IntKind.i64 i0, Value.int IntKind.i64 p0, Value.int IntKind.i64 n0] 23)) w.heap.size k0 i0 p0 n0 := HeadAt.fresh w k0 i0 p0 n0
  have B0 : Below w.heap.size w (w.alloc (Obj.cells #[Value.int IntKind.i64 k0, Value.int IntKind.i64 i0, Value.int IntKind.i64 p0, Value.int IntKind.i64 n0] 23)) := by go_grown
  have tE : (packE k0 i0 p0 n0 == 0) = false := by simp [hE]
  have tU : (unE a1 != 0) = true := by simp [hU]
  go_enter Tryd.func6, Tryd.ntmps6
  go_wp2_with (first | (go_at_call 11; refine (awake_any _ hs0).mono ?_; rintro e w1 ⟨rfl, hb1⟩; have hs1 := hs0.later hb1; have H1 := H0.later hb1; have B1 := B0.trans (hb1.mono B0.size); have H1' := H1; obtain ⟨xa0, xa1, xa2, xa3⟩ := H1') | (go_at_call_of 9 (Value.agg #[Value.int IntKind.i64 k0, Value.int IntKind.i64 i0, Value.int IntKind.i64 p0, Value.int IntKind.i64 n0]); refine (pack_any _ _ _ _ _ hs1 bp0.2).mono ?_; rintro e w2 ⟨rfl, hb2⟩; have hs3 := hs1.later hb2; have B3' := B1.trans (hb2.mono B1.size)) | (go_at_call_of 12 (Value.int IntKind.u64 a1); refine (unpack_bad b1.1 b1.2 hU _ hs3).mono ?_; rintro e w4 ⟨rfl, hb4⟩; have G4 := HeadAt.fresh w4 0 0 0 0; have B4 := B3'.trans (hb4.mono B3'.size); obtain ⟨ua0, ua1, ua2, ua3⟩ := G4))
  go_ret
  exact ⟨rfl, B4.trans (Below.alloc (Below.refl _ _) B4.size _)⟩
theorem walk (k0 i0 p0 n0 a1 : Int) (w : World) (h : Spans w) (bk0 : -9223372036854775808 ≤ k0 ∧ k0 ≤ 9223372036854775807) (bi0 : -9223372036854775808 ≤ i0 ∧ i0 ≤ 9223372036854775807) (bp0 : -9223372036854775808 ≤ p0 ∧ p0 ≤ 9223372036854775807) (bn0 : -9223372036854775808 ≤ n0 ∧ n0 ≤ 9223372036854775807) (b1 : 0 ≤ a1 ∧ a1 ≤ 18446744073709551615) :
    Calls Tryd.prog 6 #[head k0 i0 p0 n0, .int .u64 a1] w fun e w' => e = .returned (.bool true) ∧ Below w.heap.size w w' := by
  by_cases hE : packE k0 i0 p0 n0 = 0
  · by_cases hU : unE a1 = 0
    · exact walk_yy k0 i0 p0 n0 a1 w h bk0 bi0 bp0 bn0 b1 hE hU
    · exact walk_yn k0 i0 p0 n0 a1 w h bk0 bi0 bp0 bn0 b1 hE hU
  · by_cases hU : unE a1 = 0
    · exact walk_ny k0 i0 p0 n0 a1 w h bk0 bi0 bp0 bn0 b1 hE hU
    · exact walk_nn k0 i0 p0 n0 a1 w h bk0 bi0 bp0 bn0 b1 hE hU

/-- What the walk gives, for every argument and every world that holds the table. -/
theorem contract (H : Type) (enc : TypeId × Value → H) (W : World) (base : Nat) (args : Array Value) (ds gs : List (DataW H)) (before : List MemPlace)
    (hval : ∀ (j : Nat) t v, Tryd.f6.params[j]? = some t → args[j]? = some v → Value.okWide Tryd.prog W .any base t v)
    (hW : DataW.Whole enc Tryd.prog Tryd.f6.params.toList Rows.wordBackSpec.vars false W args.toList ds gs before) (hL : laidMetH Tryd.prog Rows.wordBackRow.laid W) :
    Calls Tryd.prog 6 args W fun e W' => ∃ v, e = .returned v ∧ Rows.wordBackSpec.post enc Tryd.prog Tryd.f6 false true false false W args v W' := by
  have hW' := hW
  obtain ⟨p, q, hA0, hV, rfl, hfz, hnd⟩ := hW
  have hA : DataW.TrodAll enc Tryd.prog W 0 (fun _ => true) true Tryd.f6.params.toList args.toList ds p := hA0
  rw [Tryd.params6] at hA hval
  obtain ⟨v0, vs0, d0, ds0, p0, q0, hargs, rfl, rfl, h0, r0⟩ := trodAll_cons hA
  obtain ⟨v1, vs1, d1, ds1, p1, q1, rfl, rfl, rfl, h1, r1⟩ := trodAll_cons r0
  obtain ⟨rfl, rfl, rfl⟩ := trodAll_nil r1
  obtain rfl : args = #[v0, v1] := by cases args; simp_all
  obtain ⟨rfl, rfl⟩ := trodVars_none hV
  have t0 := h0
  have lt0 : ∀ x ∈ p0, x.block < W.heap.size := by obtain ⟨m, hm⟩ := t0; exact DataW.trod_lt m _ _ _ hm
  obtain ⟨c0, c1, c2, c3, y0, y1, y2, y3, m, rfl, hd0, hp0, hy0, hy1, hy2, hy3⟩ := Joins.open_agg4 Tryd.underlying23 (by kernel_rfl) cells23 (hval 0 23 v0 rfl rfl) h0
  obtain ⟨k0, e0, _, wk0⟩ := DataW.trod_int Tryd.underlying3 hy0
  obtain ⟨i0, e1, _, wi0⟩ := DataW.trod_int Tryd.underlying3 hy1
  obtain ⟨p0', e2, _, wp0⟩ := DataW.trod_int Tryd.underlying3 hy2
  obtain ⟨n0, e3, _, wn0⟩ := DataW.trod_int Tryd.underlying3 hy3
  simp only [List.cons.injEq, and_true] at e0 e1 e2 e3
  subst e0 e1 e2 e3
  clear hy0 hy1 hy2 hy3
  have t1 := h1
  have lt1 : ∀ x ∈ p1, x.block < W.heap.size := by obtain ⟨m, hm⟩ := t1; exact DataW.trod_lt m _ _ _ hm
  obtain ⟨a1, rfl, hd1, hp1, w1⟩ := open_int Tryd.underlying24 (hval 1 24 v1 rfl rfl) h1
  clear hA0
  refine (walk k0 i0 p0' n0 a1 W (spans_of hL) (bounds_i64 wk0) (bounds_i64 wi0) (bounds_i64 wp0) (bounds_i64 wn0) (bounds_u64 w1)).mono fun e W' ⟨he, bel⟩ => ?_
  subst he
  exact ⟨_, rfl, _, _, _, [], _, [], hW', trodAll_mk1 (shut_bool Tryd.underlying4 _), (trodAll_cons_mk (Below.trod laidOut (by kernel_rfl) (of_decide_eq_true (by kernel_rfl)) t0 bel lt0) (trodAll_cons_mk (Below.trod laidOut (by kernel_rfl) (of_decide_eq_true (by kernel_rfl)) t1 bel lt1) trodAll_mk0)), rfl, bel.frame _, fun h => by cases h⟩

theorem laid_met (os : Os) : laidMet Tryd.prog Rows.wordBackRow.laid ((laidWorld os).forCall (fun _ _ => 0) ⟨#[], #[head 0 0 0 0, .int .u64 0], []⟩).memory :=
  laidMet_of_run' 8 (by kernel_rfl) (by kernel_rfl)
theorem reads (os : Os) {H : Type} (enc : TypeId × Value → H) : ∃ places, DataW.whole enc Tryd.prog ((laidWorld os).forCall (fun _ _ => 0) ⟨#[], #[head 0 0 0 0, .int .u64 0], []⟩).memory Tryd.f6.params.toList Rows.wordBackSpec.vars false #[head 0 0 0 0, .int .u64 0].toList 8 = some ([.agg [.lit (.int .i64 0), .lit (.int .i64 0), .lit (.int .i64 0), .lit (.int .i64 0)], .lit (.int .u64 0)], [], places) :=
  ⟨[], by kernel_rfl⟩

set_option maxRecDepth 100000 in
theorem lifted (os : Os) (started : os.Started) (H : Type) (enc : TypeId × Value → H) (F : Stop.Interp) :
    ReturnsInHanded {} Tryd.checked os 6 .any ((OpenSpec.ofChange Rows.wordBackSpec).preRow enc Tryd.prog Tryd.f6 Rows.wordBackRow.domain false Rows.wordBackRow.laid) (((OpenSpec.ofChange Rows.wordBackSpec).at F).post enc Tryd.prog Tryd.f6 false true false false) := by
  obtain ⟨places, hx⟩ := reads os enc
  refine returnsInHanded_of_row (C := Tryd.checked) (s := OpenSpec.ofChange Rows.wordBackSpec) own started (by kernel_rfl) Tryd.func6
    (witness_row_at (enc := enc) (C := Tryd.checked) false (laidWorld os) #[head 0 0 0 0, .int .u64 0] rfl (by kernel_rfl) (by kernel_rfl) (by kernel_rfl)
      (OpenSpec.preRow_of_cond 8 hx (by kernel_rfl) (fun k hk => by cases hk) (by kernel_rfl) (laid_met os))) ?_
  intro W base args ds gs before hval hW _ _ _ hL _ _
  exact contract H enc W base args ds gs before hval hW hL

theorem said : Rows.WordBackSaid :=
  OpenClaim.holds_of_cond 6 Tryd.f6 rfl rfl rfl rfl rfl rfl rfl ⟨rfl, rfl, rfl, rfl, rfl⟩ rfl rfl rfl rfl rfl (by kernel_rfl) Tryd.func6 (by kernel_rfl)
    (of_decide_eq_true (by kernel_rfl)) (by unfold Func.isWrapper; first | (rw [if_pos (by decide +kernel)]; kernel_rfl) | (rw [if_neg (by decide +kernel)]; exact ⟨rfl, rfl⟩))
    (fun os started H enc _ F => by rw [OpenClaim.pre_eq_preRow]; exact lifted os started H enc F)

/-- No parameter wants a stand-in; the program's own looks are off: what the card asks. -/
theorem plain (f : FuncId) (fn : Func) (hf : Tryd.pinned.checked.prog.funcNamed "midden/middenlaw01.WordBack" = some f) (hfn : Tryd.pinned.checked.prog.funcs[f]? = some fn) :
    false = Tryd.pinned.checked.prog.looks [] ∧ ∀ (j : Nat) t, fn.params[j]? = some t → Tryd.pinned.checked.prog.wantsStandIn t = false := by
  obtain rfl : f = 6 := Option.some.inj ((show Tryd.prog.funcNamed "midden/middenlaw01.WordBack" = some 6 by kernel_rfl).symm.trans hf) |>.symm
  obtain rfl : fn = Tryd.f6 := (Option.some.inj (Tryd.func6.symm.trans hfn)).symm
  refine ⟨by kernel_rfl, fun j t ht => ?_⟩
  rw [Tryd.params6] at ht
  have hm : t ∈ [23, 24] := by simpa using Array.mem_of_getElem? ht
  have hall : ([23, 24].all fun u => !Tryd.prog.wantsStandIn u) = true := by kernel_rfl
  exact (show Tryd.prog.wantsStandIn t = false by simpa using List.all_eq_true.1 hall t hm)

theorem card : Rows.WordBackCardSaid :=
  Claim7.holds_tied_plain_at .later [] _ _ _ _ said (fun _ h => by cases h) (by kernel_rfl) (fun _ h => by cases h) wordBack_row_tie rfl ⟨rfl, rfl⟩ (by kernel_rfl) rfl plain (by kernel_rfl)
end Go.Proofs.YtecomopllkjfbaaDoor.wordBack

namespace Go.Proofs.YtecomopllkjfbaaDoor
theorem wordBack_card : Rows.WordBackCardSaid := wordBack.card
#print axioms wordBack_card
end Go.Proofs.YtecomopllkjfbaaDoor
