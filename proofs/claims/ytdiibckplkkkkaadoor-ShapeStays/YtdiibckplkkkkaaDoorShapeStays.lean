/-
  The statement ShapeStays, as its card says it: for every header and every two kinds, what Over answers is right and of the size that was, and so again; with an error it is the zero header.
  Conditions: none on the input; the package-level table of the kinds starts as the program's text lays it (the card ties it to that text, of the pruned copy of the project that this seat holds).
-/
import Derived.Test.YtdiibckplkkkkaaDoorLaid
import Derived.Deep.RegionHeld3
namespace Go.Proofs.YtdiibckplkkkkaaDoor.shapeStays
open Go.ChangeShapes Go.WideShapes Go.ChangeAt Go.RowKit
set_option linter.unusedVariables false

theorem table_drew {w : World} (h : Table w) : Table w.drew := h.later ⟨rfl, rfl, rfl, Nat.le_refl _, fun _ _ => rfl⟩
theorem headAt_drew {w : World} {b : Nat} {k i p n : Int} (h : HeadAt w b k i p n) : HeadAt w.drew b k i p n := h.later ⟨rfl, rfl, rfl, Nat.le_refl _, fun _ _ => rfl⟩
/-- What Over answers with an error. -/
theorem over_no {k i p n t : Int} (hE : overE k i p n t ≠ 0) (w : World) (h : Table w) : Calls Tryd.prog 17 #[head k i p n, .int .i64 t] w fun e w' => e = .returned (.tuple #[head 0 0 0 0, .int .i64 (overE k i p n t)]) ∧ Below w.heap.size w w' := by
  have := over_any k i p n t w h
  unfold OverSays at this
  rw [show overK k i p n t = 0 by simp [overK, hE], show overP k i p n t = 0 by simp [overP, hE], show overN k i p n t = 0 by simp [overN, hE]] at this
  exact this
/-- What Over answers without one. -/
theorem over_yes {k i p n t : Int} (hE : overE k i p n t = 0) (w : World) (h : Table w) : Calls Tryd.prog 17 #[head k i p n, .int .i64 t] w fun e w' => e = .returned (.tuple #[head t 0 (overP k i p n t) (overN k i p n t), .int .i64 0]) ∧ Below w.heap.size w w' := by
  have := over_any k i p n t w h
  unfold OverSays at this
  rw [(over_stays hE).2.2, hE] at this
  exact this
theorem over_last {t p n u : Int} (h : t = 8 ∨ t = 12) : overE t 0 p n u ≠ 0 := by
  unfold overE
  rcases Bool.eq_false_or_eq_true (passB u) with a | a
  · by_cases b : rightE t 0 p n = 0
    · rcases h with rfl | rfl <;> simp [a, b, thunkB]
    · simp [a, b]
  · simp [a]

set_option maxHeartbeats 1000000 in
theorem walk_no (k0 i0 p0 n0 a1 a2 : Int) (w : World) (h : Table w) (hE : overE k0 i0 p0 n0 a1 ≠ 0) : Calls Tryd.prog 6 #[head k0 i0 p0 n0, .int .i64 a1, .int .i64 a2] w fun e w' => e = .returned (.bool true) ∧ Below w.heap.size w w' := by
  have hs0 : Table (w.alloc (Obj.cells #[Value.int IntKind.i64 k0, Value.int IntKind.i64 i0, Value.int IntKind.i64 p0, Value.int IntKind.i64 n0] 23)) := h.later (by go_grown)
  have A0 : HeadAt (w.alloc (Obj.cells #[Value.int IntKind.i64 k0, Value.int IntKind.i64 i0, Value.int IntKind.i64 p0, Value.int IntKind.i64 n0] 23)) w.heap.size k0 i0 p0 n0 := HeadAt.fresh w k0 i0 p0 n0
  have B0 : Below w.heap.size w (w.alloc (Obj.cells #[Value.int IntKind.i64 k0, Value.int IntKind.i64 i0, Value.int IntKind.i64 p0, Value.int IntKind.i64 n0] 23)) := by go_grown
  have O := fun w h => over_no hE w h
  have e1 : (overE k0 i0 p0 n0 a1 != 0) = true := by simp [hE]
  obtain ⟨E, he⟩ : ∃ x, overE k0 i0 p0 n0 a1 = x := ⟨_, rfl⟩
  simp only [he] at O e1
  clear hE he
  go_enter Tryd.func6, Tryd.ntmps6
  go_wp2_with (first
    | (go_at_call 17; refine (O _ hs0).mono ?_; rintro e w1 ⟨rfl, B1⟩; have hs1 := (hs0.later B1).later (Below.alloc (Below.refl _ _) (Nat.le_refl _) (Obj.cells #[Value.int IntKind.i64 0, Value.int IntKind.i64 0, Value.int IntKind.i64 0, Value.int IntKind.i64 0] 23)); have X1 := HeadAt.fresh w1 0 0 0 0; have C1 := (B0.trans (B1.mono B0.size)).trans (Below.alloc (Below.refl _ _) (B0.trans (B1.mono B0.size)).size (Obj.cells #[Value.int IntKind.i64 0, Value.int IntKind.i64 0, Value.int IntKind.i64 0, Value.int IntKind.i64 0] 23)))
    | (go_at_call 8; refine (awake_any _ hs1).mono ?_; rintro e w2 ⟨rfl, B2⟩; have C2 := C1.trans (B2.mono C1.size); have hs2 := hs1.later B2; have X2 := X1.later B2)
    | (go_at_call 8; refine (awake_any _ hs2).mono ?_; rintro e w3 ⟨rfl, B3⟩; have C3 := C2.trans (B3.mono C2.size); obtain ⟨x0, x1, x2, x3⟩ := X2.later B3))
  go_ret
  exact ⟨rfl, C3⟩

/-- What Over answers of what it answered. -/
def ThenBad (k p n t : Int) : Prop := ∃ E, (E != 0) = true ∧ ∀ w, Table w → Calls Tryd.prog 17 #[head k 0 p n, .int .i64 t] w fun e w' => e = .returned (.tuple #[head 0 0 0 0, .int .i64 E]) ∧ Below w.heap.size w w'
def ThenGood (k p n t s : Int) : Prop := ∃ p2 n2, (∀ w, Table w → Calls Tryd.prog 17 #[head k 0 p n, .int .i64 t] w fun e w' => e = .returned (.tuple #[head t 0 p2 n2, .int .i64 0]) ∧ Below w.heap.size w w') ∧ ∀ w, Table w → Calls Tryd.prog 11 #[head t 0 p2 n2] w fun e w' => e = .returned (.int .i64 s) ∧ Below w.heap.size w w'
theorem then_cases {k i p n t u : Int} (hE : overE k i p n t = 0) :
    ((t != 9) = true ∧ ThenBad t (overP k i p n t) (overN k i p n t) u) ∨ ((t != 9) = false ∧ ThenBad t (overP k i p n t) (overN k i p n t) u) ∨ ((t != 9) = false ∧ ThenGood t (overP k i p n t) (overN k i p n t) u (sizeN k i p n)) := by
  obtain ⟨st1, st2, st3⟩ := over_stays hE
  rw [st3] at st1 st2
  by_cases g : overE t 0 (overP k i p n t) (overN k i p n t) u = 0
  · by_cases t9 : t = 9
    · right; right
      refine ⟨by simp [t9], overP t 0 (overP k i p n t) (overN k i p n t) u, overN t 0 (overP k i p n t) (overN k i p n t) u, fun w h => over_yes g w h, fun w h => ?_⟩
      obtain ⟨_, z2, z3⟩ := over_stays g
      rw [z3, st2] at z2
      rw [← z2]
      exact size_any _ _ _ _ w h
    · exfalso
      have a : passB t = true := by
        rcases Bool.eq_false_or_eq_true (passB t) with a | a
        · exact a
        · simp [overE, a] at hE
      have := passB_yes.1 a
      exact over_last (by omega) g
  · have B : ThenBad t (overP k i p n t) (overN k i p n t) u := ⟨_, by simp [g], fun w h => over_no g w h⟩
    by_cases t9 : t = 9
    · exact .inr (.inl ⟨by simp [t9], B⟩)
    · exact .inl ⟨by simp [t9], B⟩

set_option maxHeartbeats 2000000 in
theorem walk_yes (k0 i0 p0 n0 a1 a2 : Int) (w : World) (h : Table w) (hE : overE k0 i0 p0 n0 a1 = 0) : Calls Tryd.prog 6 #[head k0 i0 p0 n0, .int .i64 a1, .int .i64 a2] w fun e w' => e = .returned (.bool true) ∧ Below w.heap.size w w' := by
  have hs0 : Table (w.alloc (Obj.cells #[Value.int IntKind.i64 k0, Value.int IntKind.i64 i0, Value.int IntKind.i64 p0, Value.int IntKind.i64 n0] 23)) := h.later (by go_grown)
  have A0 : HeadAt (w.alloc (Obj.cells #[Value.int IntKind.i64 k0, Value.int IntKind.i64 i0, Value.int IntKind.i64 p0, Value.int IntKind.i64 n0] 23)) w.heap.size k0 i0 p0 n0 := HeadAt.fresh w k0 i0 p0 n0
  have B0 : Below w.heap.size w (w.alloc (Obj.cells #[Value.int IntKind.i64 k0, Value.int IntKind.i64 i0, Value.int IntKind.i64 p0, Value.int IntKind.i64 n0] 23)) := by go_grown
  have O := fun w h => over_yes hE w h
  have CS := then_cases (u := a2) hE
  obtain ⟨st1, st2, _⟩ := over_stays hE
  rw [(over_stays hE).2.2] at st1 st2
  obtain ⟨p1, hp1⟩ : ∃ x, overP k0 i0 p0 n0 a1 = x := ⟨_, rfl⟩
  obtain ⟨n1, hn1⟩ : ∃ x, overN k0 i0 p0 n0 a1 = x := ⟨_, rfl⟩
  simp only [hp1, hn1] at O st1 st2 CS
  clear hE hp1 hn1
  have R1 := fun w h => right_any a1 0 p1 n1 w h
  have S1 := fun w h => size_any a1 0 p1 n1 w h
  have S0 := fun w h => size_any k0 i0 p0 n0 w h
  simp only [st1] at R1
  simp only [st2] at S1
  obtain ⟨s, hs⟩ : ∃ x, sizeN k0 i0 p0 n0 = x := ⟨_, rfl⟩
  simp only [hs] at S0 S1 CS
  clear st1 st2 hs
  go_enter Tryd.func6, Tryd.ntmps6
  go_wp2_with (first
    | (go_at_call 17; refine (O _ hs0).mono ?_; rintro e w1 ⟨rfl, B1⟩; have hs1 := (hs0.later B1).later (Below.alloc (Below.refl _ _) (Nat.le_refl _) (Obj.cells #[Value.int IntKind.i64 a1, Value.int IntKind.i64 0, Value.int IntKind.i64 p1, Value.int IntKind.i64 n1] 23)); have A1 := (A0.later B1).later (Below.alloc (Below.refl _ _) (Nat.le_refl _) (Obj.cells #[Value.int IntKind.i64 a1, Value.int IntKind.i64 0, Value.int IntKind.i64 p1, Value.int IntKind.i64 n1] 23)); have X1 := HeadAt.fresh w1 a1 0 p1 n1; have C1 := (B0.trans (B1.mono B0.size)).trans (Below.alloc (Below.refl _ _) (B0.trans (B1.mono B0.size)).size (Obj.cells #[Value.int IntKind.i64 a1, Value.int IntKind.i64 0, Value.int IntKind.i64 p1, Value.int IntKind.i64 n1] 23)))
    | (go_at_call 8; refine (awake_any _ hs1).mono ?_; rintro e w2 ⟨rfl, B2⟩; have C2 := C1.trans (B2.mono C1.size); have hs2 := hs1.later B2; have X2 := X1.later B2; have A2 := A1.later B2; clear X1 A1 B2 hs1 C1)
    | fail)
  have A2' := A2
  have X2' := X2
  obtain ⟨u0, u1, u2, u3⟩ := X2'
  obtain ⟨v0, v1, v2, v3⟩ := A2'
  go_region_held3 (fun w' => w'.cell? ⟨w1.heap.size, 0, none⟩ = some (.int .i64 a1) ∧ w'.cell? ⟨w1.heap.size, 1, none⟩ = some (.int .i64 0) ∧ w'.cell? ⟨w1.heap.size, 2, none⟩ = some (.int .i64 p1) ∧ w'.cell? ⟨w1.heap.size, 3, none⟩ = some (.int .i64 n1) ∧ w'.cell? ⟨w.heap.size, 0, none⟩ = some (.int .i64 k0) ∧ w'.cell? ⟨w.heap.size, 1, none⟩ = some (.int .i64 i0) ∧ w'.cell? ⟨w.heap.size, 2, none⟩ = some (.int .i64 p0) ∧ w'.cell? ⟨w.heap.size, 3, none⟩ = some (.int .i64 n0)) (go_keep) (first
    | (go_at_call 9; refine (R1 _ (table_drew hs2)).mono ?_; rintro e w3 ⟨rfl, B3⟩; have hs3 := (table_drew hs2).later B3; have C3 := C2.drew.trans (B3.mono C2.drew.size); have X3 := (headAt_drew X2).later B3; have A3 := (headAt_drew A2).later B3; have X3' := X3; have A3' := A3; obtain ⟨q0, q1, q2, q3⟩ := X3'; obtain ⟨r0, r1, r2, r3⟩ := A3')
    | (go_at_call_of 11 (Value.agg #[Value.int IntKind.i64 a1, Value.int IntKind.i64 0, Value.int IntKind.i64 p1, Value.int IntKind.i64 n1]); refine (S1 _ hs3).mono ?_; rintro e w4 ⟨rfl, B4⟩; have hs4 := hs3.later B4; have C4 := C3.trans (B4.mono C3.size); have X4 := X3.later B4; have A4 := A3.later B4; have X4' := X4; have A4' := A4; obtain ⟨g0, g1, g2, g3⟩ := X4'; obtain ⟨j0, j1, j2, j3⟩ := A4')
    | (go_at_call_of 11 (Value.agg #[Value.int IntKind.i64 k0, Value.int IntKind.i64 i0, Value.int IntKind.i64 p0, Value.int IntKind.i64 n0]); refine (S0 _ hs4).mono ?_; rintro e w5 ⟨rfl, B5⟩; have hs5 := hs4.later B5; have C5 := C4.trans (B5.mono C4.size); have X5 := X4.later B5; have A5 := A4.later B5; have X5' := X5; have A5' := A5; obtain ⟨l0, l1, l2, l3⟩ := X5'; obtain ⟨m0, m1, m2, m3⟩ := A5'))
  clear X2 A2 hs2 C2 B3 X3 A3 hs3 C3 B4 X4 A4 hs4 C4 B5 u0 u1 u2 u3 v0 v1 v2 v3 q0 q1 q2 q3 r0 r1 r2 r3 g0 g1 g2 g3 j0 j1 j2 j3 hs0 A0 B0 B1 O R1 S1
  rcases CS with ⟨c9, E, hE, O2⟩ | ⟨c9, E, hE, O2⟩ | ⟨c9, p2, n2, O2, S2⟩
  · go_wp2_with (first
      | (go_at_call 17; refine (O2 _ hs5).mono ?_; rintro e w6 ⟨rfl, B6⟩; have hs6 := (hs5.later B6).later (Below.alloc (Below.refl _ _) (Nat.le_refl _) (Obj.cells #[Value.int IntKind.i64 0, Value.int IntKind.i64 0, Value.int IntKind.i64 0, Value.int IntKind.i64 0] 23)); have Y6 := HeadAt.fresh w6 0 0 0 0; have A6 := (A5.later B6).later (Below.alloc (Below.refl _ _) (Nat.le_refl _) (Obj.cells #[Value.int IntKind.i64 0, Value.int IntKind.i64 0, Value.int IntKind.i64 0, Value.int IntKind.i64 0] 23)); have C6 := (C5.trans (B6.mono C5.size)).trans (Below.alloc (Below.refl _ _) (C5.trans (B6.mono C5.size)).size (Obj.cells #[Value.int IntKind.i64 0, Value.int IntKind.i64 0, Value.int IntKind.i64 0, Value.int IntKind.i64 0] 23))))
    go_ret
    exact ⟨rfl, C6⟩
  · go_wp2_with (first
      | (go_at_call 17; refine (O2 _ hs5).mono ?_; rintro e w6 ⟨rfl, B6⟩; have hs6 := (hs5.later B6).later (Below.alloc (Below.refl _ _) (Nat.le_refl _) (Obj.cells #[Value.int IntKind.i64 0, Value.int IntKind.i64 0, Value.int IntKind.i64 0, Value.int IntKind.i64 0] 23)); have Y6 := HeadAt.fresh w6 0 0 0 0; have A6 := (A5.later B6).later (Below.alloc (Below.refl _ _) (Nat.le_refl _) (Obj.cells #[Value.int IntKind.i64 0, Value.int IntKind.i64 0, Value.int IntKind.i64 0, Value.int IntKind.i64 0] 23)); have C6 := (C5.trans (B6.mono C5.size)).trans (Below.alloc (Below.refl _ _) (C5.trans (B6.mono C5.size)).size (Obj.cells #[Value.int IntKind.i64 0, Value.int IntKind.i64 0, Value.int IntKind.i64 0, Value.int IntKind.i64 0] 23))))
    go_quiet (fail)
    go_wp2
    go_ret
    exact ⟨rfl, C6.trans ⟨rfl, rfl, rfl, Nat.le_refl _, fun _ _ => rfl⟩⟩
  · go_wp2_with (first
      | (go_at_call 17; refine (O2 _ hs5).mono ?_; rintro e w6 ⟨rfl, B6⟩; have hs6 := (hs5.later B6).later (Below.alloc (Below.refl _ _) (Nat.le_refl _) (Obj.cells #[Value.int IntKind.i64 a2, Value.int IntKind.i64 0, Value.int IntKind.i64 p2, Value.int IntKind.i64 n2] 23)); have Y6 := HeadAt.fresh w6 a2 0 p2 n2; have A6 := (A5.later B6).later (Below.alloc (Below.refl _ _) (Nat.le_refl _) (Obj.cells #[Value.int IntKind.i64 a2, Value.int IntKind.i64 0, Value.int IntKind.i64 p2, Value.int IntKind.i64 n2] 23)); have C6 := (C5.trans (B6.mono C5.size)).trans (Below.alloc (Below.refl _ _) (C5.trans (B6.mono C5.size)).size (Obj.cells #[Value.int IntKind.i64 a2, Value.int IntKind.i64 0, Value.int IntKind.i64 p2, Value.int IntKind.i64 n2] 23))))
    generalize (w6.alloc (Obj.cells #[Value.int IntKind.i64 a2, Value.int IntKind.i64 0, Value.int IntKind.i64 p2, Value.int IntKind.i64 n2] 23)) = W6 at hs6 Y6 A6 C6 ⊢
    have A6' := A6
    have Y6' := Y6
    obtain ⟨u0, u1, u2, u3⟩ := Y6'
    obtain ⟨v0, v1, v2, v3⟩ := A6'
    go_region_held3 (fun w' => w'.cell? ⟨w6.heap.size, 0, none⟩ = some (.int .i64 a2) ∧ w'.cell? ⟨w6.heap.size, 1, none⟩ = some (.int .i64 0) ∧ w'.cell? ⟨w6.heap.size, 2, none⟩ = some (.int .i64 p2) ∧ w'.cell? ⟨w6.heap.size, 3, none⟩ = some (.int .i64 n2) ∧ w'.cell? ⟨w.heap.size, 0, none⟩ = some (.int .i64 k0) ∧ w'.cell? ⟨w.heap.size, 1, none⟩ = some (.int .i64 i0) ∧ w'.cell? ⟨w.heap.size, 2, none⟩ = some (.int .i64 p0) ∧ w'.cell? ⟨w.heap.size, 3, none⟩ = some (.int .i64 n0)) (go_keep) (first
      | (go_at_call_of 11 (Value.agg #[Value.int IntKind.i64 a2, Value.int IntKind.i64 0, Value.int IntKind.i64 p2, Value.int IntKind.i64 n2]); refine (S2 _ (table_drew hs6)).mono ?_; rintro e w7 ⟨rfl, B7⟩; have hs7 := (table_drew hs6).later B7; have C7 := C6.drew.trans (B7.mono C6.drew.size); have Y7 := (headAt_drew Y6).later B7; have A7 := (headAt_drew A6).later B7; have Y7' := Y7; have A7' := A7; obtain ⟨g0, g1, g2, g3⟩ := Y7'; obtain ⟨j0, j1, j2, j3⟩ := A7')
      | (go_at_call_of 11 (Value.agg #[Value.int IntKind.i64 k0, Value.int IntKind.i64 i0, Value.int IntKind.i64 p0, Value.int IntKind.i64 n0]); refine (S0 _ hs7).mono ?_; rintro e w8 ⟨rfl, B8⟩; have C8 := C7.trans (B8.mono C7.size); have Y8 := Y7.later B8; have A8 := A7.later B8; obtain ⟨l0, l1, l2, l3⟩ := Y8; obtain ⟨m0, m1, m2, m3⟩ := A8))
    all_goals go_wp2
    all_goals go_ret
    all_goals exact ⟨rfl, C8⟩
theorem walk (k0 i0 p0 n0 a1 a2 : Int) (w : World) (h : Table w) (bk : -9223372036854775808 ≤ k0 ∧ k0 ≤ 9223372036854775807) (bi : -9223372036854775808 ≤ i0 ∧ i0 ≤ 9223372036854775807) (bp : -9223372036854775808 ≤ p0 ∧ p0 ≤ 9223372036854775807) (bn : -9223372036854775808 ≤ n0 ∧ n0 ≤ 9223372036854775807) (b1 : -9223372036854775808 ≤ a1 ∧ a1 ≤ 9223372036854775807) (b2 : -9223372036854775808 ≤ a2 ∧ a2 ≤ 9223372036854775807) : Calls Tryd.prog 6 #[head k0 i0 p0 n0, .int .i64 a1, .int .i64 a2] w fun e w' => e = .returned (.bool true) ∧ Below w.heap.size w w' := by
  by_cases hE : overE k0 i0 p0 n0 a1 = 0
  · exact walk_yes k0 i0 p0 n0 a1 a2 w h hE
  · exact walk_no k0 i0 p0 n0 a1 a2 w h hE


/-- What the walk gives, for every argument and every world that holds the table. -/
theorem contract (H : Type) (enc : TypeId × Value → H) (W : World) (base : Nat) (args : Array Value) (ds gs : List (DataW H)) (before : List MemPlace)
    (hval : ∀ (j : Nat) t v, Tryd.f6.params[j]? = some t → args[j]? = some v → Value.okWide Tryd.prog W .any base t v)
    (hW : DataW.Whole enc Tryd.prog Tryd.f6.params.toList Rows.shapeStaysSpec.vars false W args.toList ds gs before) (hL : laidMetH Tryd.prog Rows.shapeStaysRow.laid W) :
    Calls Tryd.prog 6 args W fun e W' => ∃ v, e = .returned v ∧ Rows.shapeStaysSpec.post enc Tryd.prog Tryd.f6 false true false false W args v W' := by
  have hW' := hW
  obtain ⟨p, q, hA0, hV, rfl, hfz, hnd⟩ := hW
  have hA : DataW.TrodAll enc Tryd.prog W 0 (fun _ => true) true Tryd.f6.params.toList args.toList ds p := hA0
  rw [Tryd.params6] at hA hval
  obtain ⟨v0, vs0, d0, ds0, p0, q0, hargs, rfl, rfl, h0, r0⟩ := trodAll_cons hA
  obtain ⟨v1, vs1, d1, ds1, p1, q1, rfl, rfl, rfl, h1, r1⟩ := trodAll_cons r0
  obtain ⟨v2, vs2, d2, ds2, p2, q2, rfl, rfl, rfl, h2, r2⟩ := trodAll_cons r1
  obtain ⟨rfl, rfl, rfl⟩ := trodAll_nil r2
  obtain rfl : args = #[v0, v1, v2] := by cases args; simp_all
  obtain ⟨rfl, rfl⟩ := trodVars_none hV
  have t0 := h0
  have lt0 : ∀ x ∈ p0, x.block < W.heap.size := by obtain ⟨m, hm⟩ := t0; exact DataW.trod_lt m _ _ _ hm
  obtain ⟨c0, c1, c2, c3, y0, y1, y2, y3, m, rfl, hd0, hp0, hy0, hy1, hy2, hy3⟩ := Joins.open_agg4 Tryd.underlying23 (by kernel_rfl) cells23 (hval 0 23 v0 rfl rfl) h0
  obtain ⟨k0, e0, _, wk0⟩ := DataW.trod_int Tryd.underlying3 hy0
  obtain ⟨i0, e1, _, wi0⟩ := DataW.trod_int Tryd.underlying3 hy1
  obtain ⟨p0', e2, _, wp0⟩ := DataW.trod_int Tryd.underlying3 hy2
  obtain ⟨n0, e3, _, wn0⟩ := DataW.trod_int Tryd.underlying3 hy3
  simp only [List.cons.injEq, and_true] at e0 e1 e2 e3
  subst e0 e1 e2 e3
  clear hy0 hy1 hy2 hy3
  have t1 := h1
  have lt1 : ∀ x ∈ p1, x.block < W.heap.size := by obtain ⟨m, hm⟩ := t1; exact DataW.trod_lt m _ _ _ hm
  obtain ⟨a1, rfl, hd1, hp1, w1⟩ := open_int Tryd.underlying3 (hval 1 3 v1 rfl rfl) h1
  have t2 := h2
  have lt2 : ∀ x ∈ p2, x.block < W.heap.size := by obtain ⟨m, hm⟩ := t2; exact DataW.trod_lt m _ _ _ hm
  obtain ⟨a2, rfl, hd2, hp2, w2⟩ := open_int Tryd.underlying3 (hval 2 3 v2 rfl rfl) h2
  clear hA0
  refine (walk k0 i0 p0' n0 a1 a2 W (table_of hL) (bounds_i64 wk0) (bounds_i64 wi0) (bounds_i64 wp0) (bounds_i64 wn0) (bounds_i64 w1) (bounds_i64 w2)).mono fun e W' ⟨he, bel⟩ => ?_
  subst he
  exact ⟨_, rfl, _, _, _, [], _, [], hW', trodAll_mk1 (shut_bool Tryd.underlying4 _), (trodAll_cons_mk (Below.trod laidOut (by kernel_rfl) (of_decide_eq_true (by kernel_rfl)) t0 bel lt0) (trodAll_cons_mk (Below.trod laidOut (by kernel_rfl) (of_decide_eq_true (by kernel_rfl)) t1 bel lt1) (trodAll_cons_mk (Below.trod laidOut (by kernel_rfl) (of_decide_eq_true (by kernel_rfl)) t2 bel lt2) trodAll_mk0))), rfl, bel.frame _, fun h => by cases h⟩

theorem laid_met (os : Os) : laidMet Tryd.prog Rows.shapeStaysRow.laid ((laidWorld os).forCall (fun _ _ => 0) ⟨#[], #[head 0 0 0 0, .int .i64 0, .int .i64 0], []⟩).memory :=
  laidMet_of_run' 8 (by kernel_rfl) (by kernel_rfl)
theorem reads (os : Os) {H : Type} (enc : TypeId × Value → H) : ∃ places, DataW.whole enc Tryd.prog ((laidWorld os).forCall (fun _ _ => 0) ⟨#[], #[head 0 0 0 0, .int .i64 0, .int .i64 0], []⟩).memory Tryd.f6.params.toList Rows.shapeStaysSpec.vars false #[head 0 0 0 0, .int .i64 0, .int .i64 0].toList 8 = some ([.agg [.lit (.int .i64 0), .lit (.int .i64 0), .lit (.int .i64 0), .lit (.int .i64 0)], .lit (.int .i64 0), .lit (.int .i64 0)], [], places) :=
  ⟨[], by kernel_rfl⟩

set_option maxRecDepth 100000 in
theorem lifted (os : Os) (started : os.Started) (H : Type) (enc : TypeId × Value → H) (F : Stop.Interp) :
    ReturnsInHanded {} Tryd.checked os 6 .any ((OpenSpec.ofChange Rows.shapeStaysSpec).preRow enc Tryd.prog Tryd.f6 Rows.shapeStaysRow.domain false Rows.shapeStaysRow.laid) (((OpenSpec.ofChange Rows.shapeStaysSpec).at F).post enc Tryd.prog Tryd.f6 false true false false) := by
  obtain ⟨places, hx⟩ := reads os enc
  refine returnsInHanded_of_row (C := Tryd.checked) (s := OpenSpec.ofChange Rows.shapeStaysSpec) own started (by kernel_rfl) Tryd.func6
    (witness_row_at (enc := enc) (C := Tryd.checked) false (laidWorld os) #[head 0 0 0 0, .int .i64 0, .int .i64 0] rfl (by kernel_rfl) (by kernel_rfl) (by kernel_rfl)
      (OpenSpec.preRow_of_cond 8 hx (by kernel_rfl) (fun k hk => by cases hk) (by kernel_rfl) (laid_met os))) ?_
  intro W base args ds gs before hval hW _ _ _ hL _ _
  exact contract H enc W base args ds gs before hval hW hL

theorem said : Rows.ShapeStaysSaid :=
  OpenClaim.holds_of_cond 6 Tryd.f6 rfl rfl rfl rfl rfl rfl rfl ⟨rfl, rfl, rfl, rfl, rfl⟩ rfl rfl rfl rfl rfl (by kernel_rfl) Tryd.func6 (by kernel_rfl)
    (of_decide_eq_true (by kernel_rfl)) (by unfold Func.isWrapper; first | (rw [if_pos (by decide +kernel)]; kernel_rfl) | (rw [if_neg (by decide +kernel)]; exact ⟨rfl, rfl⟩))
    (fun os started H enc _ F => by rw [OpenClaim.pre_eq_preRow]; exact lifted os started H enc F)

/-- No parameter wants a stand-in; the program's own looks are off: what the card asks. -/
theorem plain (f : FuncId) (fn : Func) (hf : Tryd.pinned.checked.prog.funcNamed "midden/middenlaw04.ShapeStays" = some f) (hfn : Tryd.pinned.checked.prog.funcs[f]? = some fn) :
    false = Tryd.pinned.checked.prog.looks [] ∧ ∀ (j : Nat) t, fn.params[j]? = some t → Tryd.pinned.checked.prog.wantsStandIn t = false := by
  obtain rfl : f = 6 := Option.some.inj ((show Tryd.prog.funcNamed "midden/middenlaw04.ShapeStays" = some 6 by kernel_rfl).symm.trans hf) |>.symm
  obtain rfl : fn = Tryd.f6 := (Option.some.inj (Tryd.func6.symm.trans hfn)).symm
  refine ⟨by kernel_rfl, fun j t ht => ?_⟩
  rw [Tryd.params6] at ht
  have hm : t ∈ [23, 3, 3] := by simpa using Array.mem_of_getElem? ht
  have hall : ([23, 3, 3].all fun u => !Tryd.prog.wantsStandIn u) = true := by kernel_rfl
  exact (show Tryd.prog.wantsStandIn t = false by simpa using List.all_eq_true.1 hall t hm)

theorem card : Rows.ShapeStaysCardSaid :=
  Claim7.holds_tied_plain_at .later [] _ _ _ _ said (fun _ h => by cases h) (by kernel_rfl) (fun _ h => by cases h) shapeStays_row_tie rfl ⟨rfl, rfl⟩ (by kernel_rfl) rfl plain (by kernel_rfl)
end Go.Proofs.YtdiibckplkkkkaaDoor.shapeStays

namespace Go.Proofs.YtdiibckplkkkkaaDoor
theorem shapeStays_card : Rows.ShapeStaysCardSaid := shapeStays.card
#print axioms shapeStays_card
end Go.Proofs.YtdiibckplkkkkaaDoor
