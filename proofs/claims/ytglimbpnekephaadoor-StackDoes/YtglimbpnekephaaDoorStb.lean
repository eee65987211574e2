/- stack.Right, for whatever frame. -/
import Derived.Test.YtglimbpnekephaaDoorSta
namespace Go.Proofs.YtglimbpnekephaaDoor
open Go.RowKit
set_option linter.unusedVariables false
set_option linter.unusedSimpArgs false

structure FrAt (w : World) (b : Nat) (k i p : Int) (v : Value) : Prop where
  c0 : w.cell? ⟨b, 0, none⟩ = some (.int .i64 k)
  c1 : w.cell? ⟨b, 1, none⟩ = some (.int .i64 i)
  c2 : w.cell? ⟨b, 2, none⟩ = some (.int .i64 p)
  c3 : w.cell? ⟨b, 3, none⟩ = some v
theorem FrAt.fresh (w : World) (k i p : Int) (v : Value) : FrAt (w.alloc (Obj.cells #[.int .i64 k, .int .i64 i, .int .i64 p, v] 36)) w.heap.size k i p v :=
  ⟨by simp [go_sem], by simp [go_sem], by simp [go_sem], by simp [go_sem]⟩
theorem FrAt.later {w w' : World} {b : Nat} {k i p : Int} {v : Value} (h : FrAt w b k i p v) (hb : Below w.heap.size w w') : FrAt w' b k i p v := by
  have z : b < w.heap.size := World.block_lt_of_cell? _ _ h.c0
  have e : ∀ o, w'.cell? ⟨b, o, none⟩ = w.cell? ⟨b, o, none⟩ := fun o => hb.cell (p := ⟨b, o, none⟩) z
  exact ⟨(e _).trans h.c0, (e _).trans h.c1, (e _).trans h.c2, (e _).trans h.c3⟩
structure RowAt (w : World) (b : Nat) (ta tb tc td te tf : Int) : Prop where
  c0 : w.cell? ⟨b, 0, none⟩ = some (.int .i64 ta)
  c1 : w.cell? ⟨b, 1, none⟩ = some (.int .i64 tb)
  c2 : w.cell? ⟨b, 2, none⟩ = some (.int .i64 tc)
  c3 : w.cell? ⟨b, 3, none⟩ = some (.int .i64 td)
  c4 : w.cell? ⟨b, 4, none⟩ = some (.int .i64 te)
  c5 : w.cell? ⟨b, 5, none⟩ = some (.int .i64 tf)
theorem RowAt.fresh (w : World) (ta tb tc td te tf : Int) : RowAt (w.alloc (Obj.cells #[.int .i64 ta, .int .i64 tb, .int .i64 tc, .int .i64 td, .int .i64 te, .int .i64 tf] 69)) w.heap.size ta tb tc td te tf :=
  ⟨by simp [go_sem], by simp [go_sem], by simp [go_sem], by simp [go_sem], by simp [go_sem], by simp [go_sem]⟩
theorem RowAt.later {w w' : World} {b : Nat} {ta tb tc td te tf : Int} (h : RowAt w b ta tb tc td te tf) (hb : Below w.heap.size w w') : RowAt w' b ta tb tc td te tf := by
  have z : b < w.heap.size := World.block_lt_of_cell? _ _ h.c0
  have e : ∀ o, w'.cell? ⟨b, o, none⟩ = w.cell? ⟨b, o, none⟩ := fun o => hb.cell (p := ⟨b, o, none⟩) z
  exact ⟨(e _).trans h.c0, (e _).trans h.c1, (e _).trans h.c2, (e _).trans h.c3, (e _).trans h.c4, (e _).trans h.c5⟩
theorem far2 {w w1 : World} {o o' : Obj} (B : Below ((w.alloc o).alloc o').heap.size ((w.alloc o).alloc o') w1) : Below w.heap.size w w1 :=
  (show Below w.heap.size w ((w.alloc o).alloc o') by go_grown).trans (B.mono (by simp; omega))

set_option maxHeartbeats 1000000 in
theorem right_no1 (k : Nat) (f : Fr) (o : Option Addr) (cap : Nat) (w : World) (T : Table w) (P : PS w o cap f.ps) (hk : f.k = k) (hk1 : 1 ≤ k ∧ k ≤ 5) (a1 : hasB (tE k) (tF k) f.ps.length = false) :
    Calls Tryd.prog 13 #[fv f o cap] w fun e w' => e = .returned (.int .i64 7) ∧ Below w.heap.size w w' := by
  unfold fv
  obtain ⟨fk, fa, fb, ps⟩ := f
  dsimp only at *
  subst hk
  obtain ⟨n, hn⟩ : ∃ n, ps.length = n := ⟨_, rfl⟩
  have HP := Hid.mk P
  have hc1 : n ≤ cap := hn ▸ P.cap
  have hc2 : n ≤ 9223372036854775807 := hn ▸ P.len
  have KA := kind_any (k : Int) (w.alloc (Obj.cells #[.int .i64 k, .int .i64 fa, .int .i64 fb, .slice o n cap] 36))
  rw [show hasB 1 5 (k : Int) = true from hasB_yes.2 (by omega)] at KA
  have HN := Hid.mk hn
  rw [hn] at a1 ⊢
  clear hn P
  obtain ⟨ta, hta⟩ : ∃ x, tA k = x := ⟨_, rfl⟩
  obtain ⟨tb, htb⟩ : ∃ x, tB k = x := ⟨_, rfl⟩
  obtain ⟨tc, htc⟩ : ∃ x, tC k = x := ⟨_, rfl⟩
  obtain ⟨td, htd⟩ : ∃ x, tD k = x := ⟨_, rfl⟩
  obtain ⟨te, hte⟩ : ∃ x, tE k = x := ⟨_, rfl⟩
  obtain ⟨tf, htf⟩ : ∃ x, tF k = x := ⟨_, rfl⟩
  have hs : Table (w.alloc (Obj.cells #[.int .i64 k, .int .i64 fa, .int .i64 fb, .slice o n cap] 36)) := T.later (by go_grown)
  have hk6 : k < 6 := by omega
  have z0 := hs.a k hk6
  have z1 := hs.b k hk6
  have z2 := hs.c k hk6
  have z3 := hs.d k hk6
  have z4 := hs.e k hk6
  have z5 := hs.f k hk6
  simp only [hta, htb, htc, htd, hte, htf] at z0 z1 z2 z3 z4 z5 a1
  clear hs hta htb htc htd hte htf T
  have H : FrAt ((w.alloc (Obj.cells #[.int .i64 k, .int .i64 fa, .int .i64 fb, .slice o n cap] 36)).alloc (Obj.cells #[.int .i64 ta, .int .i64 tb, .int .i64 tc, .int .i64 td, .int .i64 te, .int .i64 tf] 69)) w.heap.size k fa fb (.slice o n cap) := (FrAt.fresh w k fa fb (.slice o n cap)).later (by go_grown)
  have R : RowAt ((w.alloc (Obj.cells #[.int .i64 k, .int .i64 fa, .int .i64 fb, .slice o n cap] 36)).alloc (Obj.cells #[.int .i64 ta, .int .i64 tb, .int .i64 tc, .int .i64 td, .int .i64 te, .int .i64 tf] 69)) (w.heap.size + 1) ta tb tc td te tf := by have := RowAt.fresh (w.alloc (Obj.cells #[.int .i64 k, .int .i64 fa, .int .i64 fb, .slice o n cap] 36)) ta tb tc td te tf; simpa using this
  go_enter Tryd.func13, Tryd.ntmps13
  go_wp2_with (first
    | (go_at_call 35; refine KA.mono ?_; rintro e w' ⟨rfl, rfl⟩)
    | (go_at_call_of 36 (Value.agg #[Value.int IntKind.i64 te, Value.int IntKind.i64 tf]); refine (has_any n te tf _).mono ?_; rintro e w1 ⟨rfl, B1⟩; have H1 := H.later B1; have R1 := R.later B1; have P1 := far2 B1; obtain ⟨x0, x1, x2, x3⟩ := H1; obtain ⟨y0, y1, y2, y3, y4, y5⟩ := R1))
  go_ret
  exact ⟨rfl, P1⟩

set_option maxHeartbeats 1000000 in
theorem right_no2 (k : Nat) (f : Fr) (o : Option Addr) (cap : Nat) (w : World) (T : Table w) (P : PS w o cap f.ps) (hk : f.k = k) (hk1 : 1 ≤ k ∧ k ≤ 5) (a1 : hasB (tE k) (tF k) f.ps.length = true) (a2 : hasB (tA k) (tB k) f.a = false) :
    Calls Tryd.prog 13 #[fv f o cap] w fun e w' => e = .returned (.int .i64 2) ∧ Below w.heap.size w w' := by
  unfold fv
  obtain ⟨fk, fa, fb, ps⟩ := f
  dsimp only at *
  subst hk
  obtain ⟨n, hn⟩ : ∃ n, ps.length = n := ⟨_, rfl⟩
  have HP := Hid.mk P
  have hc1 : n ≤ cap := hn ▸ P.cap
  have hc2 : n ≤ 9223372036854775807 := hn ▸ P.len
  have KA := kind_any (k : Int) (w.alloc (Obj.cells #[.int .i64 k, .int .i64 fa, .int .i64 fb, .slice o n cap] 36))
  rw [show hasB 1 5 (k : Int) = true from hasB_yes.2 (by omega)] at KA
  have HN := Hid.mk hn
  rw [hn] at a1 ⊢
  clear hn P
  obtain ⟨ta, hta⟩ : ∃ x, tA k = x := ⟨_, rfl⟩
  obtain ⟨tb, htb⟩ : ∃ x, tB k = x := ⟨_, rfl⟩
  obtain ⟨tc, htc⟩ : ∃ x, tC k = x := ⟨_, rfl⟩
  obtain ⟨td, htd⟩ : ∃ x, tD k = x := ⟨_, rfl⟩
  obtain ⟨te, hte⟩ : ∃ x, tE k = x := ⟨_, rfl⟩
  obtain ⟨tf, htf⟩ : ∃ x, tF k = x := ⟨_, rfl⟩
  have hs : Table (w.alloc (Obj.cells #[.int .i64 k, .int .i64 fa, .int .i64 fb, .slice o n cap] 36)) := T.later (by go_grown)
  have hk6 : k < 6 := by omega
  have z0 := hs.a k hk6
  have z1 := hs.b k hk6
  have z2 := hs.c k hk6
  have z3 := hs.d k hk6
  have z4 := hs.e k hk6
  have z5 := hs.f k hk6
  simp only [hta, htb, htc, htd, hte, htf] at z0 z1 z2 z3 z4 z5 a1 a2
  clear hs hta htb htc htd hte htf T
  have H : FrAt ((w.alloc (Obj.cells #[.int .i64 k, .int .i64 fa, .int .i64 fb, .slice o n cap] 36)).alloc (Obj.cells #[.int .i64 ta, .int .i64 tb, .int .i64 tc, .int .i64 td, .int .i64 te, .int .i64 tf] 69)) w.heap.size k fa fb (.slice o n cap) := (FrAt.fresh w k fa fb (.slice o n cap)).later (by go_grown)
  have R : RowAt ((w.alloc (Obj.cells #[.int .i64 k, .int .i64 fa, .int .i64 fb, .slice o n cap] 36)).alloc (Obj.cells #[.int .i64 ta, .int .i64 tb, .int .i64 tc, .int .i64 td, .int .i64 te, .int .i64 tf] 69)) (w.heap.size + 1) ta tb tc td te tf := by have := RowAt.fresh (w.alloc (Obj.cells #[.int .i64 k, .int .i64 fa, .int .i64 fb, .slice o n cap] 36)) ta tb tc td te tf; simpa using this
  go_enter Tryd.func13, Tryd.ntmps13
  go_wp2_with (first
    | (go_at_call 35; refine KA.mono ?_; rintro e w' ⟨rfl, rfl⟩)
    | (go_at_call_of 36 (Value.agg #[Value.int IntKind.i64 te, Value.int IntKind.i64 tf]); refine (has_any n te tf _).mono ?_; rintro e w1 ⟨rfl, B1⟩; have H1 := H.later B1; have R1 := R.later B1; have P1 := far2 B1; obtain ⟨x0, x1, x2, x3⟩ := H1; obtain ⟨y0, y1, y2, y3, y4, y5⟩ := R1)
    | (go_at_call_of 36 (Value.agg #[Value.int IntKind.i64 ta, Value.int IntKind.i64 tb]); refine (has_any fa ta tb _).mono ?_; rintro e w2 ⟨rfl, B2⟩; have H2 := (H.later B1).later B2; have R2 := (R.later B1).later B2; have P2 := belowOn P1 B2; obtain ⟨x0, x1, x2, x3⟩ := H2; obtain ⟨y0, y1, y2, y3, y4, y5⟩ := R2))
  go_ret
  exact ⟨rfl, P2⟩

set_option maxHeartbeats 1000000 in
theorem right_no3 (k : Nat) (f : Fr) (o : Option Addr) (cap : Nat) (w : World) (T : Table w) (P : PS w o cap f.ps) (hk : f.k = k) (hk1 : 1 ≤ k ∧ k ≤ 5) (a1 : hasB (tE k) (tF k) f.ps.length = true) (a2 : hasB (tA k) (tB k) f.a = true) (a3 : hasB (tC k) (tD k) f.b = false) :
    Calls Tryd.prog 13 #[fv f o cap] w fun e w' => e = .returned (.int .i64 2) ∧ Below w.heap.size w w' := by
  unfold fv
  obtain ⟨fk, fa, fb, ps⟩ := f
  dsimp only at *
  subst hk
  obtain ⟨n, hn⟩ : ∃ n, ps.length = n := ⟨_, rfl⟩
  have HP := Hid.mk P
  have hc1 : n ≤ cap := hn ▸ P.cap
  have hc2 : n ≤ 9223372036854775807 := hn ▸ P.len
  have KA := kind_any (k : Int) (w.alloc (Obj.cells #[.int .i64 k, .int .i64 fa, .int .i64 fb, .slice o n cap] 36))
  rw [show hasB 1 5 (k : Int) = true from hasB_yes.2 (by omega)] at KA
  have HN := Hid.mk hn
  rw [hn] at a1 ⊢
  clear hn P
  obtain ⟨ta, hta⟩ : ∃ x, tA k = x := ⟨_, rfl⟩
  obtain ⟨tb, htb⟩ : ∃ x, tB k = x := ⟨_, rfl⟩
  obtain ⟨tc, htc⟩ : ∃ x, tC k = x := ⟨_, rfl⟩
  obtain ⟨td, htd⟩ : ∃ x, tD k = x := ⟨_, rfl⟩
  obtain ⟨te, hte⟩ : ∃ x, tE k = x := ⟨_, rfl⟩
  obtain ⟨tf, htf⟩ : ∃ x, tF k = x := ⟨_, rfl⟩
  have hs : Table (w.alloc (Obj.cells #[.int .i64 k, .int .i64 fa, .int .i64 fb, .slice o n cap] 36)) := T.later (by go_grown)
  have hk6 : k < 6 := by omega
  have z0 := hs.a k hk6
  have z1 := hs.b k hk6
  have z2 := hs.c k hk6
  have z3 := hs.d k hk6
  have z4 := hs.e k hk6
  have z5 := hs.f k hk6
  simp only [hta, htb, htc, htd, hte, htf] at z0 z1 z2 z3 z4 z5 a1 a2 a3
  clear hs hta htb htc htd hte htf T
  have H : FrAt ((w.alloc (Obj.cells #[.int .i64 k, .int .i64 fa, .int .i64 fb, .slice o n cap] 36)).alloc (Obj.cells #[.int .i64 ta, .int .i64 tb, .int .i64 tc, .int .i64 td, .int .i64 te, .int .i64 tf] 69)) w.heap.size k fa fb (.slice o n cap) := (FrAt.fresh w k fa fb (.slice o n cap)).later (by go_grown)
  have R : RowAt ((w.alloc (Obj.cells #[.int .i64 k, .int .i64 fa, .int .i64 fb, .slice o n cap] 36)).alloc (Obj.cells #[.int .i64 ta, .int .i64 tb, .int .i64 tc, .int .i64 td, .int .i64 te, .int .i64 tf] 69)) (w.heap.size + 1) ta tb tc td te tf := by have := RowAt.fresh (w.alloc (Obj.cells #[.int .i64 k, .int .i64 fa, .int .i64 fb, .slice o n cap] 36)) ta tb tc td te tf; simpa using this
  go_enter Tryd.func13, Tryd.ntmps13
  go_wp2_with (first
    | (go_at_call 35; refine KA.mono ?_; rintro e w' ⟨rfl, rfl⟩)
    | (go_at_call_of 36 (Value.agg #[Value.int IntKind.i64 te, Value.int IntKind.i64 tf]); refine (has_any n te tf _).mono ?_; rintro e w1 ⟨rfl, B1⟩; have H1 := H.later B1; have R1 := R.later B1; have P1 := far2 B1; obtain ⟨x0, x1, x2, x3⟩ := H1; obtain ⟨y0, y1, y2, y3, y4, y5⟩ := R1)
    | (go_at_call_of 36 (Value.agg #[Value.int IntKind.i64 ta, Value.int IntKind.i64 tb]); refine (has_any fa ta tb _).mono ?_; rintro e w2 ⟨rfl, B2⟩; have H2 := (H.later B1).later B2; have R2 := (R.later B1).later B2; have P2 := belowOn P1 B2; obtain ⟨x0, x1, x2, x3⟩ := H2; obtain ⟨y0, y1, y2, y3, y4, y5⟩ := R2)
    | (go_at_call_of 36 (Value.agg #[Value.int IntKind.i64 tc, Value.int IntKind.i64 td]); refine (has_any fb tc td _).mono ?_; rintro e w3 ⟨rfl, B3⟩; have H3 := ((H.later B1).later B2).later B3; have P3 := belowOn P2 B3; obtain ⟨x0, x1, x2, x3⟩ := H3))
  go_ret
  exact ⟨rfl, P3⟩

set_option maxHeartbeats 1000000 in
theorem right_no4 (k : Nat) (f : Fr) (o : Option Addr) (cap : Nat) (w : World) (T : Table w) (P : PS w o cap f.ps) (hk : f.k = k) (hk1 : 1 ≤ k ∧ k ≤ 5) (a1 : hasB (tE k) (tF k) f.ps.length = true) (a2 : hasB (tA k) (tB k) f.a = true) (a3 : hasB (tC k) (tD k) f.b = true) (a4 : f.ps.any wrongP = true) :
    Calls Tryd.prog 13 #[fv f o cap] w fun e w' => e = .returned (.int .i64 4) ∧ Below w.heap.size w w' := by
  unfold fv
  obtain ⟨fk, fa, fb, ps⟩ := f
  dsimp only at *
  subst hk
  obtain ⟨n, hn⟩ : ∃ n, ps.length = n := ⟨_, rfl⟩
  have HP := Hid.mk P
  have hc1 : n ≤ cap := hn ▸ P.cap
  have hc2 : n ≤ 9223372036854775807 := hn ▸ P.len
  have KA := kind_any (k : Int) (w.alloc (Obj.cells #[.int .i64 k, .int .i64 fa, .int .i64 fb, .slice o n cap] 36))
  rw [show hasB 1 5 (k : Int) = true from hasB_yes.2 (by omega)] at KA
  have HN := Hid.mk hn
  rw [hn] at a1 ⊢
  clear hn P
  obtain ⟨ta, hta⟩ : ∃ x, tA k = x := ⟨_, rfl⟩
  obtain ⟨tb, htb⟩ : ∃ x, tB k = x := ⟨_, rfl⟩
  obtain ⟨tc, htc⟩ : ∃ x, tC k = x := ⟨_, rfl⟩
  obtain ⟨td, htd⟩ : ∃ x, tD k = x := ⟨_, rfl⟩
  obtain ⟨te, hte⟩ : ∃ x, tE k = x := ⟨_, rfl⟩
  obtain ⟨tf, htf⟩ : ∃ x, tF k = x := ⟨_, rfl⟩
  have hs : Table (w.alloc (Obj.cells #[.int .i64 k, .int .i64 fa, .int .i64 fb, .slice o n cap] 36)) := T.later (by go_grown)
  have hk6 : k < 6 := by omega
  have z0 := hs.a k hk6
  have z1 := hs.b k hk6
  have z2 := hs.c k hk6
  have z3 := hs.d k hk6
  have z4 := hs.e k hk6
  have z5 := hs.f k hk6
  simp only [hta, htb, htc, htd, hte, htf] at z0 z1 z2 z3 z4 z5 a1 a2 a3
  clear hs hta htb htc htd hte htf T
  have H : FrAt ((w.alloc (Obj.cells #[.int .i64 k, .int .i64 fa, .int .i64 fb, .slice o n cap] 36)).alloc (Obj.cells #[.int .i64 ta, .int .i64 tb, .int .i64 tc, .int .i64 td, .int .i64 te, .int .i64 tf] 69)) w.heap.size k fa fb (.slice o n cap) := (FrAt.fresh w k fa fb (.slice o n cap)).later (by go_grown)
  have R : RowAt ((w.alloc (Obj.cells #[.int .i64 k, .int .i64 fa, .int .i64 fb, .slice o n cap] 36)).alloc (Obj.cells #[.int .i64 ta, .int .i64 tb, .int .i64 tc, .int .i64 td, .int .i64 te, .int .i64 tf] 69)) (w.heap.size + 1) ta tb tc td te tf := by have := RowAt.fresh (w.alloc (Obj.cells #[.int .i64 k, .int .i64 fa, .int .i64 fb, .slice o n cap] 36)) ta tb tc td te tf; simpa using this
  go_enter Tryd.func13, Tryd.ntmps13
  go_wp2_with (first
    | (go_at_call 35; refine KA.mono ?_; rintro e w' ⟨rfl, rfl⟩)
    | (go_at_call_of 36 (Value.agg #[Value.int IntKind.i64 te, Value.int IntKind.i64 tf]); refine (has_any n te tf _).mono ?_; rintro e w1 ⟨rfl, B1⟩; have H1 := H.later B1; have R1 := R.later B1; have P1 := far2 B1; obtain ⟨x0, x1, x2, x3⟩ := H1; obtain ⟨y0, y1, y2, y3, y4, y5⟩ := R1)
    | (go_at_call_of 36 (Value.agg #[Value.int IntKind.i64 ta, Value.int IntKind.i64 tb]); refine (has_any fa ta tb _).mono ?_; rintro e w2 ⟨rfl, B2⟩; have H2 := (H.later B1).later B2; have R2 := (R.later B1).later B2; have P2 := belowOn P1 B2; obtain ⟨x0, x1, x2, x3⟩ := H2; obtain ⟨y0, y1, y2, y3, y4, y5⟩ := R2)
    | (go_at_call_of 36 (Value.agg #[Value.int IntKind.i64 tc, Value.int IntKind.i64 td]); refine (has_any fb tc td _).mono ?_; rintro e w3 ⟨rfl, B3⟩; have H3 := ((H.later B1).later B2).later B3; have P3 := belowOn P2 B3; obtain ⟨x0, x1, x2, x3⟩ := H3)
    | (go_at_call 37; have CC := contains_any ps o cap w3 (HP.out.later P3); rw [HN.out, a4] at CC; refine CC.mono ?_; rintro e w4 ⟨rfl, rfl⟩))
  go_ret
  exact ⟨rfl, P3⟩

set_option maxHeartbeats 1000000 in
theorem right_yes (k : Nat) (f : Fr) (o : Option Addr) (cap : Nat) (w : World) (T : Table w) (P : PS w o cap f.ps) (hk : f.k = k) (hk1 : 1 ≤ k ∧ k ≤ 5) (a1 : hasB (tE k) (tF k) f.ps.length = true) (a2 : hasB (tA k) (tB k) f.a = true) (a3 : hasB (tC k) (tD k) f.b = true) (a4 : f.ps.any wrongP = false) :
    Calls Tryd.prog 13 #[fv f o cap] w fun e w' => e = .returned (.int .i64 0) ∧ Below w.heap.size w w' := by
  unfold fv
  obtain ⟨fk, fa, fb, ps⟩ := f
  dsimp only at *
  subst hk
  obtain ⟨n, hn⟩ : ∃ n, ps.length = n := ⟨_, rfl⟩
  have HP := Hid.mk P
  have hc1 : n ≤ cap := hn ▸ P.cap
  have hc2 : n ≤ 9223372036854775807 := hn ▸ P.len
  have KA := kind_any (k : Int) (w.alloc (Obj.cells #[.int .i64 k, .int .i64 fa, .int .i64 fb, .slice o n cap] 36))
  rw [show hasB 1 5 (k : Int) = true from hasB_yes.2 (by omega)] at KA
  have HN := Hid.mk hn
  rw [hn] at a1 ⊢
  clear hn P
  obtain ⟨ta, hta⟩ : ∃ x, tA k = x := ⟨_, rfl⟩
  obtain ⟨tb, htb⟩ : ∃ x, tB k = x := ⟨_, rfl⟩
  obtain ⟨tc, htc⟩ : ∃ x, tC k = x := ⟨_, rfl⟩
  obtain ⟨td, htd⟩ : ∃ x, tD k = x := ⟨_, rfl⟩
  obtain ⟨te, hte⟩ : ∃ x, tE k = x := ⟨_, rfl⟩
  obtain ⟨tf, htf⟩ : ∃ x, tF k = x := ⟨_, rfl⟩
  have hs : Table (w.alloc (Obj.cells #[.int .i64 k, .int .i64 fa, .int .i64 fb, .slice o n cap] 36)) := T.later (by go_grown)
  have hk6 : k < 6 := by omega
  have z0 := hs.a k hk6
  have z1 := hs.b k hk6
  have z2 := hs.c k hk6
  have z3 := hs.d k hk6
  have z4 := hs.e k hk6
  have z5 := hs.f k hk6
  simp only [hta, htb, htc, htd, hte, htf] at z0 z1 z2 z3 z4 z5 a1 a2 a3
  clear hs hta htb htc htd hte htf T
  have H : FrAt ((w.alloc (Obj.cells #[.int .i64 k, .int .i64 fa, .int .i64 fb, .slice o n cap] 36)).alloc (Obj.cells #[.int .i64 ta, .int .i64 tb, .int .i64 tc, .int .i64 td, .int .i64 te, .int .i64 tf] 69)) w.heap.size k fa fb (.slice o n cap) := (FrAt.fresh w k fa fb (.slice o n cap)).later (by go_grown)
  have R : RowAt ((w.alloc (Obj.cells #[.int .i64 k, .int .i64 fa, .int .i64 fb, .slice o n cap] 36)).alloc (Obj.cells #[.int .i64 ta, .int .i64 tb, .int .i64 tc, .int .i64 td, .int .i64 te, .int .i64 tf] 69)) (w.heap.size + 1) ta tb tc td te tf := by have := RowAt.fresh (w.alloc (Obj.cells #[.int .i64 k, .int .i64 fa, .int .i64 fb, .slice o n cap] 36)) ta tb tc td te tf; simpa using this
  go_enter Tryd.func13, Tryd.ntmps13
  go_wp2_with (first
    | (go_at_call 35; refine KA.mono ?_; rintro e w' ⟨rfl, rfl⟩)
    | (go_at_call_of 36 (Value.agg #[Value.int IntKind.i64 te, Value.int IntKind.i64 tf]); refine (has_any n te tf _).mono ?_; rintro e w1 ⟨rfl, B1⟩; have H1 := H.later B1; have R1 := R.later B1; have P1 := far2 B1; obtain ⟨x0, x1, x2, x3⟩ := H1; obtain ⟨y0, y1, y2, y3, y4, y5⟩ := R1)
    | (go_at_call_of 36 (Value.agg #[Value.int IntKind.i64 ta, Value.int IntKind.i64 tb]); refine (has_any fa ta tb _).mono ?_; rintro e w2 ⟨rfl, B2⟩; have H2 := (H.later B1).later B2; have R2 := (R.later B1).later B2; have P2 := belowOn P1 B2; obtain ⟨x0, x1, x2, x3⟩ := H2; obtain ⟨y0, y1, y2, y3, y4, y5⟩ := R2)
    | (go_at_call_of 36 (Value.agg #[Value.int IntKind.i64 tc, Value.int IntKind.i64 td]); refine (has_any fb tc td _).mono ?_; rintro e w3 ⟨rfl, B3⟩; have H3 := ((H.later B1).later B2).later B3; have P3 := belowOn P2 B3; obtain ⟨x0, x1, x2, x3⟩ := H3)
    | (go_at_call 37; have CC := contains_any ps o cap w3 (HP.out.later P3); rw [HN.out, a4] at CC; refine CC.mono ?_; rintro e w4 ⟨rfl, rfl⟩))
  go_ret
  exact ⟨rfl, P3⟩

theorem right_none (f : Fr) (o : Option Addr) (cap : Nat) (w : World) (hk : ¬ (1 ≤ f.k ∧ f.k ≤ 5)) :
    Calls Tryd.prog 13 #[fv f o cap] w fun e w' => e = .returned (.int .i64 6) ∧ Below w.heap.size w w' := by
  unfold fv
  obtain ⟨fk, fa, fb, ps⟩ := f
  dsimp only at *
  generalize ps.length = n at *
  have KA := kind_any fk (w.alloc (Obj.cells #[.int .i64 fk, .int .i64 fa, .int .i64 fb, .slice o n cap] 36))
  rw [hasB_no.2 hk] at KA
  clear hk
  go_enter Tryd.func13, Tryd.ntmps13
  go_wp2_with (go_at_call 35; refine KA.mono ?_; rintro e w' ⟨rfl, rfl⟩)
  go_ret
  exact ⟨rfl, by go_grown⟩
/-- Right, of whatever frame -/
theorem right_any (f : Fr) (o : Option Addr) (cap : Nat) (w : World) (T : Table w) (P : PS w o cap f.ps) :
    Calls Tryd.prog 13 #[fv f o cap] w fun e w' => e = .returned (.int .i64 (rightE f)) ∧ Below w.heap.size w w' := by
  unfold rightE
  by_cases hk : 1 ≤ f.k ∧ f.k ≤ 5
  · rw [if_pos hk]
    have e : f.k = (f.k.toNat : Nat) := by omega
    have hk' : 1 ≤ f.k.toNat ∧ f.k.toNat ≤ 5 := by omega
    generalize f.k.toNat = k at *
    unfold rightK
    split
    · exact right_no1 k f o cap w T P e hk' (by assumption)
    split
    · exact right_no2 k f o cap w T P e hk' (by simpa using ‹¬ hasB (tE k) (tF k) f.ps.length = false›) (by assumption)
    split
    · exact right_no3 k f o cap w T P e hk' (by simpa using ‹¬ hasB (tE k) (tF k) f.ps.length = false›) (by simpa using ‹¬ hasB (tA k) (tB k) f.a = false›) (by assumption)
    split
    · exact right_no4 k f o cap w T P e hk' (by simpa using ‹¬ hasB (tE k) (tF k) f.ps.length = false›) (by simpa using ‹¬ hasB (tA k) (tB k) f.a = false›) (by simpa using ‹¬ hasB (tC k) (tD k) f.b = false›) (by assumption)
    · exact right_yes k f o cap w T P e hk' (by simpa using ‹¬ hasB (tE k) (tF k) f.ps.length = false›) (by simpa using ‹¬ hasB (tA k) (tB k) f.a = false›) (by simpa using ‹¬ hasB (tC k) (tD k) f.b = false›) (by simpa using ‹¬ f.ps.any wrongP = true›)
  · rw [if_neg hk]
    exact right_none f o cap w hk
end Go.Proofs.YtglimbpnekephaaDoor
