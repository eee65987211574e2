/- The contract of Over, for whatever header and kind, in a world that holds the table. -/
import Derived.Test.YtbdoekffadmejaaGreatDoorSRight
import Derived.Lib.SmallJoins
namespace Go.Proofs.YtbdoekffadmejaaGreatDoor.Sh
open Go.RowKit

/-- A header of one's own in a block: it may be written. -/
def Mine (w : World) (b : Nat) (k i p n : Int) : Prop := w.heap[b]? = some (.cells #[.int .i64 k, .int .i64 i, .int .i64 p, .int .i64 n] 30 (0, 0))
theorem Mine.later {w w' : World} {b : Nat} {k i p n : Int} (h : Mine w b k i p n) (hb : Below w.heap.size w w') : Mine w' b k i p n :=
  (hb.block b (Array.getElem?_eq_some_iff.1 h).1).trans h
theorem Mine.free {w : World} {b : Nat} {k i p n : Int} (h : Mine w b k i p n) (j : Nat) : w.frozen? ⟨b, j, none⟩ = false := Joins.unfrozen_of_block h j
theorem Mine.at {w : World} {b : Nat} {k i p n : Int} (h : Mine w b k i p n) : HeadAt w b k i p n :=
  ⟨by rw [Joins.cell_of_block h]; rfl, by rw [Joins.cell_of_block h]; rfl, by rw [Joins.cell_of_block h]; rfl, by rw [Joins.cell_of_block h]; rfl⟩
theorem Mine.fresh (w : World) (k i p n : Int) : Mine (w.alloc (Obj.cells #[Value.int IntKind.i64 k, Value.int IntKind.i64 i, Value.int IntKind.i64 p, Value.int IntKind.i64 n] 30)) w.heap.size k i p n := heap_alloc_new w _

/-- What Over answers: its error, and the header's fields (Info is 0). -/
def overE (k i p n t : Int) : Int := if passB t = false then 6 else if rightE k i p n ≠ 0 then rightE k i p n else if thunkB k = false ∧ k ≠ 9 then 6 else 0
def overK (k i p n t : Int) : Int := if overE k i p n t = 0 then t else 0
def overP (k i p n t : Int) : Int := if overE k i p n t = 0 then tA t.toNat else 0
def overN (k i p n t : Int) : Int := if overE k i p n t = 0 then p + n - tA t.toNat else 0
def OverSays (F : Nat) (k i p n t : Int) (w : World) : Prop :=
  Calls Tryz.prog F #[head k i p n, .int .i64 t] w fun e w' => e = .returned (.tuple #[head (overK k i p n t) 0 (overP k i p n t) (overN k i p n t), .int .i64 (overE k i p n t)]) ∧ Below w.heap.size w w'
theorem over_bad {k i p n t E : Int} {F : Nat} {w : World} (hE : overE k i p n t = E) (h0 : E ≠ 0)
    (h : Calls Tryz.prog F #[head k i p n, .int .i64 t] w fun e w' => e = .returned (.tuple #[head 0 0 0 0, .int .i64 E]) ∧ Below w.heap.size w w') : OverSays F k i p n t w := by
  subst hE
  unfold OverSays
  rw [show overK k i p n t = 0 by simp [overK, h0], show overP k i p n t = 0 by simp [overP, h0], show overN k i p n t = 0 by simp [overN, h0]]
  exact h
theorem over_ok {k i p n t : Int} {F : Nat} {w : World} (hE : overE k i p n t = 0)
    (h : Calls Tryz.prog F #[head k i p n, .int .i64 t] w fun e w' => e = .returned (.tuple #[head t 0 (tA t.toNat) (p + n - tA t.toNat), .int .i64 0]) ∧ Below w.heap.size w w') : OverSays F k i p n t w := by
  unfold OverSays
  rw [show overK k i p n t = t by simp [overK, hE], show overP k i p n t = tA t.toNat by simp [overP, hE], show overN k i p n t = p + n - tA t.toNat by simp [overN, hE], hE]
  exact h
/-- What can be passed has a word at least. -/
theorem part_least {k i p n : Int} (h : rightE k i p n = 0) (a : thunkB k = true ∨ k = 9) : 1 ≤ p + n := by
  unfold rightE at h
  rcases Bool.eq_false_or_eq_true (kindB k) with c | c
  · rcases Bool.eq_false_or_eq_true (partsB k.toNat p n) with b | b
    · simp only [partsB, Bool.and_eq_true, decide_eq_true_eq, hasB] at b
      obtain ⟨⟨⟨b1, b2⟩, b3⟩, _⟩ := b
      have a' : k = 5 ∨ k = 6 ∨ k = 7 ∨ k = 9 := by
        rcases a with a | a
        · have := thunkB_yes.1 a; omega
        · omega
      rcases a' with rfl | rfl | rfl | rfl <;> simp [tA, tB, tC, tD] at b1 b2 b3 <;> first | omega | (by_cases p0 : p = 0 <;> simp_all <;> omega)
    · simp [c, b] at h
  · simp [c] at h

set_option maxHeartbeats 1000000 in
theorem over_kind (k i p n t : Int) (w : World) (a : passB t = false) :
    Calls Tryz.prog 128 #[head k i p n, .int .i64 t] w fun e w' => e = .returned (.tuple #[head 0 0 0 0, .int .i64 6]) ∧ Below w.heap.size w w' := by
  go_enter Tryz.func128, Tryz.ntmps128
  go_wp2_with (go_at_call 169; refine (passed_any _ _).mono ?_; rintro e w' ⟨rfl, rfl⟩)
  refine bodyPost_ret (v := .tuple #[head 0 0 0 0, .int .i64 6]) (by simp [results, Tryz.results128, go_sem]) rfl ⟨rfl, ?_⟩
  go_grown

set_option maxHeartbeats 1000000 in
theorem over_wrong (k i p n t E : Int) (w : World) (h : Table w) (a : passB t = true) (hE : rightE k i p n = E) (b : (E != 0) = true) :
    Calls Tryz.prog 128 #[head k i p n, .int .i64 t] w fun e w' => e = .returned (.tuple #[head 0 0 0 0, .int .i64 E]) ∧ Below w.heap.size w w' := by
  have hs : Table ((w.alloc (Obj.cells #[Value.int IntKind.i64 k, Value.int IntKind.i64 i, Value.int IntKind.i64 p, Value.int IntKind.i64 n] 30)).alloc (Obj.cells #[Value.int IntKind.i64 0, Value.int IntKind.i64 0, Value.int IntKind.i64 0, Value.int IntKind.i64 0] 30)) := h.later (by go_grown)
  have H : HeadAt ((w.alloc (Obj.cells #[Value.int IntKind.i64 k, Value.int IntKind.i64 i, Value.int IntKind.i64 p, Value.int IntKind.i64 n] 30)).alloc (Obj.cells #[Value.int IntKind.i64 0, Value.int IntKind.i64 0, Value.int IntKind.i64 0, Value.int IntKind.i64 0] 30)) w.heap.size k i p n := (HeadAt.fresh w k i p n).later (by go_grown)
  have G : Mine ((w.alloc (Obj.cells #[Value.int IntKind.i64 k, Value.int IntKind.i64 i, Value.int IntKind.i64 p, Value.int IntKind.i64 n] 30)).alloc (Obj.cells #[Value.int IntKind.i64 0, Value.int IntKind.i64 0, Value.int IntKind.i64 0, Value.int IntKind.i64 0] 30)) (w.heap.size + 1) 0 0 0 0 := by have := Mine.fresh (w.alloc (Obj.cells #[Value.int IntKind.i64 k, Value.int IntKind.i64 i, Value.int IntKind.i64 p, Value.int IntKind.i64 n] 30)) 0 0 0 0; simpa using this
  have S := right_any k i p n _ hs
  rw [hE] at S
  clear hE
  go_enter Tryz.func128, Tryz.ntmps128
  go_wp2_with (first
    | (go_at_call 169; refine (passed_any _ _).mono ?_; rintro e w' ⟨rfl, rfl⟩)
    | (go_at_call 170; refine (thunk_any _ _).mono ?_; rintro e w' ⟨rfl, rfl⟩)
    | (go_at_call 117; refine S.mono ?_; rintro e w1 ⟨rfl, B1⟩; have T1 := hs.later B1; have t0 : w1.cell? ⟨0, 1, none⟩ = some (.int .i64 0) := T1.a 0 (by decide); have G1 := G.later B1; have f0 := G1.free 0; have f1 := G1.free 1; have f2 := G1.free 2; have f3 := G1.free 3; obtain ⟨y0, y1, y2, y3⟩ := G1.at; obtain ⟨x0, x1, x2, x3⟩ := H.later B1))
  refine bodyPost_ret (v := .tuple #[head 0 0 0 0, .int .i64 E]) (by simp [results, Tryz.results128, go_sem, y0, y1, y2, y3]) rfl ⟨rfl, ?_⟩
  exact ((((far2 B1).setCell (by simp) _).setCell (by simp) _).setCell (by simp) _).setCell (by simp) _

set_option maxHeartbeats 1000000 in
theorem over_none (k i p n t : Int) (w : World) (h : Table w) (a : passB t = true) (hE : rightE k i p n = 0) (b : thunkB k = false) (c : (k != 9) = true) :
    Calls Tryz.prog 128 #[head k i p n, .int .i64 t] w fun e w' => e = .returned (.tuple #[head 0 0 0 0, .int .i64 6]) ∧ Below w.heap.size w w' := by
  have hs : Table ((w.alloc (Obj.cells #[Value.int IntKind.i64 k, Value.int IntKind.i64 i, Value.int IntKind.i64 p, Value.int IntKind.i64 n] 30)).alloc (Obj.cells #[Value.int IntKind.i64 0, Value.int IntKind.i64 0, Value.int IntKind.i64 0, Value.int IntKind.i64 0] 30)) := h.later (by go_grown)
  have H : HeadAt ((w.alloc (Obj.cells #[Value.int IntKind.i64 k, Value.int IntKind.i64 i, Value.int IntKind.i64 p, Value.int IntKind.i64 n] 30)).alloc (Obj.cells #[Value.int IntKind.i64 0, Value.int IntKind.i64 0, Value.int IntKind.i64 0, Value.int IntKind.i64 0] 30)) w.heap.size k i p n := (HeadAt.fresh w k i p n).later (by go_grown)
  have G : Mine ((w.alloc (Obj.cells #[Value.int IntKind.i64 k, Value.int IntKind.i64 i, Value.int IntKind.i64 p, Value.int IntKind.i64 n] 30)).alloc (Obj.cells #[Value.int IntKind.i64 0, Value.int IntKind.i64 0, Value.int IntKind.i64 0, Value.int IntKind.i64 0] 30)) (w.heap.size + 1) 0 0 0 0 := by have := Mine.fresh (w.alloc (Obj.cells #[Value.int IntKind.i64 k, Value.int IntKind.i64 i, Value.int IntKind.i64 p, Value.int IntKind.i64 n] 30)) 0 0 0 0; simpa using this
  have S := right_any k i p n _ hs
  rw [hE] at S
  clear hE
  go_enter Tryz.func128, Tryz.ntmps128
  go_wp2_with (first
    | (go_at_call 169; refine (passed_any _ _).mono ?_; rintro e w' ⟨rfl, rfl⟩)
    | (go_at_call 170; refine (thunk_any _ _).mono ?_; rintro e w' ⟨rfl, rfl⟩)
    | (go_at_call 117; refine S.mono ?_; rintro e w1 ⟨rfl, B1⟩; have T1 := hs.later B1; have t0 : w1.cell? ⟨0, 1, none⟩ = some (.int .i64 0) := T1.a 0 (by decide); have G1 := G.later B1; have f0 := G1.free 0; have f1 := G1.free 1; have f2 := G1.free 2; have f3 := G1.free 3; obtain ⟨y0, y1, y2, y3⟩ := G1.at; obtain ⟨x0, x1, x2, x3⟩ := H.later B1))
  refine bodyPost_ret (v := .tuple #[head 0 0 0 0, .int .i64 6]) (by simp [results, Tryz.results128, go_sem, y0, y1, y2, y3]) rfl ⟨rfl, ?_⟩
  exact ((((far2 B1).setCell (by simp) _).setCell (by simp) _).setCell (by simp) _).setCell (by simp) _


set_option maxHeartbeats 1000000 in
theorem over_t8 (k i p n : Int) (w : World) (h : Table w) (hE : rightE k i p n = 0) (b : thunkB k = true) (l : 1 ≤ p + n) :
    Calls Tryz.prog 128 #[head k i p n, .int .i64 8] w fun e w' => e = .returned (.tuple #[head 8 0 1 (p + n - 1), .int .i64 0]) ∧ Below w.heap.size w w' := by
  have a : passB 8 = true := by decide
  have sm := right_small hE
  have hs : Table ((w.alloc (Obj.cells #[Value.int IntKind.i64 k, Value.int IntKind.i64 i, Value.int IntKind.i64 p, Value.int IntKind.i64 n] 30)).alloc (Obj.cells #[Value.int IntKind.i64 0, Value.int IntKind.i64 0, Value.int IntKind.i64 0, Value.int IntKind.i64 0] 30)) := h.later (by go_grown)
  have H : HeadAt ((w.alloc (Obj.cells #[Value.int IntKind.i64 k, Value.int IntKind.i64 i, Value.int IntKind.i64 p, Value.int IntKind.i64 n] 30)).alloc (Obj.cells #[Value.int IntKind.i64 0, Value.int IntKind.i64 0, Value.int IntKind.i64 0, Value.int IntKind.i64 0] 30)) w.heap.size k i p n := (HeadAt.fresh w k i p n).later (by go_grown)
  have G : Mine ((w.alloc (Obj.cells #[Value.int IntKind.i64 k, Value.int IntKind.i64 i, Value.int IntKind.i64 p, Value.int IntKind.i64 n] 30)).alloc (Obj.cells #[Value.int IntKind.i64 0, Value.int IntKind.i64 0, Value.int IntKind.i64 0, Value.int IntKind.i64 0] 30)) (w.heap.size + 1) 0 0 0 0 := by have := Mine.fresh (w.alloc (Obj.cells #[Value.int IntKind.i64 k, Value.int IntKind.i64 i, Value.int IntKind.i64 p, Value.int IntKind.i64 n] 30)) 0 0 0 0; simpa using this
  have S := right_any k i p n _ hs
  rw [hE] at S
  clear hE
  go_enter Tryz.func128, Tryz.ntmps128
  go_wp2_with (first
    | (go_at_call 169; refine (passed_any _ _).mono ?_; rintro e w' ⟨rfl, rfl⟩)
    | (go_at_call 170; refine (thunk_any _ _).mono ?_; rintro e w' ⟨rfl, rfl⟩)
    | (go_at_call 117; refine S.mono ?_; rintro e w1 ⟨rfl, B1⟩; have T1 := hs.later B1; have t0 : w1.cell? ⟨0, 41, none⟩ = some (.int .i64 1) := T1.a 8 (by decide); have G1 := G.later B1; have f0 := G1.free 0; have f1 := G1.free 1; have f2 := G1.free 2; have f3 := G1.free 3; obtain ⟨y0, y1, y2, y3⟩ := G1.at; obtain ⟨x0, x1, x2, x3⟩ := H.later B1))
  refine bodyPost_ret (v := .tuple #[head 8 0 1 (p + n - 1), .int .i64 0]) (by simp [results, Tryz.results128, go_sem, y0, y1, y2, y3]) rfl ⟨rfl, ?_⟩
  exact ((((far2 B1).setCell (by simp) _).setCell (by simp) _).setCell (by simp) _).setCell (by simp) _


set_option maxHeartbeats 1000000 in
theorem over_h8 (k i p n : Int) (w : World) (h : Table w) (hE : rightE k i p n = 0) (b : thunkB k = false) (c : (k != 9) = false) (l : 1 ≤ p + n) :
    Calls Tryz.prog 128 #[head k i p n, .int .i64 8] w fun e w' => e = .returned (.tuple #[head 8 0 1 (p + n - 1), .int .i64 0]) ∧ Below w.heap.size w w' := by
  have a : passB 8 = true := by decide
  have sm := right_small hE
  have hs : Table ((w.alloc (Obj.cells #[Value.int IntKind.i64 k, Value.int IntKind.i64 i, Value.int IntKind.i64 p, Value.int IntKind.i64 n] 30)).alloc (Obj.cells #[Value.int IntKind.i64 0, Value.int IntKind.i64 0, Value.int IntKind.i64 0, Value.int IntKind.i64 0] 30)) := h.later (by go_grown)
  have H : HeadAt ((w.alloc (Obj.cells #[Value.int IntKind.i64 k, Value.int IntKind.i64 i, Value.int IntKind.i64 p, Value.int IntKind.i64 n] 30)).alloc (Obj.cells #[Value.int IntKind.i64 0, Value.int IntKind.i64 0, Value.int IntKind.i64 0, Value.int IntKind.i64 0] 30)) w.heap.size k i p n := (HeadAt.fresh w k i p n).later (by go_grown)
  have G : Mine ((w.alloc (Obj.cells #[Value.int IntKind.i64 k, Value.int IntKind.i64 i, Value.int IntKind.i64 p, Value.int IntKind.i64 n] 30)).alloc (Obj.cells #[Value.int IntKind.i64 0, Value.int IntKind.i64 0, Value.int IntKind.i64 0, Value.int IntKind.i64 0] 30)) (w.heap.size + 1) 0 0 0 0 := by have := Mine.fresh (w.alloc (Obj.cells #[Value.int IntKind.i64 k, Value.int IntKind.i64 i, Value.int IntKind.i64 p, Value.int IntKind.i64 n] 30)) 0 0 0 0; simpa using this
  have S := right_any k i p n _ hs
  rw [hE] at S
  clear hE
  go_enter Tryz.func128, Tryz.ntmps128
  go_wp2_with (first
    | (go_at_call 169; refine (passed_any _ _).mono ?_; rintro e w' ⟨rfl, rfl⟩)
    | (go_at_call 170; refine (thunk_any _ _).mono ?_; rintro e w' ⟨rfl, rfl⟩)
    | (go_at_call 117; refine S.mono ?_; rintro e w1 ⟨rfl, B1⟩; have T1 := hs.later B1; have t0 : w1.cell? ⟨0, 41, none⟩ = some (.int .i64 1) := T1.a 8 (by decide); have G1 := G.later B1; have f0 := G1.free 0; have f1 := G1.free 1; have f2 := G1.free 2; have f3 := G1.free 3; obtain ⟨y0, y1, y2, y3⟩ := G1.at; obtain ⟨x0, x1, x2, x3⟩ := H.later B1))
  refine bodyPost_ret (v := .tuple #[head 8 0 1 (p + n - 1), .int .i64 0]) (by simp [results, Tryz.results128, go_sem, y0, y1, y2, y3]) rfl ⟨rfl, ?_⟩
  exact ((((far2 B1).setCell (by simp) _).setCell (by simp) _).setCell (by simp) _).setCell (by simp) _


set_option maxHeartbeats 1000000 in
theorem over_t9 (k i p n : Int) (w : World) (h : Table w) (hE : rightE k i p n = 0) (b : thunkB k = true) (l : 1 ≤ p + n) :
    Calls Tryz.prog 128 #[head k i p n, .int .i64 9] w fun e w' => e = .returned (.tuple #[head 9 0 0 (p + n), .int .i64 0]) ∧ Below w.heap.size w w' := by
  have a : passB 9 = true := by decide
  have sm := right_small hE
  have hs : Table ((w.alloc (Obj.cells #[Value.int IntKind.i64 k, Value.int IntKind.i64 i, Value.int IntKind.i64 p, Value.int IntKind.i64 n] 30)).alloc (Obj.cells #[Value.int IntKind.i64 0, Value.int IntKind.i64 0, Value.int IntKind.i64 0, Value.int IntKind.i64 0] 30)) := h.later (by go_grown)
  have H : HeadAt ((w.alloc (Obj.cells #[Value.int IntKind.i64 k, Value.int IntKind.i64 i, Value.int IntKind.i64 p, Value.int IntKind.i64 n] 30)).alloc (Obj.cells #[Value.int IntKind.i64 0, Value.int IntKind.i64 0, Value.int IntKind.i64 0, Value.int IntKind.i64 0] 30)) w.heap.size k i p n := (HeadAt.fresh w k i p n).later (by go_grown)
  have G : Mine ((w.alloc (Obj.cells #[Value.int IntKind.i64 k, Value.int IntKind.i64 i, Value.int IntKind.i64 p, Value.int IntKind.i64 n] 30)).alloc (Obj.cells #[Value.int IntKind.i64 0, Value.int IntKind.i64 0, Value.int IntKind.i64 0, Value.int IntKind.i64 0] 30)) (w.heap.size + 1) 0 0 0 0 := by have := Mine.fresh (w.alloc (Obj.cells #[Value.int IntKind.i64 k, Value.int IntKind.i64 i, Value.int IntKind.i64 p, Value.int IntKind.i64 n] 30)) 0 0 0 0; simpa using this
  have S := right_any k i p n _ hs
  rw [hE] at S
  clear hE
  go_enter Tryz.func128, Tryz.ntmps128
  go_wp2_with (first
    | (go_at_call 169; refine (passed_any _ _).mono ?_; rintro e w' ⟨rfl, rfl⟩)
    | (go_at_call 170; refine (thunk_any _ _).mono ?_; rintro e w' ⟨rfl, rfl⟩)
    | (go_at_call 117; refine S.mono ?_; rintro e w1 ⟨rfl, B1⟩; have T1 := hs.later B1; have t0 : w1.cell? ⟨0, 46, none⟩ = some (.int .i64 0) := T1.a 9 (by decide); have G1 := G.later B1; have f0 := G1.free 0; have f1 := G1.free 1; have f2 := G1.free 2; have f3 := G1.free 3; obtain ⟨y0, y1, y2, y3⟩ := G1.at; obtain ⟨x0, x1, x2, x3⟩ := H.later B1))
  refine bodyPost_ret (v := .tuple #[head 9 0 0 (p + n), .int .i64 0]) (by simp [results, Tryz.results128, go_sem, y0, y1, y2, y3]) rfl ⟨rfl, ?_⟩
  exact ((((far2 B1).setCell (by simp) _).setCell (by simp) _).setCell (by simp) _).setCell (by simp) _


set_option maxHeartbeats 1000000 in
theorem over_h9 (k i p n : Int) (w : World) (h : Table w) (hE : rightE k i p n = 0) (b : thunkB k = false) (c : (k != 9) = false) (l : 1 ≤ p + n) :
    Calls Tryz.prog 128 #[head k i p n, .int .i64 9] w fun e w' => e = .returned (.tuple #[head 9 0 0 (p + n), .int .i64 0]) ∧ Below w.heap.size w w' := by
  have a : passB 9 = true := by decide
  have sm := right_small hE
  have hs : Table ((w.alloc (Obj.cells #[Value.int IntKind.i64 k, Value.int IntKind.i64 i, Value.int IntKind.i64 p, Value.int IntKind.i64 n] 30)).alloc (Obj.cells #[Value.int IntKind.i64 0, Value.int IntKind.i64 0, Value.int IntKind.i64 0, Value.int IntKind.i64 0] 30)) := h.later (by go_grown)
  have H : HeadAt ((w.alloc (Obj.cells #[Value.int IntKind.i64 k, Value.int IntKind.i64 i, Value.int IntKind.i64 p, Value.int IntKind.i64 n] 30)).alloc (Obj.cells #[Value.int IntKind.i64 0, Value.int IntKind.i64 0, Value.int IntKind.i64 0, Value.int IntKind.i64 0] 30)) w.heap.size k i p n := (HeadAt.fresh w k i p n).later (by go_grown)
  have G : Mine ((w.alloc (Obj.cells #[Value.int IntKind.i64 k, Value.int IntKind.i64 i, Value.int IntKind.i64 p, Value.int IntKind.i64 n] 30)).alloc (Obj.cells #[Value.int IntKind.i64 0, Value.int IntKind.i64 0, Value.int IntKind.i64 0, Value.int IntKind.i64 0] 30)) (w.heap.size + 1) 0 0 0 0 := by have := Mine.fresh (w.alloc (Obj.cells #[Value.int IntKind.i64 k, Value.int IntKind.i64 i, Value.int IntKind.i64 p, Value.int IntKind.i64 n] 30)) 0 0 0 0; simpa using this
  have S := right_any k i p n _ hs
  rw [hE] at S
  clear hE
  go_enter Tryz.func128, Tryz.ntmps128
  go_wp2_with (first
    | (go_at_call 169; refine (passed_any _ _).mono ?_; rintro e w' ⟨rfl, rfl⟩)
    | (go_at_call 170; refine (thunk_any _ _).mono ?_; rintro e w' ⟨rfl, rfl⟩)
    | (go_at_call 117; refine S.mono ?_; rintro e w1 ⟨rfl, B1⟩; have T1 := hs.later B1; have t0 : w1.cell? ⟨0, 46, none⟩ = some (.int .i64 0) := T1.a 9 (by decide); have G1 := G.later B1; have f0 := G1.free 0; have f1 := G1.free 1; have f2 := G1.free 2; have f3 := G1.free 3; obtain ⟨y0, y1, y2, y3⟩ := G1.at; obtain ⟨x0, x1, x2, x3⟩ := H.later B1))
  refine bodyPost_ret (v := .tuple #[head 9 0 0 (p + n), .int .i64 0]) (by simp [results, Tryz.results128, go_sem, y0, y1, y2, y3]) rfl ⟨rfl, ?_⟩
  exact ((((far2 B1).setCell (by simp) _).setCell (by simp) _).setCell (by simp) _).setCell (by simp) _


set_option maxHeartbeats 1000000 in
theorem over_t12 (k i p n : Int) (w : World) (h : Table w) (hE : rightE k i p n = 0) (b : thunkB k = true) (l : 1 ≤ p + n) :
    Calls Tryz.prog 128 #[head k i p n, .int .i64 12] w fun e w' => e = .returned (.tuple #[head 12 0 0 (p + n), .int .i64 0]) ∧ Below w.heap.size w w' := by
  have a : passB 12 = true := by decide
  have sm := right_small hE
  have hs : Table ((w.alloc (Obj.cells #[Value.int IntKind.i64 k, Value.int IntKind.i64 i, Value.int IntKind.i64 p, Value.int IntKind.i64 n] 30)).alloc (Obj.cells #[Value.int IntKind.i64 0, Value.int IntKind.i64 0, Value.int IntKind.i64 0, Value.int IntKind.i64 0] 30)) := h.later (by go_grown)
  have H : HeadAt ((w.alloc (Obj.cells #[Value.int IntKind.i64 k, Value.int IntKind.i64 i, Value.int IntKind.i64 p, Value.int IntKind.i64 n] 30)).alloc (Obj.cells #[Value.int IntKind.i64 0, Value.int IntKind.i64 0, Value.int IntKind.i64 0, Value.int IntKind.i64 0] 30)) w.heap.size k i p n := (HeadAt.fresh w k i p n).later (by go_grown)
  have G : Mine ((w.alloc (Obj.cells #[Value.int IntKind.i64 k, Value.int IntKind.i64 i, Value.int IntKind.i64 p, Value.int IntKind.i64 n] 30)).alloc (Obj.cells #[Value.int IntKind.i64 0, Value.int IntKind.i64 0, Value.int IntKind.i64 0, Value.int IntKind.i64 0] 30)) (w.heap.size + 1) 0 0 0 0 := by have := Mine.fresh (w.alloc (Obj.cells #[Value.int IntKind.i64 k, Value.int IntKind.i64 i, Value.int IntKind.i64 p, Value.int IntKind.i64 n] 30)) 0 0 0 0; simpa using this
  have S := right_any k i p n _ hs
  rw [hE] at S
  clear hE
  go_enter Tryz.func128, Tryz.ntmps128
  go_wp2_with (first
    | (go_at_call 169; refine (passed_any _ _).mono ?_; rintro e w' ⟨rfl, rfl⟩)
    | (go_at_call 170; refine (thunk_any _ _).mono ?_; rintro e w' ⟨rfl, rfl⟩)
    | (go_at_call 117; refine S.mono ?_; rintro e w1 ⟨rfl, B1⟩; have T1 := hs.later B1; have t0 : w1.cell? ⟨0, 61, none⟩ = some (.int .i64 0) := T1.a 12 (by decide); have G1 := G.later B1; have f0 := G1.free 0; have f1 := G1.free 1; have f2 := G1.free 2; have f3 := G1.free 3; obtain ⟨y0, y1, y2, y3⟩ := G1.at; obtain ⟨x0, x1, x2, x3⟩ := H.later B1))
  refine bodyPost_ret (v := .tuple #[head 12 0 0 (p + n), .int .i64 0]) (by simp [results, Tryz.results128, go_sem, y0, y1, y2, y3]) rfl ⟨rfl, ?_⟩
  exact ((((far2 B1).setCell (by simp) _).setCell (by simp) _).setCell (by simp) _).setCell (by simp) _


set_option maxHeartbeats 1000000 in
theorem over_h12 (k i p n : Int) (w : World) (h : Table w) (hE : rightE k i p n = 0) (b : thunkB k = false) (c : (k != 9) = false) (l : 1 ≤ p + n) :
    Calls Tryz.prog 128 #[head k i p n, .int .i64 12] w fun e w' => e = .returned (.tuple #[head 12 0 0 (p + n), .int .i64 0]) ∧ Below w.heap.size w w' := by
  have a : passB 12 = true := by decide
  have sm := right_small hE
  have hs : Table ((w.alloc (Obj.cells #[Value.int IntKind.i64 k, Value.int IntKind.i64 i, Value.int IntKind.i64 p, Value.int IntKind.i64 n] 30)).alloc (Obj.cells #[Value.int IntKind.i64 0, Value.int IntKind.i64 0, Value.int IntKind.i64 0, Value.int IntKind.i64 0] 30)) := h.later (by go_grown)
  have H : HeadAt ((w.alloc (Obj.cells #[Value.int IntKind.i64 k, Value.int IntKind.i64 i, Value.int IntKind.i64 p, Value.int IntKind.i64 n] 30)).alloc (Obj.cells #[Value.int IntKind.i64 0, Value.int IntKind.i64 0, Value.int IntKind.i64 0, Value.int IntKind.i64 0] 30)) w.heap.size k i p n := (HeadAt.fresh w k i p n).later (by go_grown)
  have G : Mine ((w.alloc (Obj.cells #[Value.int IntKind.i64 k, Value.int IntKind.i64 i, Value.int IntKind.i64 p, Value.int IntKind.i64 n] 30)).alloc (Obj.cells #[Value.int IntKind.i64 0, Value.int IntKind.i64 0, Value.int IntKind.i64 0, Value.int IntKind.i64 0] 30)) (w.heap.size + 1) 0 0 0 0 := by have := Mine.fresh (w.alloc (Obj.cells #[Value.int IntKind.i64 k, Value.int IntKind.i64 i, Value.int IntKind.i64 p, Value.int IntKind.i64 n] 30)) 0 0 0 0; simpa using this
  have S := right_any k i p n _ hs
  rw [hE] at S
  clear hE
  go_enter Tryz.func128, Tryz.ntmps128
  go_wp2_with (first
    | (go_at_call 169; refine (passed_any _ _).mono ?_; rintro e w' ⟨rfl, rfl⟩)
    | (go_at_call 170; refine (thunk_any _ _).mono ?_; rintro e w' ⟨rfl, rfl⟩)
    | (go_at_call 117; refine S.mono ?_; rintro e w1 ⟨rfl, B1⟩; have T1 := hs.later B1; have t0 : w1.cell? ⟨0, 61, none⟩ = some (.int .i64 0) := T1.a 12 (by decide); have G1 := G.later B1; have f0 := G1.free 0; have f1 := G1.free 1; have f2 := G1.free 2; have f3 := G1.free 3; obtain ⟨y0, y1, y2, y3⟩ := G1.at; obtain ⟨x0, x1, x2, x3⟩ := H.later B1))
  refine bodyPost_ret (v := .tuple #[head 12 0 0 (p + n), .int .i64 0]) (by simp [results, Tryz.results128, go_sem, y0, y1, y2, y3]) rfl ⟨rfl, ?_⟩
  exact ((((far2 B1).setCell (by simp) _).setCell (by simp) _).setCell (by simp) _).setCell (by simp) _


theorem over_any (k i p n t : Int) (w : World) (h : Table w) : OverSays 128 k i p n t w := by
  rcases Bool.eq_false_or_eq_true (passB t) with a | a
  · by_cases b : rightE k i p n = 0
    · by_cases c : thunkB k = false ∧ k ≠ 9
      · exact over_bad (by simp [overE, a, b, c]) (by decide) (over_none k i p n t w h a b c.1 (by simp [c.2]))
      · have hE : overE k i p n t = 0 := by simp only [overE, a, b, c]; simp
        refine over_ok hE ?_
        have l : 1 ≤ p + n := part_least b (by
          rcases Bool.eq_false_or_eq_true (thunkB k) with e | e
          · exact .inl e
          · right; by_cases k9 : k = 9
            · exact k9
            · exact absurd ⟨e, k9⟩ c)
        have T : (thunkB k = true) ∨ (thunkB k = false ∧ (k != 9) = false) := by
          rcases Bool.eq_false_or_eq_true (thunkB k) with e | e
          · exact .inl e
          · right; by_cases k9 : k = 9
            · exact ⟨e, by simp [k9]⟩
            · exact absurd ⟨e, k9⟩ c
        rcases passB_yes.1 a with rfl | rfl | rfl
        · rcases T with T | ⟨T, U⟩
          · exact over_t8 k i p n w h b T l
          · exact over_h8 k i p n w h b T U l
        · rw [show tA (9 : Int).toNat = 0 from rfl, Int.sub_zero]
          rcases T with T | ⟨T, U⟩
          · exact over_t9 k i p n w h b T l
          · exact over_h9 k i p n w h b T U l
        · rw [show tA (12 : Int).toNat = 0 from rfl, Int.sub_zero]
          rcases T with T | ⟨T, U⟩
          · exact over_t12 k i p n w h b T l
          · exact over_h12 k i p n w h b T U l
    · exact over_bad (by simp only [overE, a]; simp [b]) b (over_wrong k i p n t _ w h a rfl (by simp [b]))
  · exact over_bad (by simp [overE, a]) (by decide) (over_kind k i p n t w a)

/-- What Over answers is a header of the kind asked for, right, and of the size that was. -/
theorem over_stays {k i p n t : Int} (h : overE k i p n t = 0) :
    rightE (overK k i p n t) 0 (overP k i p n t) (overN k i p n t) = 0 ∧ sizeN (overK k i p n t) 0 (overP k i p n t) (overN k i p n t) = sizeN k i p n ∧ overK k i p n t = t := by
  have a : passB t = true := by
    rcases Bool.eq_false_or_eq_true (passB t) with a | a
    · exact a
    · simp [overE, a] at h
  have b : rightE k i p n = 0 := by
    by_cases b : rightE k i p n = 0
    · exact b
    · simp only [overE, a] at h; simp [b] at h
  have c : thunkB k = true ∨ k = 9 := by
    by_cases c : thunkB k = false ∧ k ≠ 9
    · simp [overE, a, b, c] at h
    · rcases Bool.eq_false_or_eq_true (thunkB k) with e | e
      · exact .inl e
      · right; by_cases k9 : k = 9
        · exact k9
        · exact absurd ⟨e, k9⟩ c
  have l := part_least b c
  have sm := right_small b
  have e1 : overK k i p n t = t := by simp [overK, h]
  have e2 : overP k i p n t = tA t.toNat := by simp [overP, h]
  have e3 : overN k i p n t = p + n - tA t.toNat := by simp [overN, h]
  have R : rightE t 0 (tA t.toNat) (p + n - tA t.toNat) = 0 := by
    rcases passB_yes.1 a with rfl | rfl | rfl
    · simp [rightE, kindB, partsB, infoB, hasB, tA, tB, tC, tD, tI]; omega
    · simp [rightE, kindB, partsB, infoB, hasB, tA, tB, tC, tD, tI]; omega
    · simp [rightE, kindB, partsB, infoB, hasB, tA, tB, tC, tD, tI]; omega
  refine ⟨by rw [e1, e2, e3]; exact R, ?_, e1⟩
  rw [e1, e2, e3]
  simp only [sizeN, R, b, if_true]
  omega
end Go.Proofs.YtbdoekffadmejaaGreatDoor.Sh
