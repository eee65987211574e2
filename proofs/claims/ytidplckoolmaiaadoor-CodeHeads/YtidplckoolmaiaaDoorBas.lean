/- What all texts of this seat use; the table of the primitives, and what is read from it. -/
import Derived.Test.YtidplckoolmaiaaDoorProg
import Derived.WalkKit
import Derived.Handy
import Derived.BigQuiet
import Derived.Deep.QuietTactic
import Derived.Below
import Derived.WalkMore
import Derived.Lib.SmallJoins
import Derived.Laws.AppendOwn
import Derived.KernelRfl
import Derived.OpenShut
namespace Go.Proofs.YtidplckoolmaiaaDoor
open Go.RowKit
set_option linter.unusedVariables false
set_option linter.unusedSimpArgs false

theorem retInt {k : IntKind} {a b : Int} (h : a = b) : Ending.returned (.int k a) = .returned (.int k b) := by rw [h]
theorem retBool {a b : Bool} (h : a = b) : Ending.returned (.bool a) = .returned (.bool b) := by rw [h]
structure Hid (p : Prop) : Prop where
  out : p
def intOf : Value → Int
  | .int _ n => n
  | _ => 0
def str (l : List UInt8) : ByteArray := ⟨l.toArray⟩
theorem belowOn {w wr w' : World} (B : Below w.heap.size w wr) (h : Below wr.heap.size wr w') : Below w.heap.size w w' := B.trans (h.mono B.size)
def tN : Nat → List UInt8 | 1 => [35, 97, 100, 100] | 2 => [35, 115, 117, 98] | 3 => [35, 109, 117, 108] | 4 => [35, 100, 105, 118] | 5 => [35, 114, 101, 109] | 6 => [35, 101, 113] | 7 => [35, 108, 116] | 8 => [35, 101, 109, 105, 116] | 9 => [35, 115, 101, 113] | 10 => [35, 114, 101, 102] | 11 => [35, 103, 101, 116] | 12 => [35, 115, 101, 116] | 13 => [35, 97, 114, 114] | 14 => [35, 97, 116] | 15 => [35, 112, 117, 116] | 16 => [35, 108, 101, 110] | _ => []
def tA : Nat → Int | 1 => 2 | 2 => 2 | 3 => 2 | 4 => 2 | 5 => 2 | 6 => 2 | 7 => 2 | 8 => 1 | 9 => 2 | 10 => 1 | 11 => 1 | 12 => 2 | 13 => 2 | 14 => 2 | 15 => 3 | 16 => 1 | _ => 0
def tB : Nat → Int | 1 => 2 | 2 => 2 | 3 => 2 | 4 => 2 | 5 => 2 | 6 => 2 | 7 => 2 | 8 => 2 | 9 => 1 | 11 => 3 | 12 => 3 | 13 => 2 | 14 => 4 | 15 => 4 | 16 => 4 | _ => 0
def tC : Nat → Int | 1 => 2 | 2 => 2 | 3 => 2 | 4 => 2 | 5 => 2 | 6 => 2 | 7 => 2 | 14 => 2 | 15 => 2 | _ => 0

/-- the row of a number: its own, or that of none -/
def rowN (n : Int) : Nat := if 0 ≤ n ∧ n ≤ 16 then n.toNat else 0
theorem rowN_in {k : Nat} (h : k < 17) : rowN k = k := by unfold rowN; rw [if_pos (by omega)]; omega
theorem rowN_out {n : Int} (h : ¬ (0 ≤ n ∧ n ≤ 16)) : rowN n = 0 := if_neg h
theorem rowN_lt (n : Int) : rowN n < 17 := by unfold rowN; split <;> omega
theorem split17 {P : Int → Prop} (n : Int) (hin : ∀ k : Nat, k < 17 → P k) (hout : ¬ (0 ≤ n ∧ n ≤ 16) → P n) : P n := by
  by_cases h : 0 ≤ n ∧ n ≤ 16
  · have := hin n.toNat (by omega)
    rwa [Int.toNat_of_nonneg h.1] at this
  · exact hout h

set_option maxHeartbeats 1000000 in
set_option maxHeartbeats 1000000 in
theorem refArityP_in (k : Nat) (hk : k < 17) (w : World) : Calls Tryd.prog 37 #[.int .i64 k] w fun e w' => e = .returned (.int .i64 (tA k)) ∧ w' = w := by
  have c : k = 0 ∨ k = 1 ∨ k = 2 ∨ k = 3 ∨ k = 4 ∨ k = 5 ∨ k = 6 ∨ k = 7 ∨ k = 8 ∨ k = 9 ∨ k = 10 ∨ k = 11 ∨ k = 12 ∨ k = 13 ∨ k = 14 ∨ k = 15 ∨ k = 16 := by omega
  rcases c with rfl | rfl | rfl | rfl | rfl | rfl | rfl | rfl | rfl | rfl | rfl | rfl | rfl | rfl | rfl | rfl | rfl
  · go_enter Tryd.func37, Tryd.ntmps37
    go_wp2
    go_ret
    exact ⟨rfl, rfl⟩
  · go_enter Tryd.func37, Tryd.ntmps37
    go_wp2
    go_ret
    exact ⟨rfl, rfl⟩
  · go_enter Tryd.func37, Tryd.ntmps37
    go_wp2
    go_ret
    exact ⟨rfl, rfl⟩
  · go_enter Tryd.func37, Tryd.ntmps37
    go_wp2
    go_ret
    exact ⟨rfl, rfl⟩
  · go_enter Tryd.func37, Tryd.ntmps37
    go_wp2
    go_ret
    exact ⟨rfl, rfl⟩
  · go_enter Tryd.func37, Tryd.ntmps37
    go_wp2
    go_ret
    exact ⟨rfl, rfl⟩
  · go_enter Tryd.func37, Tryd.ntmps37
    go_wp2
    go_ret
    exact ⟨rfl, rfl⟩
  · go_enter Tryd.func37, Tryd.ntmps37
    go_wp2
    go_ret
    exact ⟨rfl, rfl⟩
  · go_enter Tryd.func37, Tryd.ntmps37
    go_wp2
    go_ret
    exact ⟨rfl, rfl⟩
  · go_enter Tryd.func37, Tryd.ntmps37
    go_wp2
    go_ret
    exact ⟨rfl, rfl⟩
  · go_enter Tryd.func37, Tryd.ntmps37
    go_wp2
    go_ret
    exact ⟨rfl, rfl⟩
  · go_enter Tryd.func37, Tryd.ntmps37
    go_wp2
    go_ret
    exact ⟨rfl, rfl⟩
  · go_enter Tryd.func37, Tryd.ntmps37
    go_wp2
    go_ret
    exact ⟨rfl, rfl⟩
  · go_enter Tryd.func37, Tryd.ntmps37
    go_wp2
    go_ret
    exact ⟨rfl, rfl⟩
  · go_enter Tryd.func37, Tryd.ntmps37
    go_wp2
    go_ret
    exact ⟨rfl, rfl⟩
  · go_enter Tryd.func37, Tryd.ntmps37
    go_wp2
    go_ret
    exact ⟨rfl, rfl⟩
  · go_enter Tryd.func37, Tryd.ntmps37
    go_wp2
    go_ret
    exact ⟨rfl, rfl⟩

set_option maxHeartbeats 1000000 in
theorem refArityP_out (n : Int) (h : ¬ (0 ≤ n ∧ n ≤ 16)) (w : World) : Calls Tryd.prog 37 #[.int .i64 n] w fun e w' => e = .returned (.int .i64 0) ∧ w' = w := by
  by_cases a : n < 1
  · go_enter Tryd.func37, Tryd.ntmps37
    go_wp2
    go_ret
    exact ⟨rfl, rfl⟩
  · have b : 16 < n := by omega
    go_enter Tryd.func37, Tryd.ntmps37
    go_wp2
    go_ret
    exact ⟨rfl, rfl⟩
theorem refArityP_any (n : Int) (w : World) : Calls Tryd.prog 37 #[.int .i64 n] w fun e w' => e = .returned (.int .i64 (tA (rowN n))) ∧ w' = w := by
  refine split17 (P := fun n => Calls Tryd.prog 37 #[.int .i64 n] w fun e w' => e = .returned (.int .i64 (tA (rowN n))) ∧ w' = w) n (fun k hk => ?_) (fun h => ?_)
  · rw [rowN_in hk]; exact refArityP_in k hk w
  · rw [rowN_out h]; exact refArityP_out n h w



theorem eq_yes {t s : ByteArray} (h : t = s) : (t.toList == s.toList) = true := by subst h; simp
theorem eq_no {t s : ByteArray} (h : t ≠ s) : (t.toList == s.toList) = false := by
  rw [ByteArray.toList_eq, ByteArray.toList_eq]
  exact beq_eq_false_iff_ne.2 fun e => h (Go.WideShapes.bytes_inj e)

def rowL (k : Nat) : List Value := [.string (str (tN k)), .int .i64 (tA k), .int .i64 (tB k), .int .i64 (tC k), .int .i64 0]
def tabL : List Value := (List.range 17).flatMap rowL
def tabC : Array Value := tabL.toArray
/-- The table, whole and cell by cell. -/
structure Table (w : World) : Prop where
  blk : ∃ t fr, w.heap[0]? = some (.cells tabC t fr)
  n : ∀ k, k < 17 → w.cell? ⟨0, k * 5, none⟩ = some (.string (str (tN k)))
  a : ∀ k, k < 17 → w.cell? ⟨0, k * 5 + 1, none⟩ = some (.int .i64 (tA k))
  b : ∀ k, k < 17 → w.cell? ⟨0, k * 5 + 2, none⟩ = some (.int .i64 (tB k))
  c : ∀ k, k < 17 → w.cell? ⟨0, k * 5 + 3, none⟩ = some (.int .i64 (tC k))
  d : ∀ k, k < 17 → w.cell? ⟨0, k * 5 + 4, none⟩ = some (.int .i64 0)
theorem Table.later {w w' : World} (h : Table w) (hb : Below w.heap.size w w') : Table w' := by
  have z : 0 < w.heap.size := World.block_lt_of_cell? _ _ (h.n 0 (by decide))
  have k : ∀ o, w'.cell? ⟨0, o, none⟩ = w.cell? ⟨0, o, none⟩ := fun o => hb.cell (p := ⟨0, o, none⟩) z
  obtain ⟨t, fr, hf⟩ := h.blk
  exact ⟨⟨t, fr, (hb.block _ z).trans hf⟩, fun j hj => (k _).trans (h.n j hj), fun j hj => (k _).trans (h.a j hj), fun j hj => (k _).trans (h.b j hj), fun j hj => (k _).trans (h.c j hj), fun j hj => (k _).trans (h.d j hj)⟩

theorem size36 : (Tryd.prog.info? 104).map (·.size) = some 5 := by kernel_rfl
abbrev rowV (s : ByteArray) (a b c : Int) : Value := .agg #[.string s, .int .i64 a, .int .i64 b, .int .i64 c, .int .i64 0]
def rowK (k : Nat) : Value := rowV (str (tN k)) (tA k) (tB k) (tC k)

set_option maxHeartbeats 1000000 in
theorem rowOf_out (n : Int) (w : World) (h : Table w) (o : ¬ (0 ≤ n ∧ n ≤ 16)) :
    Calls Tryd.prog 73 #[.int .i64 n] w fun e w' => e = .returned (rowK 0) ∧ Below w.heap.size w w' := by
  have hs : Table (w.alloc (Obj.cells #[Value.string { data := #[] }, Value.int IntKind.i64 0, Value.int IntKind.i64 0, Value.int IntKind.i64 0, Value.int IntKind.i64 0] 104)) := h.later (by go_grown)
  have z0 := hs.n 0 (by decide)
  have z1 := hs.a 0 (by decide)
  have z2 := hs.b 0 (by decide)
  have z3 := hs.c 0 (by decide)
  have z4 := hs.d 0 (by decide)
  clear hs
  by_cases a : n < 0
  · go_enter Tryd.func73, Tryd.ntmps73
    go_wp2
    exact bodyPost_ret (results_cell_row Tryd.results73 _ _ w.heap.size 104 #[.string (str []), .int .i64 0, .int .i64 0, .int .i64 0, .int .i64 0] (0, 0) _ rfl (heap_alloc_new _ _) Tryd.underlying104 rfl size36) rfl ⟨rfl, by go_grown⟩
  · have b : 17 ≤ n := by omega
    go_enter Tryd.func73, Tryd.ntmps73
    go_wp2
    exact bodyPost_ret (results_cell_row Tryd.results73 _ _ w.heap.size 104 #[.string (str []), .int .i64 0, .int .i64 0, .int .i64 0, .int .i64 0] (0, 0) _ rfl (heap_alloc_new _ _) Tryd.underlying104 rfl size36) rfl ⟨rfl, by go_grown⟩
set_option maxHeartbeats 1000000 in
theorem rowOf_in (k : Nat) (w : World) (h : Table w) (hk : k < 17) :
    Calls Tryd.prog 73 #[.int .i64 k] w fun e w' => e = .returned (rowK k) ∧ Below w.heap.size w w' := by
  have R : Hid (rowK k = rowV (str (tN k)) (tA k) (tB k) (tC k)) := ⟨rfl⟩
  obtain ⟨s, hs⟩ : ∃ x, str (tN k) = x := ⟨_, rfl⟩
  obtain ⟨ta, hta⟩ : ∃ x, tA k = x := ⟨_, rfl⟩
  obtain ⟨tb, htb⟩ : ∃ x, tB k = x := ⟨_, rfl⟩
  obtain ⟨tc, htc⟩ : ∃ x, tC k = x := ⟨_, rfl⟩
  have ht : Table (w.alloc (Obj.cells #[Value.string { data := #[] }, Value.int IntKind.i64 0, Value.int IntKind.i64 0, Value.int IntKind.i64 0, Value.int IntKind.i64 0] 104)) := h.later (by go_grown)
  have z0 := ht.n k hk
  have z1 := ht.a k hk
  have z2 := ht.b k hk
  have z3 := ht.c k hk
  have z4 := ht.d k hk
  rw [hs, hta, htb, htc] at R
  rw [hs] at z0
  rw [hta] at z1
  rw [htb] at z2
  rw [htc] at z3
  clear hs hta htb htc ht
  go_enter Tryd.func73, Tryd.ntmps73
  go_wp2
  rw [R.out]
  exact bodyPost_ret (results_cell_row Tryd.results73 _ _ w.heap.size 104 #[.string s, .int .i64 ta, .int .i64 tb, .int .i64 tc, .int .i64 0] (0, 0) _ rfl (heap_alloc_new _ _) Tryd.underlying104 rfl size36) rfl ⟨rfl, by go_grown⟩
theorem rowOf_any (n : Int) (w : World) (h : Table w) : Calls Tryd.prog 73 #[.int .i64 n] w fun e w' => e = .returned (rowK (rowN n)) ∧ Below w.heap.size w w' := by
  refine split17 (P := fun n => Calls Tryd.prog 73 #[.int .i64 n] w fun e w' => e = .returned (rowK (rowN n)) ∧ Below w.heap.size w w') n (fun k hk => ?_) (fun o => ?_)
  · rw [rowN_in hk]; exact rowOf_in k w h hk
  · rw [rowN_out o]; exact rowOf_out n w h o
theorem rowOf_parts (n : Int) (w : World) (h : Table w) : Calls Tryd.prog 73 #[.int .i64 n] w fun e w' => e = .returned (rowV (str (tN (rowN n))) (tA (rowN n)) (tB (rowN n)) (tC (rowN n))) ∧ Below w.heap.size w w' := rowOf_any n w h

theorem fld0 (s : ByteArray) (a b c : Int) (w : World) : Sem.run Tryd.prog (Instr.field 104 (rowV s a b c) 0) w = .ok (.string s) w := by kernel_rfl
theorem fld1 (s : ByteArray) (a b c : Int) (w : World) : Sem.run Tryd.prog (Instr.field 104 (rowV s a b c) 1) w = .ok (.int .i64 a) w := by kernel_rfl
theorem arity_any (n : Int) (w : World) (h : Table w) : Calls Tryd.prog 62 #[.int .i64 n] w fun e w' => e = .returned (.int .i64 (tA (rowN n))) ∧ Below w.heap.size w w' := by
  have C := rowOf_parts n w h
  generalize str (tN (rowN n)) = s at *
  generalize tA (rowN n) = ta at *
  generalize tB (rowN n) = tb at *
  generalize tC (rowN n) = tc at *
  have F := fld1 s ta tb tc
  go_enter Tryd.func62, Tryd.ntmps62
  go_wp2_with (go_at_call 73; refine C.mono ?_; rintro e w' ⟨rfl, B⟩)
  go_ret
  exact ⟨rfl, B⟩

theorem name_any (n : Int) (w : World) (h : Table w) : Calls Tryd.prog 66 #[.int .i64 n] w fun e w' => e = .returned (.string (str (tN (rowN n)))) ∧ Below w.heap.size w w' := by
  have C := rowOf_parts n w h
  generalize str (tN (rowN n)) = s at *
  generalize tA (rowN n) = ta at *
  generalize tB (rowN n) = tb at *
  generalize tC (rowN n) = tc at *
  have F := fld0 s ta tb tc
  go_enter Tryd.func66, Tryd.ntmps66
  go_wp2_with (go_at_call 73; refine C.mono ?_; rintro e w' ⟨rfl, B⟩)
  go_ret
  exact ⟨rfl, B⟩

end Go.Proofs.YtidplckoolmaiaaDoor
