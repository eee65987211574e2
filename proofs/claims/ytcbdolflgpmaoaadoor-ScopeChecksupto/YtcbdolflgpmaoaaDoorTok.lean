/- The contracts of the functions that look at one byte: package lex's and the document's own. -/
import Derived.Test.YtcbdolflgpmaoaaDoorProg
import Derived.Test.YtcbdolflgpmaoaaDoorPure
import Derived.WalkKit
import Derived.Handy
import Derived.BigQuiet
import Derived.Deep.QuietTactic
import Derived.Below
import Derived.WalkMore
import Derived.Lib.SmallJoins
namespace Go.Proofs.YtcbdolflgpmaoaaDoor
open Go.RowKit

theorem retInt {k : IntKind} {a b : Int} (h : a = b) : Ending.returned (.int k a) = .returned (.int k b) := by rw [h]
theorem retBool {a b : Bool} (h : a = b) : Ending.returned (.bool a) = .returned (.bool b) := by rw [h]
theorem rn_split (n : Int) : rn n = (sm n || (gr n || (dg n || decide (n = 95)))) := by
  simp only [rn, sm, gr, dg, Bool.decide_or]

theorem rsmall_any (n : Int) (w : World) : Calls Tryd.prog 57 #[.int .u8 n] w fun e w' => e = .returned (.bool (sm n)) ∧ w' = w := by
  by_cases h1 : 97 ≤ n
  · by_cases h2 : n ≤ 122
    · go_enter Tryd.func57, Tryd.ntmps57; go_wp2; go_ret; exact ⟨retBool (by simp [sm, *]), rfl⟩
    · go_enter Tryd.func57, Tryd.ntmps57; go_wp2; go_ret; exact ⟨retBool (by simp [sm, *]), rfl⟩
  · go_enter Tryd.func57, Tryd.ntmps57; go_wp2; go_ret; exact ⟨retBool (by simp [sm]; omega), rfl⟩
theorem rlarge_any (n : Int) (w : World) : Calls Tryd.prog 59 #[.int .u8 n] w fun e w' => e = .returned (.bool (gr n)) ∧ w' = w := by
  by_cases h1 : 65 ≤ n
  · by_cases h2 : n ≤ 90
    · go_enter Tryd.func59, Tryd.ntmps59; go_wp2; go_ret; exact ⟨retBool (by simp [gr, *]), rfl⟩
    · go_enter Tryd.func59, Tryd.ntmps59; go_wp2; go_ret; exact ⟨retBool (by simp [gr, *]), rfl⟩
  · go_enter Tryd.func59, Tryd.ntmps59; go_wp2; go_ret; exact ⟨retBool (by simp [gr]; omega), rfl⟩
theorem rdigit_any (n : Int) (w : World) : Calls Tryd.prog 60 #[.int .u8 n] w fun e w' => e = .returned (.bool (dg n)) ∧ w' = w := by
  by_cases h1 : 48 ≤ n
  · by_cases h2 : n ≤ 57
    · go_enter Tryd.func60, Tryd.ntmps60; go_wp2; go_ret; exact ⟨retBool (by simp [dg, *]), rfl⟩
    · go_enter Tryd.func60, Tryd.ntmps60; go_wp2; go_ret; exact ⟨retBool (by simp [dg, *]), rfl⟩
  · go_enter Tryd.func60, Tryd.ntmps60; go_wp2; go_ret; exact ⟨retBool (by simp [dg]; omega), rfl⟩
theorem rblank_any (n : Int) (w : World) : Calls Tryd.prog 55 #[.int .u8 n] w fun e w' => e = .returned (.bool (bl n)) ∧ w' = w := by
  by_cases h9 : n = 9
  · go_enter Tryd.func55, Tryd.ntmps55; go_wp2; go_ret; exact ⟨retBool (by simp [bl, *]), rfl⟩
  by_cases h10 : n = 10
  · go_enter Tryd.func55, Tryd.ntmps55; go_wp2; go_ret; exact ⟨retBool (by simp [bl, *]), rfl⟩
  by_cases h13 : n = 13
  · go_enter Tryd.func55, Tryd.ntmps55; go_wp2; go_ret; exact ⟨retBool (by simp [bl, *]), rfl⟩
  by_cases h32 : n = 32
  · go_enter Tryd.func55, Tryd.ntmps55; go_wp2; go_ret; exact ⟨retBool (by simp [bl, *]), rfl⟩
  go_enter Tryd.func55, Tryd.ntmps55; go_wp2; go_ret; exact ⟨retBool (by simp [bl, *]), rfl⟩
end Go.Proofs.YtcbdolflgpmaoaaDoor

/- The contracts of the functions that go past bytes of a kind, blanks and remarks. -/
namespace Go.Proofs.YtcbdolflgpmaoaaDoor
open Go.RowKit
set_option linter.unusedVariables false

structure Hid (p : Prop) : Prop where
  out : p
def intOf : Value → Int
  | .int _ n => n
  | _ => 0

theorem get_list (s : ByteArray) (k : Nat) (h : k < s.size) : s.data.toList.drop k = s[k]'h :: s.data.toList.drop (k + 1) := by
  have h' : k < s.data.toList.length := by simpa using h
  rw [List.drop_eq_getElem_cons h']
  rfl
theorem run_step (p : Int → Bool) (s : ByteArray) (k : Nat) (h : k < s.size) : runN p (s.data.toList.drop k) = if p ((s[k]'h).toNat) then runN p (s.data.toList.drop (k + 1)) + 1 else 0 := by
  rw [get_list s k h]
  rfl

end Go.Proofs.YtcbdolflgpmaoaaDoor

/- Tokens as values; what the calls read of the library's variables; a word, a number, a sign. -/
namespace Go.Proofs.YtcbdolflgpmaoaaDoor
open Go.RowKit
set_option linter.unusedVariables false

def str (l : List UInt8) : ByteArray := ⟨l.toArray⟩
theorem str_eq {s : ByteArray} {l : List UInt8} (h : s.data.toList = l) : s = str l := by
  subst h; rfl
theorem str_list (l : List UInt8) : (str l).data.toList = l := by simp [str]
theorem str_size (l : List UInt8) : (str l).size = l.length := by simp [str, ByteArray.size]

/-- A token as a value. -/
def tokV (k : Int) (t : ByteArray) (n a : Int) : Value := .agg #[.int .i64 k, .string t, .int .i64 n, .int .i64 a]
/-- A token of one's own in a block. -/
def Tk4 (w : World) (b : Nat) (k : Int) (t : ByteArray) (n a : Int) : Prop := w.heap[b]? = some (.cells #[.int .i64 k, .string t, .int .i64 n, .int .i64 a] 70 (0, 0))
theorem Tk4.later {w w' : World} {b : Nat} {k : Int} {t : ByteArray} {n a : Int} (h : Tk4 w b k t n a) (hb : Below w.heap.size w w') : Tk4 w' b k t n a :=
  (hb.block b (Array.getElem?_eq_some_iff.1 h).1).trans h
theorem Tk4.free {w : World} {b : Nat} {k : Int} {t : ByteArray} {n a : Int} (h : Tk4 w b k t n a) (j : Nat) : w.frozen? ⟨b, j, none⟩ = false := Joins.unfrozen_of_block h j
theorem Tk4.at {w : World} {b : Nat} {k : Int} {t : ByteArray} {n a : Int} (h : Tk4 w b k t n a) :
    w.cell? ⟨b, 0, none⟩ = some (.int .i64 k) ∧ w.cell? ⟨b, 1, none⟩ = some (.string t) ∧ w.cell? ⟨b, 2, none⟩ = some (.int .i64 n) ∧ w.cell? ⟨b, 3, none⟩ = some (.int .i64 a) :=
  ⟨by rw [Joins.cell_of_block h]; rfl, by rw [Joins.cell_of_block h]; rfl, by rw [Joins.cell_of_block h]; rfl, by rw [Joins.cell_of_block h]; rfl⟩
theorem Tk4.fresh (w : World) (k : Int) (t : ByteArray) (n a : Int) : Tk4 (w.alloc (Obj.cells #[.int .i64 k, .string t, .int .i64 n, .int .i64 a] 70)) w.heap.size k t n a := heap_alloc_new w _

theorem far1 {w w' : World} {o : Obj} (h : Below (w.alloc o).heap.size (w.alloc o) w') : Below w.heap.size w w' := (Joins.below_alloc1 w o).trans (Joins.below_le h (by simp))

/-- What reading a token answers. -/
def readV (r : Except Int Tk) (a : Nat) : Value :=
  match r with
  | .ok t => .tuple #[tokV t.kind (str t.text) t.num a, .int .i64 ((a + t.len : Nat) : Int), .int .i64 0]
  | .error e => .tuple #[tokV 0 ⟨#[]⟩ 0 0, .int .i64 0, .int .i64 e]
def wordR (k : Int) (t : List UInt8) : Except Int Tk := if 32 < t.length then .error 21 else .ok ⟨k, t, 0, t.length⟩
def numR (t : List UInt8) : Except Int Tk := match numOf t with
  | some v => .ok ⟨4, [], v, t.length⟩
  | none => .error 22

theorem size_list (t : ByteArray) : t.data.toList.length = t.size := by simp

end Go.Proofs.YtcbdolflgpmaoaaDoor
