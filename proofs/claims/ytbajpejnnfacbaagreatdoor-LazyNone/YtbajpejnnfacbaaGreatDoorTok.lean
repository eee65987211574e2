/- Tokens as values; what the calls read of the library's variables; a word, a number, a sign. -/
import Derived.Test.YtbajpejnnfacbaaGreatDoorPast
import Derived.WalkMore
import Derived.Lib.SmallJoins
namespace Go.Proofs.YtbajpejnnfacbaaGreatDoor
open Go.RowKit
set_option linter.unusedVariables false

def str (l : List UInt8) : ByteArray := ⟨l.toArray⟩
theorem str_eq {s : ByteArray} {l : List UInt8} (h : s.data.toList = l) : s = str l := by
  subst h; rfl
theorem str_list (l : List UInt8) : (str l).data.toList = l := by simp [str]
theorem str_size (l : List UInt8) : (str l).size = l.length := by simp [str, ByteArray.size]

/-- A token as a value. -/
def tokV (k : Int) (t : ByteArray) (n a : Int) : Value := .agg #[.int .i64 k, .string t, .int .i64 n, .int .i64 a]
theorem far1 {w w' : World} {o : Obj} (h : Below (w.alloc o).heap.size (w.alloc o) w') : Below w.heap.size w w' := (Joins.below_alloc1 w o).trans (Joins.below_le h (by simp))

/-- What reading a token answers. -/
def readV (r : Except Int Tk) (a : Nat) : Value :=
  match r with
  | .ok t => .tuple #[tokV t.kind (str t.text) t.num a, .int .i64 ((a + t.len : Nat) : Int), .int .i64 0]
  | .error e => .tuple #[tokV 0 ⟨#[]⟩ 0 0, .int .i64 0, .int .i64 e]
def wordR (k : Int) (t : List UInt8) : Except Int Tk := if 32 < t.length then .error 21 else .ok ⟨k, t, 0, t.length⟩
def numR (t : List UInt8) : Except Int Tk := match numOf t with
  | some v => .ok ⟨4, [], v, t.length⟩
  | none => .error 22

theorem size_list (t : ByteArray) : t.data.toList.length = t.size := by simp

end Go.Proofs.YtbajpejnnfacbaaGreatDoor
