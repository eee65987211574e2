/- The contracts of the functions that go past bytes of a kind, blanks and remarks. -/
import Derived.Test.YtbajpejnnfacbaaGreatDoorChars
import Derived.Below
namespace Go.Proofs.YtbajpejnnfacbaaGreatDoor
open Go.RowKit
set_option linter.unusedVariables false

structure Hid (p : Prop) : Prop where
  out : p
def intOf : Value → Int
  | .int _ n => n
  | _ => 0

theorem get_list (s : ByteArray) (k : Nat) (h : k < s.size) : s.data.toList.drop k = s[k]'h :: s.data.toList.drop (k + 1) := by
  have h' : k < s.data.toList.length := by simpa using h
  rw [List.drop_eq_getElem_cons h']
  rfl
theorem run_step (p : Int → Bool) (s : ByteArray) (k : Nat) (h : k < s.size) : runN p (s.data.toList.drop k) = if p ((s[k]'h).toNat) then runN p (s.data.toList.drop (k + 1)) + 1 else 0 := by
  rw [get_list s k h]
  rfl

end Go.Proofs.YtbajpejnnfacbaaGreatDoor
