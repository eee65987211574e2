/- The contracts of the functions that look at one byte: package lex's and the document's own. -/
import Derived.Test.YtbajpejnnfacbaaGreatDoorProg
import Derived.Test.YtbajpejnnfacbaaGreatDoorPure
import Derived.WalkKit
import Derived.Handy
import Derived.BigQuiet
import Derived.Deep.QuietTactic
namespace Go.Proofs.YtbajpejnnfacbaaGreatDoor
open Go.RowKit

theorem retInt {k : IntKind} {a b : Int} (h : a = b) : Ending.returned (.int k a) = .returned (.int k b) := by rw [h]
theorem retBool {a b : Bool} (h : a = b) : Ending.returned (.bool a) = .returned (.bool b) := by rw [h]
theorem rn_split (n : Int) : rn n = (sm n || (gr n || (dg n || decide (n = 95)))) := by
  simp only [rn, sm, gr, dg, Bool.decide_or]

end Go.Proofs.YtbajpejnnfacbaaGreatDoor
