/- Just one token; Word. -/
import Derived.Test.YtoedeedoecdajaaDoorReads
namespace Go.Proofs.YtoedeedoecdajaaDoor
open Go.RowKit
set_option linter.unusedVariables false

/-- Is a list just one token of a kind? -/
def justT (l : List UInt8) (kind : Int) : Bool :=
  match readT l with
  | .ok t => decide (t.kind = kind) && decide (t.len = l.length)
  | .error _ => false
theorem readT_err {l : List UInt8} {e : Int} (h : readT l = .error e) : e = 20 ∨ e = 21 ∨ e = 22 := by
  unfold readT at h
  split at h
  · split at h
    · cases h; exact .inr (.inl rfl)
    · cases h
  · rename_i e' he
    cases h
    unfold one at he
    split at he
    · cases he; exact .inl rfl
    · simp only at he
      repeat' split at he
      all_goals first | (cases he; first | exact .inl rfl | exact .inr (.inr rfl)) | cases he

def wordB (l : List UInt8) (kind : Int) : Bool := (decide (kind = 1) || (decide (kind = 2) || decide (kind = 3))) && justT l kind
end Go.Proofs.YtoedeedoecdajaaDoor
