/- Parts of trees; rows of whatever blocks. -/
import Derived.Test.YtofgnpehlheeiaaGreatDoorWake
namespace Go.Proofs.YtofgnpehlheeiaaGreatDoor
open Go.RowKit
set_option linter.unusedVariables false
set_option linter.unusedSimpArgs false

def bodyB : B → E
  | .mk _ _ _ x => x
def bodyA : A → E
  | .mk _ _ _ _ _ x => x
def kindA : A → Int
  | .mk k _ _ _ _ _ => k
def anyB : Nat → Prop := fun _ => True
theorem row_cell {w : World} {ok : Nat → Prop} {xs : List Value} {n : Nat} {ga : Option Addr} {cap : Nat} (h : IsRow w ok xs n (.slice ga n cap)) (hn : 0 < n) :
    ∃ g off, ga = some ⟨g, off, none⟩ ∧ ∀ j u, xs[j]? = some u → w.cell? ⟨g, off + j, none⟩ = some u := by
  obtain ⟨ga', cap', e, _, h⟩ := h
  cases e
  obtain ⟨g, off, rfl, _, hx⟩ := h hn
  exact ⟨g, off, rfl, hx⟩
theorem row_parts {w : World} {ok : Nat → Prop} {xs : List Value} {n : Nat} {v : Value} (h : IsRow w ok xs n v) : ∃ ga cap, v = .slice ga n cap ∧ n ≤ cap ∧ n ≤ 1000000000 := by
  obtain ⟨ga, cap, e, ⟨a, b⟩, _⟩ := h
  exact ⟨ga, cap, e, a, b⟩


end Go.Proofs.YtofgnpehlheeiaaGreatDoor
