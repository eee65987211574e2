/- Lists that are built one item at a time: what stays of the items that are there. -/
import Derived.Test.YtoedeedoecdajaaDoorForms
namespace Go.Proofs.YtoedeedoecdajaaDoor
open Go.RowKit
set_option linter.unusedVariables false

/-- blocks behind X that are not the row's own -/
def inn (X : Nat) (w : World) (v : Value) : Nat → Prop := fun g => X < g ∧ g < w.heap.size ∧ v.ownBlock ≠ some g
theorem keeps_old {W W1 W2 : World} {b X g cap m j : Nat} {v u : Value} {o : Obj} (F : Fr b W W1) (hb : b ≤ X) (G : (W1.alloc o).grownBy W2 v.ownBlock) (hat : v.ownBlock = some g ∨ g = (W1.alloc o).heap.size) :
    Keeps (inn X W v) (inn X (W2.setCell ⟨X, j, none⟩ u) (.slice (some ⟨g, 0, none⟩) m cap)) W (W2.setCell ⟨X, j, none⟩ u) := by
  have s1 := F.size
  have s2 := G.size
  rw [World.size_alloc] at s2 hat
  refine ⟨fun q off c hq hc => ?_, fun q hq => ⟨hq.1, ?_, fun e => ?_⟩⟩
  · have h1 := F.cell hc (fun e => by have e' : q = b := Option.some.inj e; have := hq.1; omega)
    have h2 := (grown_alloc W1 o).cell h1 (fun e => by cases e)
    have h3 := G.cell h2 (fun e => hq.2.2 e.symm)
    have hqX : X ≠ q := by have := hq.1; omega
    rw [set_other (block_ne hqX)]
    exact h3
  · rw [World.size_setCell]
    have := hq.2.1
    omega
  · simp only [Value.ownBlock, Option.some.injEq] at e
    subst e
    rcases hat with z | z
    · exact hq.2.2 z
    · have := hq.2.1
      omega
theorem keeps_new {Wc W1 W2 : World} {X g cap m j : Nat} {v u : Value} {o : Obj} (hv : ∀ i, v.ownBlock = some i → i < Wc.heap.size) (hX : X < Wc.heap.size) (hc : Wc.heap.size ≤ W1.heap.size) (G : (W1.alloc o).grownBy W2 v.ownBlock) (hat : v.ownBlock = some g ∨ g = (W1.alloc o).heap.size) :
    Keeps (new Wc W1) (inn X (W2.setCell ⟨X, j, none⟩ u) (.slice (some ⟨g, 0, none⟩) m cap)) W1 (W2.setCell ⟨X, j, none⟩ u) := by
  have s2 := G.size
  rw [World.size_alloc] at s2 hat
  refine ⟨fun q off c hq hc => ?_, fun q hq => ⟨by have := hq.1; omega, ?_, fun e => ?_⟩⟩
  · have h2 := (grown_alloc W1 o).cell hc (fun e => by cases e)
    have h3 := G.cell h2 (fun e => by have := hv q e.symm; have := hq.1; omega)
    have hqX : X ≠ q := by have := hq.1; omega
    rw [set_other (block_ne hqX)]
    exact h3
  · rw [World.size_setCell]
    have := hq.2
    omega
  · simp only [Value.ownBlock, Option.some.injEq] at e
    subst e
    rcases hat with z | z
    · have := hv g z
      have := hq.1
      omega
    · have := hq.2
      omega
theorem keeps_other {W W1 W2 : World} {b X j : Nat} {v u : Value} {o : Obj} (F : Fr b W W1) (hb : b ≤ X) (G : (W1.alloc o).grownBy W2 none) : Keeps (inn X W v) (inn X (W2.setCell ⟨X, j, none⟩ u) v) W (W2.setCell ⟨X, j, none⟩ u) := by
  have s1 := F.size
  have s2 := G.size
  rw [World.size_alloc] at s2
  refine ⟨fun q off c hq hc => ?_, fun q hq => ⟨hq.1, by rw [World.size_setCell]; have := hq.2.1; omega, hq.2.2⟩⟩
  have h1 := F.cell hc (fun e => by have e' : q = b := Option.some.inj e; have := hq.1; omega)
  have h2 := (grown_alloc W1 o).cell h1 (fun e => by cases e)
  have h3 := G.cell h2 (fun e => by cases e)
  have hqX : X ≠ q := by have := hq.1; omega
  rw [set_other (block_ne hqX)]
  exact h3
theorem own_none {w w' : World} {base size n : Nat} {e : TypeId} {v : Value} {xs : List Value} (h : w.ownsRow base e size v n xs) (G : w.grownBy w' none) : w'.ownsRow base e size v n xs :=
  h.kept G (by
    rcases hv : v.ownBlock with _ | k
    · exact .inl rfl
    · exact .inr (fun q => by cases q))
/-- behind a call or an alloc -/
theorem keeps_inn {W W1 : World} {b X : Nat} {v : Value} (F : Fr b W W1) (hb : b ≤ X) : Keeps (inn X W v) (inn X W1 v) W W1 :=
  ⟨fun q off c hq hc => F.cell hc (fun e => by have e' : q = b := Option.some.inj e; have := hq.1; omega), fun q hq => ⟨hq.1, by have := F.size; have := hq.2.1; omega, hq.2.2⟩⟩
/-- handed out: the result's block is written -/
theorem keeps_hand {w W : World} {M X : Nat} {v : Value} {cs : Array Value} (hM : M < X) (hw : w.heap.size ≤ X) : Keeps (inn X W v) (new w (W.setRow M cs)) W (W.setRow M cs) :=
  keeps_grown (grown_setRow W M cs) (fun g hg e => by cases e; have := hg.1; omega) (fun g hg => ⟨by have := hg.1; omega, by rw [size_setRow]; exact hg.2.1⟩)

end Go.Proofs.YtoedeedoecdajaaDoor
