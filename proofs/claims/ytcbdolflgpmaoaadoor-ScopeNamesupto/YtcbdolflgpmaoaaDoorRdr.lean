/- Package tree's parser in memory: what it holds, what stays as it was. -/
import Derived.Test.YtcbdolflgpmaoaaDoorTreeMem
import Derived.Test.YtcbdolflgpmaoaaDoorTreeGood
import Derived.Test.YtcbdolflgpmaoaaDoorCells
import Derived.Laws.OwnMore
import Derived.WalkLawsBesides
import Derived.Deep.AppendLies
import Derived.OwnWalk
namespace Go.Proofs.YtcbdolflgpmaoaaDoor
open Go.RowKit
set_option linter.unusedVariables false

/-- nothing that was there has turned but the block b -/
abbrev Fr (b : Nat) (w w' : World) : Prop := w.grownBy w' (some b)
theorem Fr.refl (b : Nat) (w : World) : Fr b w w := ⟨rfl, rfl, rfl, Nat.le_refl _, fun _ _ _ => rfl⟩
theorem Fr.trans {b : Nat} {w w1 w2 : World} (h : Fr b w w1) (k : Fr b w1 w2) : Fr b w w2 :=
  ⟨k.os.trans h.os, k.tape.trans h.tape, k.output.trans h.output, Nat.le_trans h.size k.size, fun i hi hb => (k.block i (Nat.lt_of_lt_of_le hi h.size) hb).trans (h.block i hi hb)⟩
theorem Fr.grown {b : Nat} {w w1 w2 : World} {row : Option Nat} (h : Fr b w w1) (k : w1.grownBy w2 row) (hr : ∀ i, row = some i → w.heap.size ≤ i) : Fr b w w2 :=
  ⟨k.os.trans h.os, k.tape.trans h.tape, k.output.trans h.output, Nat.le_trans h.size k.size, fun i hi hb => (k.block i (Nat.lt_of_lt_of_le hi h.size) (fun e => by have := hr i e.symm; omega)).trans (h.block i hi hb)⟩
theorem Fr.of_below {b : Nat} {w w' : World} (h : Below w.heap.size w w') : Fr b w w' := ⟨h.os, h.tape, h.output, h.size, fun i hi _ => h.block i hi⟩
theorem Fr.below {b B : Nat} {w w' : World} (h : Fr b w w') (hb : B ≤ b) (hw : b < w.heap.size) : Below B w w' :=
  ⟨h.os, h.tape, h.output, h.size, fun k hk => h.block k (by omega) (fun e => by cases e; omega)⟩
theorem grown_alloc (w : World) (o : Obj) : w.grownBy (w.alloc o) none :=
  ⟨rfl, rfl, rfl, by simp, fun i hi _ => (((Below.refl w.heap.size w).alloc (Nat.le_refl _) o).block i hi)⟩
theorem grown_drew (w : World) : w.grownBy w.drew none := ⟨rfl, rfl, rfl, Nat.le_refl _, fun _ _ _ => rfl⟩
theorem Fr.alloc {b : Nat} {w w1 : World} (h : Fr b w w1) (o : Obj) : Fr b w (w1.alloc o) := h.grown (grown_alloc _ _) (fun i e => by cases e)
theorem Fr.drew {b : Nat} {w w1 : World} (h : Fr b w w1) : Fr b w w1.drew := h.grown (grown_drew _) (fun i e => by cases e)
theorem setCell_block (w : World) (a : Addr) (v : Value) (i : Nat) (h : i ≠ a.block) : (w.setCell a v).heap[i]? = w.heap[i]? := by
  simp only [World.setCell, Array.getElem?_modify]
  rw [if_neg (fun e => h e.symm)]
theorem Fr.set {b : Nat} {w w1 : World} (h : Fr b w w1) (j : Nat) (v : Value) : Fr b w (w1.setCell ⟨b, j, none⟩ v) :=
  h.trans ⟨rfl, rfl, rfl, by simp, fun i _ hb => setCell_block _ _ _ _ (fun e => hb (by rw [e]))⟩

theorem set_other {w : World} {a b : Addr} {v : Value} (h : a ≠ b) : (w.setCell a v).cell? b = w.cell? b := World.cell?_setCell_other _ _ _ _ h
theorem set_same {w : World} {a : Addr} {v u : Value} (h : w.cell? a = some u) : (w.setCell a v).cell? a = some v := World.cell?_setCell_same' w a v (by rw [h]; rfl)
theorem block_ne {a b : Nat} {i j : Nat} (h : a ≠ b) : (⟨a, i, none⟩ : Addr) ≠ ⟨b, j, none⟩ := fun q => h (congrArg Addr.block q)
theorem off_ne {a : Nat} {i j : Nat} (h : i ≠ j) : (⟨a, i, none⟩ : Addr) ≠ ⟨a, j, none⟩ := fun q => h (congrArg Addr.off q)
theorem cellsT_cons (t : Tok) (l : List Tok) : cellsT (t :: l) = tokC t ++ cellsT l := rfl
theorem Fr.put {b : Nat} {w w1 : World} (h : Fr b w w1) {m : Nat} (hm : w.heap.size ≤ m) (j : Nat) (v : Value) : Fr b w (w1.setCell ⟨m, j, none⟩ v) :=
  h.grown (row := some m) ⟨rfl, rfl, rfl, by simp, fun i _ hb => setCell_block _ _ _ _ (fun e => hb (by rw [e]))⟩ (fun i e => by cases e; exact hm)

/-! rows of a call's own -/
/-- blocks of a call's own -/
def new (w w' : World) : Nat → Prop := fun g => w.heap.size ≤ g ∧ g < w'.heap.size
theorem own_fr {w w' : World} {base size n b : Nat} {e : TypeId} {v : Value} {xs : List Value} (h : w.ownsRow base e size v n xs) (F : Fr b w w') (hb : b < base) : w'.ownsRow base e size v n xs :=
  h.kept F (by
    rcases hv : v.ownBlock with _ | k
    · exact .inl rfl
    · exact .inr (fun q => by cases q; have := (h.lt b hv).1; omega))
theorem own_alloc {w : World} {base size n : Nat} {e : TypeId} {v : Value} {xs : List Value} (h : w.ownsRow base e size v n xs) (o : Obj) : (w.alloc o).ownsRow base e size v n xs := h.alloc o
theorem Fr.row {b : Nat} {w w1 w2 : World} (h : Fr b w w1) {size m : Nat} {t : TypeId} {v : Value} {xs : List Value} (ho : w1.ownsRow w.heap.size t size v m xs) (k : w1.grownBy w2 v.ownBlock) : Fr b w w2 :=
  h.grown k (fun i hi => (ho.lt i hi).1)
theorem own_row {w w' : World} {m size n : Nat} {t : TypeId} {v : Value} {xs : List Value} (h : w'.ownsRow w.heap.size t size v n xs) (hn : n ≤ 1000000000) : IsRow w' (new w w') xs n v :=
  row_of_owns h (fun g hg => h.lt g hg) hn
theorem new_one {w : World} {v : Value} {t : TypeId} : ∀ j u, [v][j]? = some u → (w.alloc (.cells #[v] t)).cell? ((⟨w.heap.size, 0, none⟩ : Addr).add j) = some u := World.news_of_block (heap_alloc_new w _)

end Go.Proofs.YtcbdolflgpmaoaaDoor
