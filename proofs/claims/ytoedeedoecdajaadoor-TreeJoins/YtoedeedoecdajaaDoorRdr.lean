/- Package tree's parser in memory: what it holds, what stays as it was. -/
import Derived.Test.YtoedeedoecdajaaDoorTreeMem
import Derived.Test.YtoedeedoecdajaaDoorTreeGood
import Derived.Test.YtoedeedoecdajaaDoorCells
import Derived.Laws.OwnMore
import Derived.WalkLawsBesides
import Derived.Deep.AppendLies
import Derived.OwnWalk
namespace Go.Proofs.YtoedeedoecdajaaDoor
open Go.RowKit
set_option linter.unusedVariables false

/-- nothing that was there has turned but the block b -/
abbrev Fr (b : Nat) (w w' : World) : Prop := w.grownBy w' (some b)
theorem Fr.refl (b : Nat) (w : World) : Fr b w w := ⟨rfl, rfl, rfl, Nat.le_refl _, fun _ _ _ => rfl⟩
theorem Fr.trans {b : Nat} {w w1 w2 : World} (h : Fr b w w1) (k : Fr b w1 w2) : Fr b w w2 :=
  ⟨k.os.trans h.os, k.tape.trans h.tape, k.output.trans h.output, Nat.le_trans h.size k.size, fun i hi hb => (k.block i (Nat.lt_of_lt_of_le hi h.size) hb).trans (h.block i hi hb)⟩
theorem Fr.grown {b : Nat} {w w1 w2 : World} {row : Option Nat} (h : Fr b w w1) (k : w1.grownBy w2 row) (hr : ∀ i, row = some i → w.heap.size ≤ i) : Fr b w w2 :=
  ⟨k.os.trans h.os, k.tape.trans h.tape, k.output.trans h.output, Nat.le_trans h.size k.size, fun i hi hb => (k.block i (Nat.lt_of_lt_of_le hi h.size) (fun e => by have := hr i e.symm; omega)).trans (h.block i hi hb)⟩
theorem Fr.of_below {b : Nat} {w w' : World} (h : Below w.heap.size w w') : Fr b w w' := ⟨h.os, h.tape, h.output, h.size, fun i hi _ => h.block i hi⟩
theorem Fr.below {b B : Nat} {w w' : World} (h : Fr b w w') (hb : B ≤ b) (hw : b < w.heap.size) : Below B w w' :=
  ⟨h.os, h.tape, h.output, h.size, fun k hk => h.block k (by omega) (fun e => by cases e; omega)⟩
theorem grown_alloc (w : World) (o : Obj) : w.grownBy (w.alloc o) none :=
  ⟨rfl, rfl, rfl, by simp, fun i hi _ => (((Below.refl w.heap.size w).alloc (Nat.le_refl _) o).block i hi)⟩
theorem grown_drew (w : World) : w.grownBy w.drew none := ⟨rfl, rfl, rfl, Nat.le_refl _, fun _ _ _ => rfl⟩
theorem Fr.alloc {b : Nat} {w w1 : World} (h : Fr b w w1) (o : Obj) : Fr b w (w1.alloc o) := h.grown (grown_alloc _ _) (fun i e => by cases e)
theorem Fr.drew {b : Nat} {w w1 : World} (h : Fr b w w1) : Fr b w w1.drew := h.grown (grown_drew _) (fun i e => by cases e)
theorem setCell_block (w : World) (a : Addr) (v : Value) (i : Nat) (h : i ≠ a.block) : (w.setCell a v).heap[i]? = w.heap[i]? := by
  simp only [World.setCell, Array.getElem?_modify]
  rw [if_neg (fun e => h e.symm)]
theorem Fr.set {b : Nat} {w w1 : World} (h : Fr b w w1) (j : Nat) (v : Value) : Fr b w (w1.setCell ⟨b, j, none⟩ v) :=
  h.trans ⟨rfl, rfl, rfl, by simp, fun i _ hb => setCell_block _ _ _ _ (fun e => hb (by rw [e]))⟩

theorem set_other {w : World} {a b : Addr} {v : Value} (h : a ≠ b) : (w.setCell a v).cell? b = w.cell? b := World.cell?_setCell_other _ _ _ _ h
theorem set_same {w : World} {a : Addr} {v u : Value} (h : w.cell? a = some u) : (w.setCell a v).cell? a = some v := World.cell?_setCell_same' w a v (by rw [h]; rfl)
theorem block_ne {a b : Nat} {i j : Nat} (h : a ≠ b) : (⟨a, i, none⟩ : Addr) ≠ ⟨b, j, none⟩ := fun q => h (congrArg Addr.block q)
theorem off_ne {a : Nat} {i j : Nat} (h : i ≠ j) : (⟨a, i, none⟩ : Addr) ≠ ⟨a, j, none⟩ := fun q => h (congrArg Addr.off q)
/-- the parser's block, and the tokens that are left -/
structure Rd (w : World) (b : Nat) (l : List Tok) (n e : Int) : Prop where
  c0 : ∃ ga cap, w.cell? ⟨b, 0, none⟩ = some (.slice ga l.length cap) ∧ (l.length ≤ cap ∧ l.length ≤ 16384) ∧ cap ≤ 9223372036854775807 ∧
    (0 < l.length → ∃ g off, ga = some ⟨g, off, none⟩ ∧ g < b ∧ ∀ j u, (cellsT l)[j]? = some u → w.cell? ⟨g, off + j, none⟩ = some u)
  c1 : w.cell? ⟨b, 1, none⟩ = some (.int .i64 n)
  c2 : w.cell? ⟨b, 2, none⟩ = some (.int .i64 e)
  z : ∀ j, w.frozen? ⟨b, j, none⟩ = false
  g : Good l
theorem Rd.lt {w : World} {b : Nat} {l : List Tok} {n e : Int} (h : Rd w b l n e) : b < w.heap.size := World.block_lt_of_cell? _ _ h.c1
theorem Rd.kept {w w' : World} {b : Nat} {l : List Tok} {n e : Int} {row : Option Nat} (h : Rd w b l n e) (k : w.grownBy w' row) (hr : ∀ i, row = some i → b < i) : Rd w' b l n e := by
  have hb : some b ≠ row := fun q => by have := hr b q.symm; omega
  obtain ⟨ga, cap, a1, a2, a3, a4⟩ := h.c0
  refine ⟨⟨ga, cap, k.cell a1 hb, a2, a3, fun hn => ?_⟩, k.cell h.c1 hb, k.cell h.c2 hb, fun j => (World.frozen?_of_block (k.block b h.lt hb)).trans (h.z j), h.g⟩
  obtain ⟨g, off, e1, e2, e3⟩ := a4 hn
  exact ⟨g, off, e1, e2, fun j u hj => k.cell (e3 j u hj) (fun q => by have := hr g q.symm; omega)⟩
theorem Rd.alloc {w : World} {b : Nat} {l : List Tok} {n e : Int} (h : Rd w b l n e) (o : Obj) : Rd (w.alloc o) b l n e := h.kept (grown_alloc _ _) (fun i e => by cases e)
theorem Rd.drew {w : World} {b : Nat} {l : List Tok} {n e : Int} (h : Rd w b l n e) : Rd w.drew b l n e := h.kept (grown_drew _) (fun i e => by cases e)
theorem Rd.below {w w' : World} {b : Nat} {l : List Tok} {n e : Int} (h : Rd w b l n e) (k : Below w.heap.size w w') : Rd w' b l n e :=
  h.kept (row := none) ⟨k.os, k.tape, k.output, k.size, fun i hi _ => k.block i hi⟩ (fun i e => by cases e)
/-- the fault is set down -/
theorem Rd.wrong {w : World} {b : Nat} {l : List Tok} {n e : Int} (h : Rd w b l n e) (c : Int) : Rd (w.setCell ⟨b, 2, none⟩ (.int .i64 c)) b l n c := by
  obtain ⟨ga, cap, a1, a2, a3, a4⟩ := h.c0
  refine ⟨⟨ga, cap, (set_other (off_ne (by decide))).trans a1, a2, a3, fun hn => ?_⟩, (set_other (off_ne (by decide))).trans h.c1, set_same h.c2, fun j => by rw [World.frozen?_setCell]; exact h.z j, h.g⟩
  obtain ⟨g, off, e1, e2, e3⟩ := a4 hn
  exact ⟨g, off, e1, e2, fun j u hj => (set_other (block_ne (by omega))).trans (e3 j u hj)⟩
theorem cellsT_cons (t : Tok) (l : List Tok) : cellsT (t :: l) = tokC t ++ cellsT l := rfl
/-- the first token's cells -/
theorem Rd.next {w : World} {b : Nat} {t : Tok} {l : List Tok} {n e : Int} (h : Rd w b (t :: l) n e) : ∃ g off cap, w.cell? ⟨b, 0, none⟩ = some (.slice (some ⟨g, off, none⟩) (l.length + 1) cap) ∧ (l.length + 1 ≤ cap ∧ l.length + 1 ≤ 16384) ∧ cap ≤ 9223372036854775807 ∧ g < b ∧
    w.cell? ⟨g, off, none⟩ = some (.int .i64 t.kind) ∧ w.cell? ⟨g, off + 1, none⟩ = some (.string (str t.text)) ∧ w.cell? ⟨g, off + 2, none⟩ = some (.int .i64 t.num) ∧ w.cell? ⟨g, off + 3, none⟩ = some (.int .i64 t.at') := by
  obtain ⟨ga, cap, a1, a2, a3, a4⟩ := h.c0
  obtain ⟨g, off, rfl, e2, e3⟩ := a4 (by simp)
  simp only [List.length_cons] at a1 a2
  exact ⟨g, off, cap, a1, a2, a3, e2, e3 0 _ rfl, e3 1 _ rfl, e3 2 _ rfl, e3 3 _ rfl⟩
/-- one token further -/
theorem Rd.step {w : World} {b : Nat} {t : Tok} {l : List Tok} {n e : Int} (h : Rd w b (t :: l) n e) {g off cap : Nat} (hc : w.cell? ⟨b, 0, none⟩ = some (.slice (some ⟨g, off, none⟩) (l.length + 1) cap)) (off' : Nat) (ho : off' = off + 4 ∨ cap = 1) :
    Rd (w.setCell ⟨b, 0, none⟩ (.slice (some ⟨g, off', none⟩) l.length (cap - 1))) b l n e := by
  obtain ⟨ga, cap', a1, a2, a3, a4⟩ := h.c0
  rw [hc] at a1
  simp only [List.length_cons] at a1 a2
  cases a1
  obtain ⟨g', off'', e1, e2, e3⟩ := a4 (by simp)
  cases e1
  refine ⟨⟨_, _, set_same hc, by omega, by omega, fun hn => ⟨g, off + 4, ?_, e2, fun j u hj => ?_⟩⟩, (set_other (off_ne (by decide))).trans h.c1, (set_other (off_ne (by decide))).trans h.c2, fun j => by rw [World.frozen?_setCell]; exact h.z j, h.g.tail⟩
  · rcases ho with rfl | rfl
    · rfl
    · omega
  have := e3 (j + 4) u (by
    rw [cellsT_cons, List.getElem?_append_right (by simp [tokC])]
    simpa [tokC] using hj)
  rw [set_other (block_ne (by omega)), Nat.add_assoc, Nat.add_comm 4 j]
  exact this
theorem Rd.set {w : World} {b : Nat} {l : List Tok} {n e : Int} (h : Rd w b l n e) {m : Nat} (hm : b < m) (j : Nat) (v : Value) : Rd (w.setCell ⟨m, j, none⟩ v) b l n e :=
  h.kept (row := some m) ⟨rfl, rfl, rfl, by simp, fun i _ hb => setCell_block _ _ _ _ (fun e => hb (by rw [e]))⟩ (fun i e => by cases e; exact hm)
theorem Fr.put {b : Nat} {w w1 : World} (h : Fr b w w1) {m : Nat} (hm : w.heap.size ≤ m) (j : Nat) (v : Value) : Fr b w (w1.setCell ⟨m, j, none⟩ v) :=
  h.grown (row := some m) ⟨rfl, rfl, rfl, by simp, fun i _ hb => setCell_block _ _ _ _ (fun e => hb (by rw [e]))⟩ (fun i e => by cases e; exact hm)

def leftN (w : World) (b : Nat) : Nat :=
  match w.cell? ⟨b, 0, none⟩ with
  | some (.slice _ n _) => n
  | _ => 0
theorem Rd.left {w : World} {b : Nat} {l : List Tok} {n e : Int} (h : Rd w b l n e) : leftN w b = l.length := by
  obtain ⟨ga, cap, a1, _⟩ := h.c0
  unfold leftN
  rw [a1]
theorem Rd.len {w : World} {b : Nat} {l : List Tok} {n e : Int} (h : Rd w b l n e) : l.length ≤ 16384 := by
  obtain ⟨ga, cap, a1, a2, _⟩ := h.c0
  exact a2.2
/-! rows of a call's own -/
/-- blocks of a call's own -/
def new (w w' : World) : Nat → Prop := fun g => w.heap.size ≤ g ∧ g < w'.heap.size
theorem own_fr {w w' : World} {base size n b : Nat} {e : TypeId} {v : Value} {xs : List Value} (h : w.ownsRow base e size v n xs) (F : Fr b w w') (hb : b < base) : w'.ownsRow base e size v n xs :=
  h.kept F (by
    rcases hv : v.ownBlock with _ | k
    · exact .inl rfl
    · exact .inr (fun q => by cases q; have := (h.lt b hv).1; omega))
theorem own_alloc {w : World} {base size n : Nat} {e : TypeId} {v : Value} {xs : List Value} (h : w.ownsRow base e size v n xs) (o : Obj) : (w.alloc o).ownsRow base e size v n xs := h.alloc o
theorem Rd.row {w w' : World} {b : Nat} {l : List Tok} {n e : Int} (h : Rd w b l n e) {base size m : Nat} {t : TypeId} {v : Value} {xs : List Value} (ho : w.ownsRow base t size v m xs) (hb : b < base) (k : w.grownBy w' v.ownBlock) : Rd w' b l n e :=
  h.kept k (fun i hi => by have := (ho.lt i hi).1; omega)
theorem Fr.row {b : Nat} {w w1 w2 : World} (h : Fr b w w1) {size m : Nat} {t : TypeId} {v : Value} {xs : List Value} (ho : w1.ownsRow w.heap.size t size v m xs) (k : w1.grownBy w2 v.ownBlock) : Fr b w w2 :=
  h.grown k (fun i hi => (ho.lt i hi).1)
theorem own_row {w w' : World} {m size n : Nat} {t : TypeId} {v : Value} {xs : List Value} (h : w'.ownsRow w.heap.size t size v n xs) (hn : n ≤ 1000000000) : IsRow w' (new w w') xs n v :=
  row_of_owns h (fun g hg => h.lt g hg) hn
theorem new_one {w : World} {v : Value} {t : TypeId} : ∀ j u, [v][j]? = some u → (w.alloc (.cells #[v] t)).cell? ((⟨w.heap.size, 0, none⟩ : Addr).add j) = some u := World.news_of_block (heap_alloc_new w _)

/-- the panic with a fault -/
abbrev pan (c : Int) : Ending := .panicked [{ v := .iface 28 (.int .i64 c), recovered := false }]
/-- what a method of the parser leaves -/
def Ans {α : Type} (b : Nat) (n : Int) (w : World) (is : World → (Nat → Prop) → α → Value → Prop) (p : PR α) (e : Ending) (w' : World) : Prop :=
  Fr b w w' ∧ match p with
    | .ok (x, r) => ∃ v, e = .returned v ∧ is w' (new w w') x v ∧ Rd w' b r n 0
    | .error (c, r) => e = pan c ∧ Rd w' b r n c
theorem Ans.ok {α : Type} {b : Nat} {n : Int} {w w' : World} {is : World → (Nat → Prop) → α → Value → Prop} {x : α} {r : List Tok} {v : Value} (hf : Fr b w w') (hr : Rd w' b r n 0) (hv : is w' (new w w') x v) :
    Ans b n w is (.ok (x, r)) (.returned v) w' := ⟨hf, v, rfl, hv, hr⟩
theorem Ans.err {α : Type} {b : Nat} {n c : Int} {w w' : World} {is : World → (Nat → Prop) → α → Value → Prop} {r : List Tok} (hf : Fr b w w') (hr : Rd w' b r n c) : Ans b n w is (.error (c, r)) (pan c) w' := ⟨hf, rfl, hr⟩

end Go.Proofs.YtoedeedoecdajaaDoor
