/- Package show's printer in memory: what it holds, what stays as it was. -/
import Derived.Test.YtofgnpehlheeiaaGreatDoorTreeMem
import Derived.Test.YtofgnpehlheeiaaGreatDoorToks
import Derived.Test.YtofgnpehlheeiaaGreatDoorShowB
import Derived.Laws.OwnMore
import Derived.WalkLawsBesides
import Derived.Deep.AppendLies
import Derived.OwnWalk
namespace Go.Proofs.YtofgnpehlheeiaaGreatDoor
open Go.RowKit
set_option linter.unusedVariables false

def tokA (t : ATok) : List Value := [.int .i64 t.kind, .string (str t.text), .int .i64 t.num, .int .i64 t.at']
def cellsA (ts : List ATok) : List Value := ts.flatMap tokA
theorem cellsA_snoc (ts : List ATok) (t : ATok) : cellsA (ts ++ [t]) = cellsA ts ++ tokA t := by simp [cellsA]
def endC (es : List Nat) : List Value := es.map fun (n : Nat) => .int .i64 (n : Int)
theorem endC_snoc (es : List Nat) (n : Nat) : endC (es ++ [n]) = endC es ++ [.int .i64 (n : Int)] := by simp [endC]

theorem grown_alloc (w : World) (o : Obj) : w.grownBy (w.alloc o) none :=
  ⟨rfl, rfl, rfl, by simp, fun i hi _ => (((Below.refl w.heap.size w).alloc (Nat.le_refl _) o).block i hi)⟩
theorem grown_drew (w : World) : w.grownBy w.drew none := ⟨rfl, rfl, rfl, Nat.le_refl _, fun _ _ _ => rfl⟩
theorem setCell_block (w : World) (a : Addr) (v : Value) (i : Nat) (h : i ≠ a.block) : (w.setCell a v).heap[i]? = w.heap[i]? := by
  simp only [World.setCell, Array.getElem?_modify]
  rw [if_neg (fun e => h e.symm)]
theorem grown_set (w : World) (b j : Nat) (v : Value) : w.grownBy (w.setCell ⟨b, j, none⟩ v) (some b) :=
  ⟨rfl, rfl, rfl, by simp, fun i _ hb => setCell_block _ _ _ _ (fun e => hb (by rw [e]))⟩
theorem set_other {w : World} {a b : Addr} {v : Value} (h : a ≠ b) : (w.setCell a v).cell? b = w.cell? b := World.cell?_setCell_other _ _ _ _ h
theorem set_same {w : World} {a : Addr} {v u : Value} (h : w.cell? a = some u) : (w.setCell a v).cell? a = some v := World.cell?_setCell_same' w a v (by rw [h]; rfl)
theorem block_ne {a b : Nat} {i j : Nat} (h : a ≠ b) : (⟨a, i, none⟩ : Addr) ≠ ⟨b, j, none⟩ := fun q => h (congrArg Addr.block q)
theorem off_ne {a : Nat} {i j : Nat} (h : i ≠ j) : (⟨a, i, none⟩ : Addr) ≠ ⟨a, j, none⟩ := fun q => h (congrArg Addr.off q)

/-- a block's cells -/
def Blk (w : World) (m : Nat) (cs : Array Value) (t : TypeId) : Prop := w.heap[m]? = some (.cells cs t (0, 0))
theorem Blk.lt {w : World} {m : Nat} {cs : Array Value} {t : TypeId} (h : Blk w m cs t) : m < w.heap.size := (Array.getElem?_eq_some_iff.1 h).1
theorem Blk.kept {w w' : World} {m : Nat} {cs : Array Value} {t : TypeId} {row : Option Nat} (h : Blk w m cs t) (k : w.grownBy w' row) (hr : row ≠ some m) : Blk w' m cs t :=
  (k.block m h.lt (fun e => hr e.symm)).trans h
theorem Blk.alloc {w : World} {m : Nat} {cs : Array Value} {t : TypeId} (h : Blk w m cs t) (o : Obj) : Blk (w.alloc o) m cs t := h.kept (grown_alloc _ _) (by simp)
theorem Blk.drew {w : World} {m : Nat} {cs : Array Value} {t : TypeId} (h : Blk w m cs t) : Blk w.drew m cs t := h.kept (grown_drew _) (by simp)
theorem Blk.fresh (w : World) (cs : Array Value) (t : TypeId) : Blk (w.alloc (.cells cs t)) w.heap.size cs t := heap_alloc_new w _
theorem Blk.cell {w : World} {m : Nat} {cs : Array Value} {t : TypeId} (h : Blk w m cs t) (j : Nat) : w.cell? ⟨m, j, none⟩ = cs[j]? := by
  rw [Joins.cell_of_block h]
theorem Blk.z {w : World} {m : Nat} {cs : Array Value} {t : TypeId} (h : Blk w m cs t) (j : Nat) : w.frozen? ⟨m, j, none⟩ = false := Joins.unfrozen_of_block h j

/-- what a call of the printer leaves as it was: what lies below its block b; and above it all but the rows of tokens and of places -/
structure Fp (b : Nat) (w w' : World) : Prop where
  os : w'.os = w.os
  tape : w'.tape = w.tape
  output : w'.output = w.output
  size : w.heap.size ≤ w'.heap.size
  low : ∀ k, k < b → k < w.heap.size → w'.heap[k]? = w.heap[k]?
  oth : ∀ k cs t, Blk w k cs t → b < k → t ≠ 58 → t ≠ 3 → Blk w' k cs t
theorem Fp.refl (b : Nat) (w : World) : Fp b w w := ⟨rfl, rfl, rfl, Nat.le_refl _, fun _ _ _ => rfl, fun _ _ _ h _ _ _ => h⟩
theorem Fp.trans {b : Nat} {w w1 w2 : World} (h : Fp b w w1) (k : Fp b w1 w2) : Fp b w w2 :=
  ⟨k.os.trans h.os, k.tape.trans h.tape, k.output.trans h.output, Nat.le_trans h.size k.size, fun i hi hl => (k.low i hi (Nat.lt_of_lt_of_le hl h.size)).trans (h.low i hi hl), fun i cs t a b c d => k.oth i cs t (h.oth i cs t a b c d) b c d⟩
theorem Fp.of_grown {b : Nat} {w w1 w2 : World} {row : Option Nat} (h : Fp b w w1) (k : w1.grownBy w2 row) (hr : ∀ i, row = some i → i = b ∨ (b < i ∧ ∀ cs t, Blk w1 i cs t → t = 58 ∨ t = 3)) : Fp b w w2 :=
  h.trans ⟨k.os, k.tape, k.output, k.size, fun i hi hl => k.block i hl (fun e => by rcases hr i e.symm with z | z <;> omega), fun i cs t a hb c d => a.kept k (fun e => by
    rcases hr i e with z | z
    · omega
    · rcases z.2 cs t a with q | q
      · exact c q
      · exact d q)⟩
theorem Fp.alloc {b : Nat} {w w1 : World} (h : Fp b w w1) (o : Obj) : Fp b w (w1.alloc o) := h.of_grown (grown_alloc _ _) (fun i e => by cases e)
theorem Fp.drew {b : Nat} {w w1 : World} (h : Fp b w w1) : Fp b w w1.drew := h.of_grown (grown_drew _) (fun i e => by cases e)
theorem Fp.set {b : Nat} {w w1 : World} (h : Fp b w w1) (j : Nat) (v : Value) : Fp b w (w1.setCell ⟨b, j, none⟩ v) := h.of_grown (grown_set _ _ _ _) (fun i e => by cases e; exact .inl rfl)
theorem Fp.below {b : Nat} {w w1 w2 : World} (h : Fp b w w1) (k : Below w1.heap.size w1 w2) : Fp b w w2 :=
  h.of_grown (row := none) ⟨k.os, k.tape, k.output, k.size, fun i hi _ => k.block i hi⟩ (fun i e => by cases e)
theorem own_type {w : World} {base size n : Nat} {e : TypeId} {v : Value} {xs : List Value} (h : w.ownsRow base e size v n xs) {i : Nat} (hi : v.ownBlock = some i) : base ≤ i ∧ ∀ cs t, Blk w i cs t → t = e := by
  rcases h.2 with ⟨rfl, _⟩ | ⟨g, cap, cur, rfl, hb, hg, _⟩
  · cases hi
  · simp only [Value.ownBlock, Option.some.injEq] at hi
    subst hi
    refine ⟨hb, fun cs t ht => ?_⟩
    have : some (Obj.cells cs t (0, 0)) = some (.cells cur e (0, 0)) := by rw [← ht, ← hg]
    simp only [Option.some.injEq, Obj.cells.injEq] at this
    exact this.2.1
theorem Fp.row {b : Nat} {w w1 w2 : World} (h : Fp b w w1) {size m : Nat} {t : TypeId} {v : Value} {xs : List Value} (ho : w1.ownsRow (b + 1) t size v m xs) (ht : t = 58 ∨ t = 3) (k : w1.grownBy w2 v.ownBlock) : Fp b w w2 :=
  h.of_grown k (fun i hi => .inr ⟨by have := (own_type ho hi).1; omega, fun cs u hu => by rw [(own_type ho hi).2 cs u hu]; exact ht⟩)
/-- a row of another kind is not touched -/
theorem own_apart {w w' : World} {base size size' n n' : Nat} {e e' : TypeId} {v v' : Value} {xs xs' : List Value} (h : w.ownsRow base e size v n xs) (h' : w.ownsRow base e' size' v' n' xs') (he : e ≠ e') (k : w.grownBy w' v'.ownBlock) : w'.ownsRow base e size v n xs :=
  h.kept k (by
    rcases hv : v.ownBlock with _ | i
    · exact .inl rfl
    · refine .inr (fun q => ?_)
      rcases h.2 with ⟨rfl, _⟩ | ⟨g, cap, cur, rfl, hb, hg, _⟩
      · cases hv
      · simp only [Value.ownBlock, Option.some.injEq] at hv
        subst hv
        exact he ((own_type h' q.symm).2 cur e hg))

/-- the printer's block: its tokens, the places behind each data and bind, the first fault -/
structure Pr (w : World) (b : Nat) (ts : List ATok) (es : List Nat) (e : Int) : Prop where
  c0 : ∃ v, w.cell? ⟨b, 0, none⟩ = some v ∧ w.ownsRow (b + 1) 58 4 v ts.length (cellsA ts)
  c1 : ∃ v, w.cell? ⟨b, 1, none⟩ = some v ∧ w.ownsRow (b + 1) 3 1 v es.length (endC es)
  c2 : w.cell? ⟨b, 2, none⟩ = some (.int .i64 e)
  z : ∀ j, w.frozen? ⟨b, j, none⟩ = false
  fit : ∀ t ∈ ts, Fit t
  laid : ∃ w0, Laid w0 ∧ w0.heap.size ≤ b ∧ Below w0.heap.size w0 w
section
variable {w w' : World} {b : Nat} {ts : List ATok} {es : List Nat} {e : Int}
theorem Pr.lt (h : Pr w b ts es e) : b < w.heap.size := World.block_lt_of_cell? _ _ h.c2
theorem Pr.L (h : Pr w b ts es e) : Laid w := by
  obtain ⟨w0, L, _, B⟩ := h.laid
  exact L.later B
theorem Pr.kept (h : Pr w b ts es e) {row : Option Nat} (k : w.grownBy w' row) (hr : ∀ i, row = some i → b < i ∧ ∀ cs t, Blk w i cs t → t ≠ 58 ∧ t ≠ 3) : Pr w' b ts es e := by
  have hb : some b ≠ row := fun q => by have := (hr b q.symm).1; omega
  obtain ⟨v, a0, o0⟩ := h.c0
  obtain ⟨u, a1, o1⟩ := h.c1
  obtain ⟨w0, L, l0, B⟩ := h.laid
  have own : ∀ {e : TypeId} {size n : Nat} {v : Value} {xs : List Value}, w.ownsRow (b + 1) e size v n xs → (e = 58 ∨ e = 3) → w'.ownsRow (b + 1) e size v n xs := fun {e size n v xs} o he =>
    o.kept k (by
      rcases hv : v.ownBlock with _ | i
      · exact .inl rfl
      · refine .inr (fun q => ?_)
        rcases o.2 with ⟨rfl, _⟩ | ⟨g, cap, cur, rfl, hb, hg, _⟩
        · cases hv
        · simp only [Value.ownBlock, Option.some.injEq] at hv
          subst hv
          have := (hr g q.symm).2 cur e hg
          rcases he with z | z
          · exact this.1 z
          · exact this.2 z)
  exact ⟨⟨v, k.cell a0 hb, own o0 (.inl rfl)⟩, ⟨u, k.cell a1 hb, own o1 (.inr rfl)⟩, k.cell h.c2 hb, fun j => (World.frozen?_of_block (k.block b h.lt hb)).trans (h.z j), h.fit,
    ⟨w0, L, l0, B.trans ⟨k.os, k.tape, k.output, k.size, fun i hi => k.block i (by have := B.size; omega) (fun q => by have := (hr i q.symm).1; omega)⟩⟩⟩
theorem Pr.alloc (h : Pr w b ts es e) (o : Obj) : Pr (w.alloc o) b ts es e := h.kept (grown_alloc _ _) (fun i e => by cases e)
theorem Pr.drew (h : Pr w b ts es e) : Pr w.drew b ts es e := h.kept (grown_drew _) (fun i e => by cases e)
theorem Pr.below (h : Pr w b ts es e) (k : Below w.heap.size w w') : Pr w' b ts es e :=
  h.kept (row := none) ⟨k.os, k.tape, k.output, k.size, fun i hi _ => k.block i hi⟩ (fun i e => by cases e)
theorem laid_set (h : Pr w b ts es e) (w2 : World) (hB : Below b w w2) : ∃ w0, Laid w0 ∧ w0.heap.size ≤ b ∧ Below w0.heap.size w0 w2 := by
  obtain ⟨w0, L, l0, B⟩ := h.laid
  exact ⟨w0, L, l0, B.trans (Joins.below_le hB l0)⟩
end
theorem Fp.low' {b : Nat} {w w' : World} (h : Fp b w w') (hb : b ≤ w.heap.size) : Below b w w' := ⟨h.os, h.tape, h.output, h.size, fun k hk => h.low k hk (by omega)⟩
theorem Fp.keeps {b : Nat} {w w' : World} (h : Fp b w w') : Keeps (fun g => g < b) (fun g => g < b) w w' :=
  ⟨fun g off u hg hu => (World.cell?_of_block (h.low g hg (World.block_lt_of_cell? _ _ hu))).trans hu, fun g hg => hg⟩

/-- how what is told turns tokens and fault -/
def Aft (ts : List ATok) (e : Int) (o : OT) (ts' : List ATok) (e' : Int) : Prop :=
  (e ≠ 0 → e' = e) ∧ (e = 0 → match o with
    | .ok l => e' = 0 ∧ ts' = ts ++ l
    | .error c => e' = c ∧ c ≠ 0)
theorem Aft.seq {ts ts1 ts2 : List ATok} {e e1 e2 : Int} {a b : OT} (h : Aft ts e a ts1 e1) (k : Aft ts1 e1 b ts2 e2) : Aft ts e (seqO a b) ts2 e2 := by
  refine ⟨fun he => (k.1 (by rw [h.1 he]; exact he)).trans (h.1 he), fun he => ?_⟩
  have h2 := h.2 he
  rcases a with c | x
  · simp only at h2
    simp only [seqO]
    exact ⟨(k.1 (by rw [h2.1]; exact h2.2)).trans h2.1, h2.2⟩
  · simp only at h2
    obtain ⟨rfl, rfl⟩ := h2
    have k2 := k.2 rfl
    rcases b with c | y
    · exact k2
    · simp only at k2 ⊢
      simp only [seqO]
      exact ⟨k2.1, by rw [k2.2, List.append_assoc]⟩
theorem Aft.ok (ts : List ATok) (e : Int) (l : List ATok) : Aft ts e (.ok l) (ts ++ l) e := ⟨fun _ => rfl, fun he => ⟨he, rfl⟩⟩
theorem Aft.nil (ts : List ATok) (e : Int) : Aft ts e (.ok []) ts e := ⟨fun _ => rfl, fun he => ⟨he, by simp⟩⟩
/-- what a method of the printer leaves, that puts n tokens at the most -/
def Did (b : Nat) (w : World) (ts : List ATok) (es : List Nat) (e : Int) (n : Nat) (o : OT) (r : Ending) (w' : World) : Prop :=
  r = .returned (.tuple #[]) ∧ Fp b w w' ∧ ∃ ts' e', Pr w' b ts' es e' ∧ Aft ts e o ts' e' ∧ ts'.length ≤ ts.length + n

end Go.Proofs.YtofgnpehlheeiaaGreatDoor
