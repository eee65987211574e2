/- Two rows of numbers, each one's own, beside one another: one more is put behind each. -/
import Derived.Test.YtejjobemafdlbaaSbj
namespace Go.Proofs.Ytejjobemafdlbaa
open Go.RowKit
set_option linter.unusedVariables false
set_option linter.unusedSimpArgs false

structure Rows2 (w : World) (base : Nat) (va vb : Value) (n : Nat) (xs ys : List Int) : Prop where
  a : w.ownsRow base 3 1 va n (ints xs)
  b : w.ownsRow base 3 1 vb n (ints ys)
  ap : va.ownBlock = none ∨ vb.ownBlock = none ∨ vb.ownBlock ≠ va.ownBlock
/-- half of it: the first has one more -/
structure RowsH (w : World) (base : Nat) (va vb : Value) (n m : Nat) (xs ys : List Int) : Prop where
  a : w.ownsRow base 3 1 va n (ints xs)
  b : w.ownsRow base 3 1 vb m (ints ys)
  ap : va.ownBlock = none ∨ vb.ownBlock = none ∨ vb.ownBlock ≠ va.ownBlock
theorem Rows2.h {w : World} {base : Nat} {va vb : Value} {n : Nat} {xs ys : List Int} (h : Rows2 w base va vb n xs ys) : RowsH w base va vb n n xs ys := ⟨h.a, h.b, h.ap⟩
theorem RowsH.swap {w : World} {base : Nat} {va vb : Value} {n m : Nat} {xs ys : List Int} (h : RowsH w base va vb n m xs ys) : RowsH w base vb va m n ys xs :=
  ⟨h.b, h.a, h.ap.elim (fun e => .inr (.inl e)) (fun q => q.elim (fun e => .inl e) (fun e => .inr (.inr (fun q => e q.symm))))⟩
theorem own_later {w w' : World} {base size n : Nat} {e : TypeId} {v : Value} {xs : List Value} (h : w.ownsRow base e size v n xs) (hb : Below w.heap.size w w') : w'.ownsRow base e size v n xs :=
  World.ownsRow.kept (row := none) h ⟨hb.os, hb.tape, hb.output, hb.size, fun k hk _ => hb.block k hk⟩ (by cases v.ownBlock <;> simp)
theorem RowsH.later {w w' : World} {base : Nat} {va vb : Value} {n m : Nat} {xs ys : List Int} (h : RowsH w base va vb n m xs ys) (hb : Below w.heap.size w w') : RowsH w' base va vb n m xs ys :=
  ⟨own_later h.a hb, own_later h.b hb, h.ap⟩
theorem RowsH.kx {w w' : World} {base p q : Nat} {va vb : Value} {n m : Nat} {xs ys : List Int} (h : RowsH w base va vb n m xs ys) (K : Kx p q w w') (hp : p < base) (hq : q < base) : RowsH w' base va vb n m xs ys := by
  have one : ∀ {v : Value} {n : Nat} {xs : List Value}, w.ownsRow base 3 1 v n xs → w'.ownsRow base 3 1 v n xs := fun {v n xs} h => by
    refine ⟨h.1, ?_⟩
    rcases h.2 with hn | ⟨g, cap, cur, rfl, hb, hgg, rest⟩
    · exact .inl hn
    · exact .inr ⟨g, cap, cur, rfl, hb, K.keep hgg (by omega) (by omega), rest⟩
  exact ⟨one h.a, one h.b, h.ap⟩
theorem nbc1 (w : World) (x : Int) : (w.alloc (.cells #[.int .i64 x] 3)).cell? ⟨w.heap.size, 0, none⟩ = some (.int .i64 x) := by rw [Joins.cell_of_block (heap_alloc_new _ _)]; rfl
theorem nbc2 (w : World) (x : Int) (o : Obj) : ((w.alloc (.cells #[.int .i64 x] 3)).alloc o).cell? ⟨w.heap.size, 0, none⟩ = some (.int .i64 x) := Lib.cell?_alloc_some _ (nbc1 w x)
theorem nbc3 (w : World) (x : Int) (o : Obj) : ((w.alloc o).alloc (.cells #[.int .i64 x] 3)).cell? ⟨w.heap.size + 1, 0, none⟩ = some (.int .i64 x) := by
  have := nbc1 (w.alloc o) x
  simp only [World.size_alloc] at this
  exact this
section
variable {w : World} {ops : Array Oper} {o : Oper} {a : Act} {K : Act → World → Prop} {Q : Exit → Act → World → Prop} {E : Prop}
/-- a number put behind the first row, in a region that draws its order -/
theorem step_push (hgd : o.guard = none) (s x : Operand) (ho : o.op = .call { callee := .builtin .append, args := #[s, x], argTypes := #[31, 31] })
    {base : Nat} {va vb : Value} {n m : Nat} {xs ys : List Int} (h : RowsH w base va vb n m xs ys) (hs : a.eval s = va) (hn : n ≤ 10000) (hb : base ≤ w.heap.size)
    (p : Nat) (hx : a.eval x = .slice (some ⟨p, 0, none⟩) 1 1) (z : Int) (hp : w.cell? ⟨p, 0, none⟩ = some (.int .i64 z))
    (hK : ∀ g cap w', RowsH w' base (.slice (some ⟨g, 0, none⟩) (n + 1) cap) vb (n + 1) m (xs ++ [z]) ys → (∀ k v, w.cell? ⟨k, 0, none⟩ = some v → va.ownBlock ≠ some k → w'.cell? ⟨k, 0, none⟩ = some v) → Below base w w' → K (a.put o.dst (.slice (some ⟨g, 0, none⟩) (n + 1) cap)) w') :
    if Region.wanted o (yielded ops a.tmps) = true then Oper.wp Try.prog o a w K Q else E := by
  obtain ⟨i0, hi, hz0, hz1, hz2⟩ := info_parts info3
  refine step_append_lies w hgd s x 31 ho base 3 i0 (.int .i64 0) 1 8 Try.underlying31 hi hz0 hz1 hz2 rfl (by decide) va n (ints xs) hs h.a ⟨p, 0, none⟩ 1 1 [.int .i64 z] hx rfl (fun j u hu => ?_) (by simp [Value.oneCell']) (by decide) (by unfold maxLen; omega) (by omega) hb _ rfl (fun g cap w' hown hgr hat hlt => ?_)
  · have hj : j = 0 := by have := (List.getElem?_eq_some_iff.1 hu).1; simpa using this
    subst hj
    simp at hu
    subst hu
    rw [add0]; exact hp
  · have hbk : vb.ownBlock = none ∨ vb.ownBlock ≠ va.ownBlock ∨ va.ownBlock = none := by rcases h.ap with e | e | e <;> simp [e]
    have bb : vb.ownBlock = none ∨ vb.ownBlock ≠ some g := by
      cases hv : vb.ownBlock with
      | none => exact .inl rfl
      | some k =>
        right
        intro e
        cases e
        have lb := h.b.lt g hv
        rcases hat with q | q
        · rcases h.ap with e | e | e
          · rw [q] at e; cases e
          · rw [hv] at e; cases e
          · exact e (hv.trans q.symm)
        · omega
    refine hK g cap w' ⟨by simpa [ints] using hown, h.b.kept hgr ?_, ?_⟩ (fun k v hc hne => ?_) ⟨hgr.os, hgr.tape, hgr.output, hgr.size, fun k hk => hgr.block k (by omega) (fun e => by have := h.a.lt k e.symm; omega)⟩
    · rcases h.ap with e | e | e
      · cases hv : vb.ownBlock with
        | none => exact .inl rfl
        | some k => right; rw [e]; simp
      · exact .inl e
      · exact .inr e
    · right
      rcases bb with e | e
      · exact .inl e
      · exact .inr e
    · exact (World.cell?_of_block (w := w) (w' := w') (a := ⟨k, 0, none⟩) (hgr.block k (World.block_lt_of_cell? _ _ hc) (fun e => hne e.symm))).trans hc
end
end Go.Proofs.Ytejjobemafdlbaa
