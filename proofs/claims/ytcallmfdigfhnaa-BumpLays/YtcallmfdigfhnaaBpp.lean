/- The document's own space in memory: its box, its three lists. -/
import Derived.Test.YtcallmfdigfhnaaBpo
import Derived.Test.YtcallmfdigfhnaaRefNew
namespace Go.Proofs.Ytcallmfdigfhnaa
open Go.RowKit
set_option linter.unusedVariables false
set_option linter.unusedSimpArgs false

/-- The groups that were taken, the places, how many words. -/
def grp (l : List (Nat × Nat)) : List Int := (l.filter (fun x => decide (x.1 % 64 = 0))).map (fun x => ((x.1 / 64 : Nat) : Int))
def fsI (l : List (Nat × Nat)) : List Int := l.map (fun s => (s.1 : Int))
def nsI (l : List (Nat × Nat)) : List Int := l.map (fun s => (s.2 : Int))
theorem grp_snoc (l : List (Nat × Nat)) (i n : Nat) : grp (l ++ [(i, n)]) = if i % 64 = 0 then grp l ++ [((i / 64 : Nat) : Int)] else grp l := by
  unfold grp
  rw [List.filter_append]
  by_cases h : i % 64 = 0 <;> simp [h]
theorem grp_len (l : List (Nat × Nat)) : (grp l).length ≤ l.length := by unfold grp; rw [List.length_map]; exact List.length_filter_le _ _
theorem fsI_snoc (l : List (Nat × Nat)) (i n : Nat) : fsI (l ++ [(i, n)]) = fsI l ++ [(i : Int)] := by simp [fsI]
theorem nsI_snoc (l : List (Nat × Nat)) (i n : Nat) : nsI (l ++ [(i, n)]) = nsI l ++ [(n : Int)] := by simp [nsI]

/-- the lists' blocks -/
def ow (r : Nat → Value) (k : Nat) : Prop := ∃ i, i < 3 ∧ (r i).ownBlock = some k
structure Rh (w0 W : World) (x y M : Nat) (r0 r : Nat → Value) (L : Nat → List Int) (bl nx en : Nat) : Prop where
  box : W.heap[x]? = some (.cells #[pt y, .int .i64 (M : Int), r 0, .int .i64 (bl : Int), r 1, r 2, .int .i64 (nx : Int), .int .i64 (en : Int)] 67 (0, 0))
  row : ∀ i, i < 3 → W.ownsRow 0 3 1 (r i) (L i).length (ints (L i))
  nox : ¬ ow r x
  ap : ∀ i j, i < 3 → j < 3 → i ≠ j → (r i).ownBlock = none ∨ (r i).ownBlock ≠ (r j).ownBlock
  old : ∀ k, ow r k → ow r0 k ∨ w0.heap.size ≤ k
  chg : Chg (fun k => k = x ∨ ow r0 k) w0 W
section
variable {w0 W W' : World} {x y M : Nat} {r0 r : Nat → Value} {L : Nat → List Int} {bl nx en : Nat}
theorem Rh.ltx (h : Rh w0 W x y M r0 r L bl nx en) : x < W.heap.size := (Array.getElem?_eq_some_iff.1 h.box).1
theorem Rh.cells (h : Rh w0 W x y M r0 r L bl nx en) : W.cell? ⟨x, 0, none⟩ = some (.pointer (some ⟨y, 0, none⟩)) ∧ W.cell? ⟨x, 1, none⟩ = some (.int .i64 (M : Int)) ∧ W.cell? ⟨x, 2, none⟩ = some (r 0) ∧ W.cell? ⟨x, 3, none⟩ = some (.int .i64 (bl : Int)) ∧ W.cell? ⟨x, 4, none⟩ = some (r 1) ∧ W.cell? ⟨x, 5, none⟩ = some (r 2) ∧ W.cell? ⟨x, 6, none⟩ = some (.int .i64 (nx : Int)) ∧ W.cell? ⟨x, 7, none⟩ = some (.int .i64 (en : Int)) := by
  refine ⟨?_, ?_, ?_, ?_, ?_, ?_, ?_, ?_⟩
  all_goals (rw [Joins.cell_of_block h.box]; rfl)
theorem Rh.zf (h : Rh w0 W x y M r0 r L bl nx en) (j : Nat) : W.frozen? ⟨x, j, none⟩ = false := Joins.unfrozen_of_block h.box j
theorem Rh.own (h : Rh w0 W x y M r0 r L bl nx en) : ∀ k, ow r k → k < W.heap.size := by
  rintro k ⟨i, hi, e⟩
  exact ((h.row i hi).lt k e).2
/-- a number is stored -/
theorem Rh.set (h : Rh w0 W x y M r0 r L bl nx en) {bl' nx' en' : Nat} (j : Nat) (v : Value) (hx : (#[pt y, .int .i64 (M : Int), r 0, .int .i64 (bl : Int), r 1, r 2, .int .i64 (nx : Int), .int .i64 (en : Int)] : Array Value).setIfInBounds j v = #[pt y, .int .i64 (M : Int), r 0, .int .i64 (bl' : Int), r 1, r 2, .int .i64 (nx' : Int), .int .i64 (en' : Int)]) :
    Rh w0 (W.setCell ⟨x, j, none⟩ v) x y M r0 r L bl' nx' en' := by
  have far : ∀ k, k ≠ x → (W.setCell ⟨x, j, none⟩ v).heap[k]? = W.heap[k]? := fun k hk => Below.heap_setCell _ _ _ _ hk
  refine ⟨by rw [Joins.block_setCell h.box, hx], fun i hi => ownsRow_same (h.row i hi) (fun b e => far b (fun q => h.nox ⟨i, hi, q ▸ e⟩)), h.nox, h.ap, h.old, h.chg.trans ⟨rfl, rfl, rfl, by simp, fun k hk hx => far k (fun q => hx (.inl q))⟩⟩
/-- all that is not its own may turn -/
theorem Rh.kept {X : Nat → Prop} (h : Rh w0 W x y M r0 r L bl nx en) (c : Chg X W W') (hx : ∀ k, k = x ∨ ow r k → ¬ X k) : Rh W' W' x y M r r L bl nx en := by
  refine ⟨(c.block x h.ltx (hx x (.inl rfl))).trans h.box, fun i hi => ownsRow_same (h.row i hi) (fun b e => c.block b ((h.row i hi).lt b e).2 (hx b (.inr ⟨i, hi, e⟩))), h.nox, h.ap, fun k q => .inl q, Chg.refl _ _⟩
/-- a list of it is longer by one -/
theorem Rh.more (h : Rh w0 W x y M r0 r L bl nx en) (i : Nat) (hi : i < 3) {o : Obj} {w1 : World} {v' : Value} {z : Int} (G : (W.alloc o).grownBy w1 (r i).ownBlock) (hat : (r i).ownBlock = v'.ownBlock ∨ ∃ q, v'.ownBlock = some q ∧ W.heap.size ≤ q)
    (hown : w1.ownsRow 0 3 1 v' ((L i).length + 1) (ints (L i) ++ [.int .i64 z])) (j : Nat) (r' : Nat → Value) (L' : Nat → List Int) (hr : r' i = v') (hr2 : ∀ k, k ≠ i → r' k = r k) (hL : L' i = L i ++ [z]) (hL2 : ∀ k, k ≠ i → L' k = L k)
    (hx : (#[pt y, .int .i64 (M : Int), r 0, .int .i64 (bl : Int), r 1, r 2, .int .i64 (nx : Int), .int .i64 (en : Int)] : Array Value).setIfInBounds j v' = #[pt y, .int .i64 (M : Int), r' 0, .int .i64 (bl : Int), r' 1, r' 2, .int .i64 (nx : Int), .int .i64 (en : Int)]) :
    Rh w0 (w1.setCell ⟨x, j, none⟩ v') x y M r0 r' L' bl nx en := by
  have lx := h.ltx
  have B : Below W.heap.size W (W.alloc o) := (Below.refl _ W).alloc (Nat.le_refl _) _
  have keep : ∀ k, k < W.heap.size → (r i).ownBlock ≠ some k → w1.heap[k]? = W.heap[k]? := fun k hk hv => (G.block k (by have := B.size; omega) (fun e => hv e.symm)).trans (B.block k hk)
  have far : ∀ k, k ≠ x → (w1.setCell ⟨x, j, none⟩ v').heap[k]? = w1.heap[k]? := fun k hk => Below.heap_setCell _ _ _ _ hk
  have rx : (r i).ownBlock ≠ some x := fun e => h.nox ⟨i, hi, e⟩
  have vx : v'.ownBlock ≠ some x := by rcases hat with e | ⟨q, e, hq⟩; (· rw [← e]; exact rx); (· rw [e]; simp; omega)
  have vo : ∀ k, k < 3 → k ≠ i → v'.ownBlock = none ∨ v'.ownBlock ≠ (r k).ownBlock := by
    intro k hk hki
    rcases hat with e | ⟨q, e, hq⟩
    · rw [← e]; exact h.ap i k hi hk (fun z => hki z.symm)
    · refine .inr (fun z => ?_)
      rw [e] at z
      have := ((h.row k hk).lt q z.symm).2
      omega
  have nox' : ¬ ow r' x := by
    rintro ⟨k, hk, e⟩
    by_cases q : k = i
    · subst q; rw [hr] at e; exact vx e
    · rw [hr2 k q] at e; exact h.nox ⟨k, hk, e⟩
  refine ⟨?_, ?_, nox', ?_, ?_, ?_⟩
  · rw [Joins.block_setCell ((keep x lx rx).trans h.box), hx]
  · intro k hk
    by_cases q : k = i
    · subst q
      rw [hr, hL, ints_snoc, List.length_append]
      exact ownsRow_same hown (fun b e => far b (fun q => vx (q ▸ e)))
    · rw [hr2 k q, hL2 k q]
      refine ownsRow_same (h.row k hk) (fun b e => (far b (fun z => h.nox ⟨k, hk, z ▸ e⟩)).trans (keep b ((h.row k hk).lt b e).2 (fun z => ?_)))
      rcases h.ap k i hk hi q with z2 | z2
      · rw [z2] at e; cases e
      · exact z2 (e.trans z.symm)
  · intro k1 k2 h1 h2 hne
    by_cases q1 : k1 = i
    · subst q1
      rw [hr, hr2 k2 (fun z => hne z.symm)]
      exact vo k2 h2 (fun z => hne z.symm)
    · by_cases q2 : k2 = i
      · subst q2
        rw [hr, hr2 k1 q1]
        rcases vo k1 h1 q1 with z | z
        · cases hb : (r k1).ownBlock with
          | none => exact .inl rfl
          | some b => exact .inr (by rw [z]; simp)
        · exact .inr (fun e => z e.symm)
      · rw [hr2 k1 q1, hr2 k2 q2]; exact h.ap k1 k2 h1 h2 hne
  · rintro k ⟨j', hj', e⟩
    by_cases q : j' = i
    · subst q
      rw [hr] at e
      rcases hat with z | ⟨b, z, hb⟩
      · exact h.old k ⟨j', hj', z.trans e⟩
      · rw [z] at e; cases e; exact .inr (by have := h.chg.size; omega)
    · rw [hr2 j' q] at e; exact h.old k ⟨j', hj', e⟩
  · refine ⟨G.os.trans h.chg.os, G.tape.trans h.chg.tape, G.output.trans h.chg.output, by have := h.chg.size; have := G.size; have := B.size; simp; omega, fun k hk hX => ?_⟩
    have kx : k ≠ x := fun e => hX (.inl e)
    have sz := h.chg.size
    refine (far k kx).trans ((keep k (by omega) (fun e => ?_)).trans (h.chg.block k hk hX))
    rcases h.old k ⟨i, hi, e⟩ with z | z
    · exact hX (.inr z)
    · omega
end
end Go.Proofs.Ytcallmfdigfhnaa
