/- The document's meet. -/
import Derived.Test.YtncimddgkgclpaaMtk
import Derived.Test.YtncimddgkgclpaaLea
namespace Go.Proofs.Ytncimddgkgclpaa
open Go.RowKit
set_option linter.unusedVariables false
set_option linter.unusedSimpArgs false
set_option maxRecDepth 100000

theorem vis_cons {D : Nat → List Int} : ∀ (F : Nat) (x : Int) (l : List Int) (met : List Nat), vis D F (x :: l) met = vis D F l (vis D F [x] met)
  | 0, _, _, _ => by simp [vis]
  | f + 1, x, l, met => by
    rw [vis]
    conv => rhs; rw [vis]
    split
    · rw [vis_nil]
    · rw [vis_nil]
theorem vis_no {D : Nat → List Int} (F : Nat) {x : Int} {met : List Nat} (h : ¬ newP met x) : vis D F [x] met = met := by
  cases F with
  | zero => simp [vis]
  | succ f => rw [vis, if_neg h, vis_nil]
theorem vis_yes {D : Nat → List Int} {f : Nat} {x : Int} {met : List Nat} (h : newP met x) : vis D (f + 1) [x] met = vis D f (D x.toNat) (met ++ [x.toNat]) := by
  rw [vis, if_pos h, vis_nil]
def nts (l : List Nat) : List Value := l.map fun (n : Nat) => Value.int .i64 (n : Int)
/-- what is met, and the marks, in memory -/
structure Ms (w0 w : World) (lo m sb : Nat) (v : Value) (met : List Nat) : Prop where
  bel : Below w0.heap.size w0 w
  row : w.ownsRow lo 3 1 v met.length (nts met)
  seen : ∃ cs, w.heap[sb]? = some (.cells cs 4 (0, 0)) ∧ cs.size = m ∧ ∀ i, i < m → cs[i]? = some (.bool (pos met i).isSome)
  cnt : met.length + unm m met ≤ m
  lo : w0.heap.size ≤ lo ∧ lo ≤ w.heap.size ∧ w0.heap.size ≤ sb
section
variable {w0 w w' : World} {lo m sb : Nat} {v : Value} {met : List Nat}
theorem Ms.later (h : Ms w0 w lo m sb v met) (B : Below w.heap.size w w') : Ms w0 w' lo m sb v met := by
  obtain ⟨cs, s1, s2⟩ := h.seen
  exact ⟨h.bel.trans (B.mono h.bel.size), own_later h.row B, ⟨cs, (B.block _ (Array.getElem?_eq_some_iff.1 s1).1).trans s1, s2⟩, h.cnt, h.lo.1, Nat.le_trans h.lo.2.1 B.size, h.lo.2.2⟩
theorem Ms.mark (h : Ms w0 w lo m sb v met) {p : Nat} (hp : p < m) : w.cell? ⟨sb, p, none⟩ = some (.bool (pos met p).isSome) ∧ w.frozen? ⟨sb, p, none⟩ = false := by
  obtain ⟨cs, s1, s2, s3⟩ := h.seen
  exact ⟨by rw [Joins.cell_of_block s1]; exact s3 p hp, Joins.unfrozen_of_block s1 _⟩
theorem Ms.form (h : Ms w0 w lo m sb v met) : ∃ ga cap, v = .slice ga met.length cap := by
  rcases h.row.2 with ⟨rfl, e⟩ | ⟨pb, cap, cur, rfl, _⟩
  · exact ⟨none, 0, by rw [e]⟩
  · exact ⟨_, _, rfl⟩
/-- a node is marked and written down -/
theorem Ms.push (h : Ms w0 w lo m sb v met) {p : Nat} (hp : p < m) (hn : pos met p = none) {W W' : World} {v' : Value} (hW : W = w.setCell ⟨sb, p, none⟩ (.bool true)) {X : World} (B : Below W.heap.size W X)
    (hr : W'.ownsRow lo 3 1 v' (met.length + 1) ((nts met) ++ [.int .i64 p])) (hg : X.grownBy W' v.ownBlock) :
    Ms w0 W' lo m sb v' (met ++ [p]) ∧ Ky w0.heap.size (fun _ => False) [3, 4] w W' ∧ unm m (met ++ [p]) < unm m met := by
  obtain ⟨cs, s1, s2, s3⟩ := h.seen
  have t1 := Joins.block_setCell s1 (i := p) (.bool true)
  rw [← hW] at t1
  have hnb : v.ownBlock ≠ some sb := fun e => by
    rcases h.row.2 with ⟨q, _⟩ | ⟨pb, cap, cur, q, hb, hgg, _⟩
    · subst q; simp [Value.ownBlock] at e
    · subst q
      have e' : pb = sb := Option.some.inj e
      subst e'
      exact ne_kind hgg s1 (by decide) rfl
  have r1 : W.ownsRow lo 3 1 v met.length (nts met) := by rw [hW]; exact own_set h.row hnb _ _
  have r2 := own_later r1 B
  have K1 : Ky w0.heap.size (fun _ => False) [3, 4] w W := by rw [hW]; exact Ky.set s1 (by decide) h.lo.2.2
  have hsz : w0.heap.size ≤ W.heap.size := Nat.le_trans h.bel.size K1.bel.size
  have K2 : Ky w0.heap.size (fun _ => False) [3, 4] W X := Ky.later hsz B
  have hX : w0.heap.size ≤ X.heap.size := Nat.le_trans hsz B.size
  have r2' : X.ownsRow w0.heap.size 3 1 v met.length (nts met) := by
    obtain ⟨hl, q⟩ := r2
    refine ⟨hl, ?_⟩
    rcases q with e | ⟨pb, cap, cur, e, hb, q⟩
    · exact .inl e
    · exact .inr ⟨pb, cap, cur, e, Nat.le_trans h.lo.1 hb, q⟩
  have K3 : Ky w0.heap.size (fun _ => False) [3, 4] X W' := Ky.own hg r2' (by decide) hX
  have t2 : X.heap[sb]? = some (.cells (cs.setIfInBounds p (.bool true)) 4 (0, 0)) := (B.block _ (Array.getElem?_eq_some_iff.1 t1).1).trans t1
  have t3 : W'.heap[sb]? = some (.cells (cs.setIfInBounds p (.bool true)) 4 (0, 0)) := by
    exact (hg.block sb (Array.getElem?_eq_some_iff.1 t2).1 (fun e => hnb e.symm)).trans t2
  have K := (K1.trans K2).trans K3
  have hu := unm_app (m := m) hp hn
  refine ⟨⟨h.bel.trans K.bel, by simpa [nts] using hr, ⟨_, t3, by simp [s2], fun i hi => ?_⟩, by have := h.cnt; simp; omega, h.lo.1, Nat.le_trans h.lo.2.1 (Nat.le_trans K1.bel.size (Nat.le_trans B.size hg.size)), h.lo.2.2⟩, K, hu⟩
  by_cases e : i = p
  · subst e
    simp [s2, hi, pos_app met i i hn]
  · rw [Array.getElem?_setIfInBounds_ne (by omega), s3 i hi, pos_app met p i hn, if_neg (by omega)]
end
end Go.Proofs.Ytncimddgkgclpaa
