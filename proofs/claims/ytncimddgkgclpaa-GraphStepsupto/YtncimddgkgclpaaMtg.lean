/- A meeting: the stack of what is left to be gone into. -/
import Derived.Test.YtncimddgkgclpaaMtf
namespace Go.Proofs.Ytncimddgkgclpaa
open Go.RowKit
set_option linter.unusedVariables false
set_option linter.unusedSimpArgs false
set_option maxRecDepth 100000

/-- the cells of lists that are left -/
def SR (lo : Nat) (X : Nat → Prop) (w : World) : List (List Int) → List Value → Prop
  | [], cs => cs = []
  | l :: r, cs => ∃ o c cs', cs = .slice o l.length c :: cs' ∧ Fs lo X w .i64 3 o c l ∧ SR lo X w r cs'
section
variable {lo : Nat} {X : Nat → Prop} {w w' : World}
theorem SR.map (h1 : ∀ {o c l}, Fs lo X w .i64 3 o c l → Fs lo X w' .i64 3 o c l) : ∀ {l : List (List Int)} {cs : List Value}, SR lo X w l cs → SR lo X w' l cs
  | [], _, h => h
  | n :: r, _, ⟨o, c, cs', e, p, t⟩ => ⟨o, c, cs', e, h1 p, SR.map h1 t⟩
theorem SR.len : ∀ {l : List (List Int)} {cs : List Value}, SR lo X w l cs → cs.length = l.length
  | [], _, h => by have h' : _ = [] := h; rw [h']; rfl
  | n :: r, _, ⟨o, c, cs', e, p, t⟩ => by rw [e]; simp [SR.len t]
theorem SR.snoc : ∀ {l : List (List Int)} {cs : List Value}, SR lo X w l cs → ∀ {x : List Int} {o : Option Addr} {c : Nat}, Fs lo X w .i64 3 o c x → SR lo X w (l ++ [x]) (cs ++ [.slice o x.length c])
  | [], _, h, x, o, c, p => by
    have h' : _ = [] := h
    subst h'
    exact ⟨o, c, [], rfl, p, rfl⟩
  | n :: r, _, ⟨o, c, cs', e, p, t⟩, x, o', c', q => ⟨o, c, _, by rw [e]; rfl, p, SR.snoc t q⟩
theorem SR.split : ∀ {l : List (List Int)} {x : List Int} {cs : List Value}, SR lo X w (l ++ [x]) cs → ∃ o c ci, cs = ci ++ [.slice o x.length c] ∧ Fs lo X w .i64 3 o c x ∧ SR lo X w l ci
  | [], x, cs, ⟨o, c, cs', e, p, t⟩ => by
    have t' : cs' = [] := t
    subst t'
    exact ⟨o, c, [], e, p, rfl⟩
  | n :: r, x, cs, ⟨o, c, cs', e, p, t⟩ => by
    obtain ⟨o', c', ci, e', p', t'⟩ := SR.split (l := r) t
    exact ⟨o', c', .slice o n.length c :: ci, by rw [e, e']; rfl, p', ⟨o, c, ci, rfl, p, t'⟩⟩
end
section
variable {w : World} {base e n g cap : Nat} {ci : List Value} {u u' : Value}
theorem own_built (hb : base ≤ w.heap.size) : (w.alloc (.cells #[u] e)).ownsRow base e 1 (.slice (some ⟨w.heap.size, 0, none⟩) 1 1) 1 [u] :=
  ⟨rfl, .inr ⟨w.heap.size, 1, #[u], rfl, hb, heap_alloc_new _ _, Nat.le_refl _, by decide, rfl, rfl⟩⟩
theorem own_parts {xs : List Value} (h : w.ownsRow base e 1 (.slice (some ⟨g, 0, none⟩) n cap) n xs) : ∃ cur, base ≤ g ∧ w.heap[g]? = some (.cells cur e (0, 0)) ∧ n ≤ cap ∧ cap ≤ Go.maxLen ∧ cur.size = cap ∧ cur.toList.take n = xs := by
  obtain ⟨hl, ⟨q, _⟩ | ⟨g', cap', cur, q, h1, h2, h3, h4, h5, h6⟩⟩ := h
  · cases q
  · have q1 : g' = g ∧ cap' = cap := by simp at q; exact ⟨q.1.symm, q.2.symm⟩
    obtain ⟨rfl, rfl⟩ := q1
    exact ⟨cur, h1, h2, h3, h4, by omega, by rw [Nat.mul_one] at h6; exact h6⟩
theorem own_setLast (h : w.ownsRow base e 1 (.slice (some ⟨g, 0, none⟩) (n + 1) cap) (n + 1) (ci ++ [u])) (hn : ci.length = n) : (w.setCell ⟨g, n, none⟩ u').ownsRow base e 1 (.slice (some ⟨g, 0, none⟩) (n + 1) cap) (n + 1) (ci ++ [u']) := by
  obtain ⟨cur, h1, h2, h3, h4, h5, h6⟩ := own_parts h
  refine ⟨by simp [hn], .inr ⟨g, cap, _, rfl, h1, Joins.block_setCell h2 _, h3, h4, by simp [h5], ?_⟩⟩
  rw [Nat.mul_one, Array.toList_setIfInBounds, List.take_set, h6, List.set_append_right _ _ (by omega)]
  rw [hn, Nat.sub_self]
  rfl
theorem own_cutLast (h : w.ownsRow base e 1 (.slice (some ⟨g, 0, none⟩) (n + 1) cap) (n + 1) (ci ++ [u])) (hn : ci.length = n) : w.ownsRow base e 1 (.slice (some ⟨g, 0, none⟩) n cap) n ci := by
  obtain ⟨cur, h1, h2, h3, h4, h5, h6⟩ := own_parts h
  refine ⟨by omega, .inr ⟨g, cap, cur, rfl, h1, h2, by omega, h4, by omega, ?_⟩⟩
  have : (cur.toList.take (n + 1)).take n = ci := by rw [h6, List.take_left' hn]
  rwa [List.take_take, Nat.min_eq_left (by omega), ← Nat.mul_one n] at this
theorem own_lastCell (h : w.ownsRow base e 1 (.slice (some ⟨g, 0, none⟩) (n + 1) cap) (n + 1) (ci ++ [u])) (hn : ci.length = n) : w.cell? ⟨g, n, none⟩ = some u ∧ w.frozen? ⟨g, n, none⟩ = false := by
  obtain ⟨cur, h1, h2, h3, h4, h5, h6⟩ := own_parts h
  refine ⟨?_, Joins.unfrozen_of_block h2 _⟩
  rw [Joins.cell_of_block h2]
  have : (cur.toList.take (n + 1))[n]? = some u := by rw [h6, List.getElem?_append_right (by omega), hn, Nat.sub_self]; rfl
  rw [List.getElem?_take_of_lt (by omega)] at this
  simpa using this
theorem own_form {xs : List Value} {v : Value} (h : w.ownsRow base e 1 v (n + 1) xs) : ∃ g cap, v = .slice (some ⟨g, 0, none⟩) (n + 1) cap ∧ n + 1 ≤ cap ∧ cap ≤ Go.maxLen ∧ base ≤ g ∧ g < w.heap.size := by
  obtain ⟨hl, ⟨_, q⟩ | ⟨g, cap, cur, q, h1, h2, h3, h4, h5, h6⟩⟩ := h
  · omega
  · exact ⟨g, cap, q, h3, h4, h1, (Array.getElem?_eq_some_iff.1 h2).1⟩
theorem own_ky {X : Nat → Prop} {T : List Nat} {w' : World} {b0 size : Nat} {v : Value} {xs : List Value} (h : w.ownsRow base e size v n xs) (K : Ky b0 X T w w') (he : e ∉ T) (hX : ∀ k, base ≤ k → ¬ X k) : w'.ownsRow base e size v n xs := by
  refine ⟨h.1, ?_⟩
  rcases h.2 with q | ⟨g, cap, cur, q, h1, h2, r⟩
  · exact .inl q
  · exact .inr ⟨g, cap, cur, q, h1, K.keep _ _ _ _ h2 he (hX _ h1), r⟩
end
theorem info22 : (Try.prog.info? 22).map (fun i => (i.zero, i.size, i.bytes)) = some (some (.slice none 0 0), 1, 24) := by kernel_rfl
/-- a walk between two of its steps -/
def Wlk (base lo : Nat) (X : Nat → Prop) (J : World → Prop) (D : Nat → Nd) (m gb ab mb mm : Nat) (V : List Nat) (w wr : World) (lv : Value) (M : Nat) : Prop :=
  ∃ ls met nv cs, wr.ownsRow lo 22 1 lv ls.length cs ∧ SR lo X wr ls cs ∧ Mt base lo X wr mb mm (lkv gb ab) nv D met ∧ J wr ∧ Ky base X [67, 34, 22, 71] w wr ∧ visS (fun n => (D n).ks) (m + 1) ls.reverse met = V ∧ (∀ l ∈ ls, Plc m l ∧ l.length ≤ 1000000) ∧ met.length + unm m met ≤ m ∧ 2 * unm m met + ls.length = M
/-- all stays below base, and elsewhere all but rows of one type -/
structure Kt (base t : Nat) (w w' : World) : Prop where
  bel : Below base w w'
  keep : ∀ (k : Nat) (o : Obj), w.heap[k]? = some o → (∀ c f, o ≠ .cells c t f) → w'.heap[k]? = some o
section
variable {base lo t mb mm : Nat} {X : Nat → Prop} {w w' a b c : World} {lv nv : Value} {D : Nat → Nd} {met : List Nat}
theorem Kt.trans (h : Kt base t a b) (k : Kt base t b c) : Kt base t a c := ⟨h.bel.trans k.bel, fun i o h1 h2 => k.keep i o (h.keep i o h1 h2) h2⟩
theorem Kt.later (hb : base ≤ a.heap.size) (h : Below a.heap.size a b) : Kt base t a b := ⟨h.mono hb, fun k o h1 _ => (h.block k (Array.getElem?_eq_some_iff.1 h1).1).trans h1⟩
theorem Kt.set {g i : Nat} {v : Value} {cs : Array Value} {f : Nat × Nat} (h : w.heap[g]? = some (.cells cs t f)) (hg : base ≤ g) : Kt base t w (w.setCell ⟨g, i, none⟩ v) :=
  ⟨Below.setCell (Below.refl _ _) hg _, fun k o h1 h2 => (Below.heap_setCell _ _ _ _ (fun e => by
    have e' : k = g := e
    subst e'
    rw [h] at h1
    cases h1
    exact h2 _ _ rfl)).trans h1⟩
theorem Kt.own {size n : Nat} {v : Value} {xs : List Value} (hg : w.grownBy w' v.ownBlock) (r : w.ownsRow base t size v n xs) (hw : base ≤ w.heap.size) : Kt base t w w' := by
  rcases r.2 with ⟨rfl, _⟩ | ⟨g, cap, cur, rfl, hb, hh, _⟩
  · exact ⟨⟨hg.os, hg.tape, hg.output, hg.size, fun k hk => hg.block k (by omega) (by simp [Value.ownBlock])⟩, fun k o h1 h2 => (hg.block k (Array.getElem?_eq_some_iff.1 h1).1 (by simp [Value.ownBlock])).trans h1⟩
  · refine ⟨⟨hg.os, hg.tape, hg.output, hg.size, fun k hk => hg.block k (by omega) (fun e => by have e' := Option.some.inj e; simp only at e'; omega)⟩, fun k o h1 h2 => (hg.block k (Array.getElem?_eq_some_iff.1 h1).1 (fun e => ?_)).trans h1⟩
    have e' : k = g := Option.some.inj e
    subst e'
    rw [hh] at h1
    cases h1
    exact h2 _ _ rfl
theorem Kt.ky (h : Kt base t w w') : Ky base (fun _ => False) [t] w w' := ⟨h.bel, fun k c t' f h1 h2 _ => h.keep k _ h1 (fun c' f' e => by cases e; exact h2 (by simp))⟩
theorem Mt.kt (h : Mt base lo X w mb mm lv nv D met) (K : Kt base 22 w w') : Mt base lo X w' mb mm lv nv D met := by
  obtain ⟨n, f, h1, h2, h3⟩ := h.map
  obtain ⟨cs, r1, r2⟩ := h.row
  obtain ⟨es, c, hm⟩ := h2.isMap
  refine ⟨K.keep _ _ h.box (fun c f e => by cases e), ⟨n, f, h1, h2.of_block ((K.keep _ _ hm (fun c f e => by cases e)).trans hm.symm), h3⟩, ⟨cs, ?_, r2.map (fun q => q.ky (X := X) K.ky.any (by simp)) (fun q => q.ky (X := X) K.ky.any (by simp))⟩, h.lo⟩
  exact own_ky r1 K.ky (by simp) (fun _ _ => id)
end
end Go.Proofs.Ytncimddgkgclpaa
