/- The way's forward. -/
import Derived.Test.YtncimddgkgclpaaWyd
namespace Go.Proofs.Ytncimddgkgclpaa
open Go.RowKit
set_option linter.unusedVariables false
set_option linter.unusedSimpArgs false
set_option maxRecDepth 100000

/-! ## Plain -/
def cnt (p : Nat → Bool) : Nat → Nat
  | 0 => 0
  | n + 1 => (if p n then 1 else 0) + cnt p n
theorem cnt_le {p q : Nat → Bool} : ∀ (n : Nat), (∀ i, i < n → p i = true → q i = true) → cnt p n ≤ cnt q n
  | 0, _ => Nat.le_refl _
  | n + 1, h => by
    have := cnt_le n fun i hi => h i (by omega)
    have h2 := h n (by omega)
    unfold cnt
    cases hp : p n <;> cases hq : q n <;> simp_all <;> omega
theorem cnt_lt {p q : Nat → Bool} : ∀ (n : Nat) {x : Nat}, x < n → (∀ i, i < n → p i = true → q i = true) → q x = true → p x = false → cnt p n < cnt q n
  | 0, _, h, _, _, _ => by omega
  | n + 1, x, hx, h, h1, h2 => by
    unfold cnt
    by_cases e : x = n
    · subst e
      have := cnt_le x fun i hi => h i (by omega)
      rw [h1, h2]
      simp
      omega
    · have := cnt_lt n (show x < n by omega) (fun i hi => h i (by omega)) h1 h2
      have h3 := h n (by omega)
      cases hp : p n <;> cases hq : q n <;> simp_all <;> omega
theorem cnt_max (p : Nat → Bool) : ∀ n, cnt p n ≤ n
  | 0 => Nat.le_refl _
  | n + 1 => by have := cnt_max p n; unfold cnt; split <;> omega
/-- nodes of which nothing is known yet -/
def fresh (E S : Nat → Int) (m : Nat) : Nat := cnt (fun i => E i == -2 && S i == -1) m
/-- what a way knows -/
structure Iw (g : List Nd) (E S : Nat → Int) (P : List (Nat × Bool)) : Prop where
  e : ∀ i, i < g.length → E i = -2 ∨ E i = oI (endF g i)
  p : ∀ i (h : i < P.length), P[i].1 < g.length ∧ E P[i].1 = -2 ∧ S P[i].1 = i
  s : ∀ i, i < g.length → E i = -2 → S i = -1 ∨ ∃ (k : Nat) (h : k < P.length), S i = k ∧ P[k].1 = i
theorem oI_ne (o : Option Nat) : oI o ≠ -2 := by cases o <;> simp [oI] <;> omega
theorem Iw.set {g : List Nd} {E S : Nat → Int} {P : List (Nat × Bool)} (h : Iw g E S P) {x : Nat} (hx : S x = -1) (he : endF g x = some x) : Iw g (upd E x x) S P := by
  refine ⟨fun i hi => ?_, fun i hi => ?_, fun i hi e => ?_⟩
  · by_cases q : i = x
    · subst q; rw [upd_at, he]; exact .inr rfl
    · rw [upd_far _ _ q]; exact h.e i hi
  · obtain ⟨a, b, c⟩ := h.p i hi
    have : P[i].1 ≠ x := fun q => by rw [q, hx] at c; omega
    rw [upd_far _ _ this]
    exact ⟨a, b, c⟩
  · by_cases q : i = x
    · subst q; rw [upd_at] at e; omega
    · rw [upd_far _ _ q] at e; exact h.s i hi e
theorem Iw.push {g : List Nd} {E S : Nat → Int} {P : List (Nat × Bool)} (h : Iw g E S P) {x : Nat} (hx : S x = -1) (he : E x = -2) (hg : x < g.length) (b : Bool) : Iw g E (upd S x P.length) (P ++ [(x, b)]) := by
  refine ⟨h.e, fun i hi => ?_, fun i hi e => ?_⟩
  · by_cases q : i < P.length
    · rw [List.getElem_append_left q]
      obtain ⟨a, b, c⟩ := h.p i q
      have : P[i].1 ≠ x := fun q => by rw [q, hx] at c; omega
      rw [upd_far _ _ this]
      exact ⟨a, b, c⟩
    · have e : i = P.length := by simp at hi; omega
      subst e
      simp only [List.getElem_concat_length]
      exact ⟨hg, he, upd_at _ _ _⟩
  · by_cases q : i = x
    · subst q
      exact .inr ⟨P.length, by simp, upd_at _ _ _, by simp⟩
    · rw [upd_far _ _ q]
      rcases h.s i hi e with r | ⟨k, hk, r1, r2⟩
      · exact .inl r
      · exact .inr ⟨k, by simp; omega, r1, by rw [List.getElem_append_left hk]; exact r2⟩
theorem fresh_set {E S : Nat → Int} {m x : Nat} (hx : x < m) (y : Int) (hy : y ≠ -2) : fresh (upd E x y) S m ≤ fresh E S m :=
  cnt_le m fun i hi h => by
    by_cases q : i = x
    · subst q; simp [upd_at, hy] at h
    · rwa [upd_far _ _ q] at h
theorem fresh_push {E S : Nat → Int} {m x : Nat} (hx : x < m) (k : Nat) (h1 : E x = -2) (h2 : S x = -1) : fresh E (upd S x k) m < fresh E S m :=
  cnt_lt m hx (fun i hi h => by
    by_cases q : i = x
    · subst q; simp [upd_at] at h <;> omega
    · rwa [upd_far _ _ q] at h) (by simp [h1, h2]) (by simp [upd_at] <;> omega)
/-- the ring that begins at x -/
theorem Iw.ring {g : List Nd} {E S : Nat → Int} {P : List (Nat × Bool)} {n0 x k : Nat} (c : Chn g P n0 x) (hk : k < P.length) (e : P[k].1 = x) : endF g x = ringO (P.drop k) := by
  have hd : P = P.take k ++ P.drop k := (List.take_append_drop k P).symm
  rw [hd] at c
  obtain ⟨y, _, c2⟩ := c.split
  have hne : P.drop k ≠ [] := fun q => by have := congrArg List.length q; simp at this; omega
  have hy : y = x := by
    rw [List.drop_eq_getElem_cons hk] at c2
    exact c2.1.symm.trans e
  subst hy
  exact ring_end c2 hne
theorem nx_none {g : List Nd} {x : Nat} (h : nxO g.length (nd0 g x) = none) : endF g x = some x := by
  refine endF_self fun y l => ?_
  unfold nxO at h
  split at h
  · exact kid_no h y l
  · rename_i q
    exact kind_no (fun e => q (.inl e)) (fun e => q (.inr e)) y l
theorem nx_some {g : List Nd} {x y : Nat} (hx : x < g.length) (h : nxO g.length (nd0 g x) = some y) : Wt g (x, decide ((nd0 g x).k = 8)) y := by
  unfold nxO at h
  split at h
  · rename_i q
    by_cases e : (nd0 g x).k = 8
    · rw [decide_eq_true e]
      exact Lead.ind hx e h
    · rw [decide_eq_false e]
      have := q.resolve_left e
      simp [Wt, hx, this, h]
  · cases h

/-! ## In memory -/
section
variable {w0 w w' : World} {wb eb sb ca : Nat} {g : List Nd} {a : Option Addr} {E S : Nat → Int} {v : Value} {P : List (Nat × Bool)}
theorem Wy.ltm (h : Wy w0 w wb eb sb g a ca E S v P) : wb < w.heap.size := (Array.getElem?_eq_some_iff.1 h.box).1
theorem Wy.no (h : Wy w0 w wb eb sb g a ca E S v P) : wb ≠ eb ∧ wb ≠ sb ∧ v.ownBlock ≠ some wb ∧ v.ownBlock ≠ some eb ∧ v.ownBlock ≠ some sb := by
  obtain ⟨ce, e1, _⟩ := h.ends
  obtain ⟨cs, s1, _⟩ := h.spots
  refine ⟨ne_kind h.box e1 (by decide), ne_kind h.box s1 (by decide), ?_⟩
  rcases h.path.2 with ⟨e, _⟩ | ⟨pb, cap, cur, rfl, hb, hg, _⟩
  · subst e; exact ⟨by simp [Value.ownBlock], by simp [Value.ownBlock], by simp [Value.ownBlock]⟩
  · refine ⟨?_, ?_, ?_⟩ <;> intro q <;> have q := Option.some.inj q <;> simp only at q
    · exact ne_kind hg h.box (by decide) q
    · exact ne_kind hg e1 (by decide) q
    · exact ne_kind hg s1 (by decide) q
theorem own_set {w : World} {base size n : Nat} {e : TypeId} {v : Value} {xs : List Value} (h : w.ownsRow base e size v n xs) {b : Nat} (hb : v.ownBlock ≠ some b) (i : Nat) (u : Value) : (w.setCell ⟨b, i, none⟩ u).ownsRow base e size v n xs :=
  ownsRow_setCell_other h hb u
theorem Wy.setE (h : Wy w0 w wb eb sb g a ca E S v P) {x : Nat} (hx : x < g.length) (y : Int) : Wy w0 (w.setCell ⟨eb, x, none⟩ (.int .i64 y)) wb eb sb g a ca (upd E x y) S v P := by
  obtain ⟨n1, n2, n3, n4, n5⟩ := h.no
  exact ⟨h.bel.setCell h.lo.2.1 _, h.nds, (Below.heap_setCell _ _ _ _ n1).trans h.box, h.ends.set hx y, h.spots.block fun o e _ => (Below.heap_setCell _ _ _ _ (Ne.symm h.ne)).trans e, own_set h.path n4 _ _, h.lo, h.ne⟩
theorem Wy.setS (h : Wy w0 w wb eb sb g a ca E S v P) {x : Nat} (hx : x < g.length) (y : Int) : Wy w0 (w.setCell ⟨sb, x, none⟩ (.int .i64 y)) wb eb sb g a ca E (upd S x y) v P := by
  obtain ⟨n1, n2, n3, n4, n5⟩ := h.no
  exact ⟨h.bel.setCell h.lo.2.2 _, h.nds, (Below.heap_setCell _ _ _ _ n2).trans h.box, h.ends.block fun o e _ => (Below.heap_setCell _ _ _ _ h.ne).trans e, h.spots.set hx y, own_set h.path n5 _ _, h.lo, h.ne⟩
/-- the path grows -/
theorem Wy.push {w3 : World} {v' : Value} {x : Nat} {b : Bool} (h : Wy w0 w wb eb sb g a ca E S v P)
    (own : w3.ownsRow w0.heap.size 67 2 v' (P.length + 1) (flat P ++ [.int .i64 x, .bool b])) (gr : w.grownBy w3 v.ownBlock) (nv' : v'.ownBlock ≠ some wb) :
    w3.cell? ⟨wb, 2, none⟩ = some v ∧ w3.frozen? ⟨wb, 2, none⟩ = false ∧ Hid (Wy w0 (w3.setCell ⟨wb, 2, none⟩ v') wb eb sb g a ca E S v' (P ++ [(x, b)])) ∧ Hid (Kx w0.heap.size (Xw wb eb sb) w (w3.setCell ⟨wb, 2, none⟩ v')) := by
  obtain ⟨n1, n2, n3, n4, n5⟩ := h.no
  have st : ∀ k o, w.heap[k]? = some o → v.ownBlock ≠ some k → w3.heap[k]? = some o := fun k o e q => (gr.block k (Array.getElem?_eq_some_iff.1 e).1 (fun e' => q e'.symm)).trans e
  have bx := st _ _ h.box n3
  have lo : ∀ k, v.ownBlock = some k → w0.heap.size ≤ k := fun k e => (h.path.lt k e).1
  have B3 : Below w0.heap.size w w3 := ⟨gr.os, gr.tape, gr.output, gr.size, fun k hk => gr.block k (Nat.lt_of_lt_of_le hk h.bel.size) (fun e => by have := lo k e.symm; omega)⟩
  have B4 : Below w0.heap.size w (w3.setCell ⟨wb, 2, none⟩ v') := B3.setCell h.lo.1 _
  refine ⟨by rw [Joins.cell_of_block bx]; rfl, Joins.unfrozen_of_block bx _, ⟨?_⟩, ⟨B4, fun k o h1 h2 h3 => ?_⟩⟩
  · refine ⟨h.bel.trans B4, h.nds, ?_, ?_, ?_, ?_, h.lo, h.ne⟩
    · rw [Joins.block_setCell bx]; rfl
    · exact h.ends.block fun o e _ => (Below.heap_setCell _ _ _ _ (Ne.symm n1)).trans (st _ _ e n4)
    · exact h.spots.block fun o e _ => (Below.heap_setCell _ _ _ _ (Ne.symm n2)).trans (st _ _ e n5)
    · have := own_set own nv' 2 v'
      simpa [flat_app, flat] using this
  · refine (Below.heap_setCell _ _ _ _ (fun e => h2 (by have e' : k = wb := e; exact .inl e'))).trans (st k o h1 (fun e => ?_))
    rcases h.path.2 with ⟨q, _⟩ | ⟨pb, cap, cur, rfl, hb, hg, _⟩
    · subst q; simp [Value.ownBlock] at e
    · have e' : pb = k := Option.some.inj e
      subst e'
      rw [hg] at h1
      cases h1
      exact h3 _ _ rfl
end
end Go.Proofs.Ytncimddgkgclpaa
