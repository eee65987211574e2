/- The way's end: plain lemmas and memory lemmas. -/
import Derived.Test.YtncimddgkgclpaaWyf
namespace Go.Proofs.Ytncimddgkgclpaa
open Go.RowKit
set_option linter.unusedVariables false
set_option linter.unusedSimpArgs false
set_option maxRecDepth 100000

theorem ex_least {p : Nat → Prop} : (∃ n, p n) → ∃ n, p n ∧ ∀ m, p m → n ≤ m := by
  rintro ⟨n, hn⟩
  induction n using Nat.strongRecOn with
  | _ n ih =>
    by_cases h : ∃ m, m < n ∧ p m
    · obtain ⟨m, h1, h2⟩ := h
      exact ih m h1 h2
    · exact ⟨n, hn, fun m hm => Nat.le_of_not_lt fun q => h ⟨m, q, hm⟩⟩
open Classical in
noncomputable def least (p : Nat → Prop) : Nat := if h : ∃ n, p n then (ex_least h).choose else 0
theorem least_le {p : Nat → Prop} {n : Nat} (h : p n) : least p ≤ n := by
  have hx : ∃ n, p n := ⟨n, h⟩
  unfold least
  rw [dif_pos hx]
  exact (ex_least hx).choose_spec.2 n h
theorem least_at {p : Nat → Prop} (h : ∃ n, p n) : p (least p) := by
  unfold least
  rw [dif_pos h]
  exact (ex_least h).choose_spec.1
/-- how many nodes of a path wait for their kids -/
def nl : List (Nat × Bool) → Nat
  | [] => 0
  | s :: r => (if s.2 = true then 0 else 1) + nl r
theorem nl_app : ∀ p q : List (Nat × Bool), nl (p ++ q) = nl p + nl q
  | [], q => by simp [nl]
  | s :: r, q => by simp only [List.cons_append, nl, nl_app r q]; omega
theorem nl_le : ∀ p : List (Nat × Bool), nl p ≤ p.length
  | [] => Nat.le_refl _
  | s :: r => by have := nl_le r; simp only [nl, List.length_cons]; split <;> omega
theorem Chn.last {g : List Nd} {p : List (Nat × Bool)} {s : Nat × Bool} {n x : Nat} (h : Chn g (p ++ [s]) n x) : Chn g p n s.1 ∧ Wt g s x := by
  obtain ⟨y, h1, e, z, w, e2⟩ := h.split
  have e' : z = x := e2
  subst e'
  exact ⟨e ▸ h1, w⟩
theorem Iw.pop {g : List Nd} {E S : Nat → Int} {Q : List (Nat × Bool)} {l : Nat} {b : Bool} (h : Iw g E S (Q ++ [(l, b)])) {e : Int} (he : e = oI (endF g l)) : Iw g (upd E l e) S Q := by
  have hl := h.p Q.length (by simp)
  simp only [List.getElem_concat_length] at hl
  refine ⟨fun i hi => ?_, fun i hi => ?_, fun i hi q => ?_⟩
  · by_cases q : i = l
    · subst q; rw [upd_at]; exact .inr he
    · rw [upd_far _ _ q]; exact h.e i hi
  · have := h.p i (by simp; omega)
    rw [List.getElem_append_left hi] at this
    have n : Q[i].1 ≠ l := fun q => by rw [q, hl.2.2] at this; have := this.2.2; omega
    rw [upd_far _ _ n]
    exact this
  · have n : i ≠ l := fun e' => by rw [e', upd_at, he] at q; exact oI_ne _ q
    rw [upd_far _ _ n] at q
    rcases h.s i hi q with r | ⟨k, hk, r1, r2⟩
    · exact .inl r
    · have hk' : k < Q.length := by
        have : k < Q.length + 1 := by simpa using hk
        by_cases e : k = Q.length
        · subst e; simp only [List.getElem_concat_length] at r2; exact absurd r2.symm n
        · omega
      exact .inr ⟨k, hk', r1, by rw [List.getElem_append_left hk'] at r2; exact r2⟩
theorem Iw.lead {g : List Nd} {E S : Nat → Int} {Q : List (Nat × Bool)} {l : Nat} {b c : Bool} (h : Iw g E S (Q ++ [(l, b)])) : Iw g E S (Q ++ [(l, c)]) := by
  have f : ∀ i (h : i < (Q ++ [(l, b)]).length) (h' : i < (Q ++ [(l, c)]).length), ((Q ++ [(l, b)])[i]).1 = ((Q ++ [(l, c)])[i]).1 := by
    intro i h h'
    by_cases q : i < Q.length
    · rw [List.getElem_append_left q, List.getElem_append_left q]
    · have e : i = Q.length := by simp at h; omega
      subst e
      simp only [List.getElem_concat_length]
  refine ⟨h.e, fun i hi => ?_, fun i hi q => ?_⟩
  · rw [← f i (by simpa using hi) hi]; exact h.p i (by simpa using hi)
  · rcases h.s i hi q with r | ⟨k, hk, r1, r2⟩
    · exact .inl r
    · exact .inr ⟨k, by simpa using hk, r1, by rw [← f k hk (by simpa using hk)]; exact r2⟩
/-- a KSel in the path whose field is not met is its own end -/
theorem sel_self {g : List Nd} {l x : Nat} (h : Wt g (l, false) x) (f : ∀ c, endF g x = some c → fdO g.length (nd0 g l) (nd0 g c) = none) : endF g l = some l := by
  have h' : l < g.length ∧ (nd0 g l).k = 7 ∧ kdO g.length (nd0 g l) 0 = some x := by simpa [Wt] using h
  exact endF_self fun y => sel_no h'.2.1 h'.2.2 f y
theorem sel_lead {g : List Nd} {l x c f : Nat} (h : Wt g (l, false) x) (e : endF g x = some c) (e2 : fdO g.length (nd0 g l) (nd0 g c) = some f) : Wt g (l, true) f := by
  have h' : l < g.length ∧ (nd0 g l).k = 7 ∧ kdO g.length (nd0 g l) 0 = some x := by simpa [Wt] using h
  have := sel_yes h'.1 h'.2.1 h'.2.2 e e2
  simpa [Wt] using this
section
variable {w0 w w' : World} {wb eb sb ca : Nat} {g : List Nd} {a : Option Addr} {E S : Nat → Int} {v : Value} {Q : List (Nat × Bool)} {l : Nat} {b : Bool}
/-- the last node of the path leads from now on -/
theorem Wy.lead {pb cap : Nat} (h : Wy w0 w wb eb sb g a ca E S (.slice (some ⟨pb, 0, none⟩) (Q.length + 1) cap) (Q ++ [(l, b)])) :
    Wy w0 (w.setCell ⟨pb, Q.length * 2 + 1, none⟩ (.bool true)) wb eb sb g a ca E S (.slice (some ⟨pb, 0, none⟩) (Q.length + 1) cap) (Q ++ [(l, true)]) ∧ Kx w0.heap.size (Xw wb eb sb) w (w.setCell ⟨pb, Q.length * 2 + 1, none⟩ (.bool true)) := by
  obtain ⟨n1, n2, n3, n4, n5⟩ := h.no
  have m3 : wb ≠ pb := fun e => n3 (by rw [e]; rfl)
  have m4 : eb ≠ pb := fun e => n4 (by rw [e]; rfl)
  have m5 : sb ≠ pb := fun e => n5 (by rw [e]; rfl)
  obtain ⟨hl, ⟨e, _⟩ | ⟨pb', cap', cur, e, hb, hg, h1, h2, h3, h4⟩⟩ := h.path
  · cases e
  · have e1 : pb' = pb ∧ cap' = cap := by simp at e; exact ⟨e.1.symm, e.2.symm⟩
    obtain ⟨rfl, rfl⟩ := e1
    have hl2 : (Q ++ [(l, b)]).length = Q.length + 1 := by simp
    rw [hl2] at h1 h4
    have B : Below w0.heap.size w (w.setCell ⟨pb', Q.length * 2 + 1, none⟩ (.bool true)) := (Below.refl _ _).setCell hb _
    refine ⟨⟨h.bel.trans B, h.nds, (Below.heap_setCell _ _ _ _ m3).trans h.box, h.ends.block fun o e _ => (Below.heap_setCell _ _ _ _ m4).trans e, h.spots.block fun o e _ => (Below.heap_setCell _ _ _ _ m5).trans e, ⟨flat_len _, .inr ⟨pb', cap', _, by simp, hb, Joins.block_setCell hg _, by simpa using h1, h2, by simp [h3], ?_⟩⟩, h.lo, h.ne⟩, B, fun k o e1 _ e3 => ?_⟩
    · have hl3 : (Q ++ [(l, true)]).length = Q.length + 1 := by simp
      rw [hl3, flat_app]
      rw [flat_app] at h4
      rw [Array.toList_setIfInBounds]
      have : (cur.toList.set (Q.length * 2 + 1) (Value.bool true)).take ((Q.length + 1) * 2) = (cur.toList.take ((Q.length + 1) * 2)).set (Q.length * 2 + 1) (Value.bool true) := by rw [List.take_set]
      rw [this, h4]
      rw [List.set_append_right _ _ (by rw [flat_len]; omega), flat_len]
      rw [show Q.length * 2 + 1 - Q.length * 2 = 1 by omega]
      rfl
    · refine (Below.heap_setCell _ _ _ _ (fun e => ?_)).trans e1
      have e' : k = pb' := e
      subst e'
      rw [hg] at e1
      cases e1
      exact e3 _ _ rfl
/-- the last node of the path has its end -/
theorem Wy.pop {pb cap : Nat} (h : Wy w0 w wb eb sb g a ca E S (.slice (some ⟨pb, 0, none⟩) (Q.length + 1) cap) (Q ++ [(l, b)])) :
    Wy w0 (w.setCell ⟨wb, 2, none⟩ (.slice (some ⟨pb, 0, none⟩) Q.length cap)) wb eb sb g a ca E S (.slice (some ⟨pb, 0, none⟩) Q.length cap) Q ∧ Kx w0.heap.size (Xw wb eb sb) w (w.setCell ⟨wb, 2, none⟩ (.slice (some ⟨pb, 0, none⟩) Q.length cap)) := by
  obtain ⟨n1, n2, n3, n4, n5⟩ := h.no
  have m3 : wb ≠ pb := fun e => n3 (by rw [e]; rfl)
  obtain ⟨hl, ⟨e, _⟩ | ⟨pb', cap', cur, e, hb, hg, h1, h2, h3, h4⟩⟩ := h.path
  · cases e
  · have e1 : pb' = pb ∧ cap' = cap := by simp at e; exact ⟨e.1.symm, e.2.symm⟩
    obtain ⟨rfl, rfl⟩ := e1
    have hl2 : (Q ++ [(l, b)]).length = Q.length + 1 := by simp
    rw [hl2] at h1 h4
    have B : Below w0.heap.size w (w.setCell ⟨wb, 2, none⟩ (.slice (some ⟨pb', 0, none⟩) Q.length cap')) := (Below.refl _ _).setCell h.lo.1 _
    refine ⟨⟨h.bel.trans B, h.nds, by rw [Joins.block_setCell h.box]; rfl, h.ends.block fun o e _ => (Below.heap_setCell _ _ _ _ (Ne.symm n1)).trans e, h.spots.block fun o e _ => (Below.heap_setCell _ _ _ _ (Ne.symm n2)).trans e, ⟨flat_len Q, .inr ⟨pb', cap', cur, rfl, hb, (Below.heap_setCell _ _ _ _ (Ne.symm m3)).trans hg, by omega, h2, h3, ?_⟩⟩, h.lo, h.ne⟩, Kx.set (.inl rfl) h.lo.1⟩
    have : (cur.toList.take ((Q.length + 1) * 2)).take (Q.length * 2) = flat Q := by
      rw [h4, flat_app, List.take_left' (flat_len Q)]
    rwa [List.take_take, Nat.min_eq_left (by omega)] at this
end
end Go.Proofs.Ytncimddgkgclpaa
