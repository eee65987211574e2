/- Plain: what is met is closed, and bears no doubles. -/
import Derived.Test.YtncimddgkgclpaaRen
namespace Go.Proofs.Ytncimddgkgclpaa
set_option linter.unusedVariables false
set_option linter.unusedSimpArgs false

theorem vis_closed {D : Nat → List Int} {m : Nat} (hD : ∀ n, Plc m (D n)) : ∀ (f : Nat) (l : List Int) (met : List Nat), Plc m l → unm m met < f → ∀ n ∈ vis D f l met, n ∈ met ∨ ∀ y ∈ D n, 0 ≤ y → y.toNat ∈ vis D f l met
  | 0, _, _, _, h, _, _ => by omega
  | f + 1, [], met, _, _, n, hn => by rw [vis_nil] at hn; exact .inl hn
  | f + 1, x :: l, met, hl, h, n, hn => by
    have hl' : Plc m l := fun y hy => hl y (List.mem_cons_of_mem _ hy)
    rw [vis] at hn ⊢
    split at hn
    · rename_i q
      rw [if_pos q]
      have hx := hl x (by simp)
      have h2 := unm_app (m := m) (p := x.toNat) (by have := q.1; omega) q.2
      have h3 := vis_less hD f (D x.toNat) (met ++ [x.toNat]) (hD _)
      rcases vis_closed hD (f + 1) l _ hl' (by omega) n hn with h4 | h4
      · rcases vis_closed hD f (D x.toNat) (met ++ [x.toNat]) (hD _) (by omega) n h4 with h5 | h5
        · rcases List.mem_append.1 h5 with h6 | h6
          · exact .inl h6
          · have e : n = x.toNat := by simpa using h6
            subst e
            exact .inr fun y hy h0 => vis_keeps _ _ _ _ (vis_has f _ _ y hy h0 (by omega))
        · exact .inr fun y hy h0 => vis_keeps _ _ _ _ (h5 y hy h0)
      · exact .inr h4
    · rename_i q
      rw [if_neg q]
      exact vis_closed hD (f + 1) l met hl' h n hn
termination_by f l => (f, l.length)
theorem pos_none_mem {l : List Nat} {p : Nat} (h : pos l p = none) : p ∉ l := fun q => by
  obtain ⟨i, hi⟩ := pos_mem l p q
  rw [h] at hi
  cases hi
/-- no doubles -/
def NoD (l : List Nat) : Prop := ∀ i (h : i < l.length), pos l l[i] = some i
theorem NoD.app {l : List Nat} {p : Nat} (h : NoD l) (hp : pos l p = none) : NoD (l ++ [p]) := fun i hi => by
  rw [pos_app _ _ _ hp]
  rcases Nat.lt_or_ge i l.length with q | q
  · rw [List.getElem_append_left q]
    have : p ≠ l[i] := fun e => pos_none_mem hp (by rw [e]; exact List.getElem_mem q)
    rw [if_neg this]
    exact h i q
  · have e : i = l.length := by simp at hi; omega
    subst e
    simp
theorem vis_nod {D : Nat → List Int} : ∀ (f : Nat) (l : List Int) (met : List Nat), NoD met → NoD (vis D f l met)
  | 0, _, _, h => by simpa only [vis] using h
  | f + 1, [], met, h => by rw [vis_nil]; exact h
  | f + 1, x :: l, met, h => by
    rw [vis]
    split
    · rename_i q
      exact vis_nod (f + 1) l _ (vis_nod f _ _ (h.app q.2))
    · exact vis_nod (f + 1) l met h
termination_by f l => (f, l.length)
theorem NoD.nil : NoD [] := fun i h => absurd h (Nat.not_lt_zero _)
theorem vis_lt {D : Nat → List Int} {m : Nat} (hD : ∀ n, Plc m (D n)) : ∀ (f : Nat) (l : List Int) (met : List Nat), Plc m l → (∀ n ∈ met, n < m) → ∀ n ∈ vis D f l met, n < m
  | 0, _, _, _, h => by simpa only [vis] using h
  | f + 1, [], met, _, h => by rw [vis_nil]; exact h
  | f + 1, x :: l, met, hl, h => by
    have hl' : Plc m l := fun y hy => hl y (List.mem_cons_of_mem _ hy)
    rw [vis]
    split
    · rename_i q
      have hx := hl x (by simp)
      refine vis_lt hD (f + 1) l _ hl' (vis_lt hD f _ _ (hD _) fun n hn => ?_)
      rcases List.mem_append.1 hn with h1 | h1
      · exact h n h1
      · have : n = x.toNat := by simpa using h1
        have := q.1
        omega
    · exact vis_lt hD (f + 1) l met hl' h
termination_by f l => (f, l.length)
/-- more times change nothing -/
theorem vis_more {D : Nat → List Int} {m : Nat} (hD : ∀ n, Plc m (D n)) {l : List Int} {met : List Nat} (hl : Plc m l) : ∀ (f k : Nat), unm m met < f → vis D (f + k) l met = vis D f l met
  | f, 0, _ => rfl
  | f, k + 1, h => by
    rw [← Nat.add_assoc, ← vis_fuel hD (f + k) l met hl (by omega)]
    exact vis_more hD hl f k h
end Go.Proofs.Ytncimddgkgclpaa
