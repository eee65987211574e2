/- Plain: what is met, when the nodes bear other numbers. -/
import Derived.Test.YtncimddgkgclpaaMef
namespace Go.Proofs.Ytncimddgkgclpaa
set_option linter.unusedVariables false
set_option linter.unusedSimpArgs false

/-- a place's other number -/
def ren (φ : Nat → Nat) (x : Int) : Int := if 0 ≤ x then (φ x.toNat : Int) else -1
theorem ren_pos {φ : Nat → Nat} {x : Int} (h : 0 ≤ x) : ren φ x = (φ x.toNat : Int) := if_pos h
theorem ren_neg {φ : Nat → Nat} {x : Int} (h : ¬ 0 ≤ x) : ren φ x = -1 := if_neg h
section
variable {φ : Nat → Nat} {S : Nat → Prop}
theorem pos_ren (inj : ∀ a b, S a → S b → φ a = φ b → a = b) : ∀ (l : List Nat) (p : Nat), (∀ n ∈ l, S n) → S p → pos (l.map φ) (φ p) = pos l p
  | [], _, _, _ => rfl
  | a :: r, p, h, hp => by
    have ih := pos_ren inj r p (fun n hn => h n (List.mem_cons_of_mem _ hn)) hp
    by_cases e : a = p
    · subst e
      simp [pos]
    · have e' : φ a ≠ φ p := fun q => e (inj _ _ (h a (by simp)) hp q)
      simp only [List.map_cons, pos, if_neg e, if_neg e', ih]
theorem newP_ren (inj : ∀ a b, S a → S b → φ a = φ b → a = b) {met : List Nat} {x : Int} (h : ∀ n ∈ met, S n) (hx : 0 ≤ x → S x.toNat) : newP (met.map φ) (ren φ x) ↔ newP met x := by
  unfold newP
  by_cases q : 0 ≤ x
  · rw [ren_pos q, show ((φ x.toNat : Nat) : Int).toNat = φ x.toNat by omega, pos_ren inj met _ h (hx q)]
    exact ⟨fun e => ⟨q, e.2⟩, fun e => ⟨by omega, e.2⟩⟩
  · rw [ren_neg q]
    exact ⟨fun e => by have := e.1; omega, fun e => absurd e.1 q⟩
theorem vis_ren {D D' : Nat → List Int} (inj : ∀ a b, S a → S b → φ a = φ b → a = b) (hD : ∀ n, S n → D' (φ n) = (D n).map (ren φ)) (hS : ∀ n, S n → ∀ y ∈ D n, 0 ≤ y → S y.toNat) :
    ∀ (f : Nat) (l : List Int) (met : List Nat), (∀ y ∈ l, 0 ≤ y → S y.toNat) → (∀ n ∈ met, S n) → vis D' f (l.map (ren φ)) (met.map φ) = (vis D f l met).map φ ∧ ∀ n ∈ vis D f l met, S n
  | 0, _, _, _, hm => ⟨by simp only [vis], by simpa only [vis] using hm⟩
  | f + 1, [], met, _, hm => ⟨by simp only [List.map_nil, vis_nil], by simpa only [vis_nil] using hm⟩
  | f + 1, x :: l, met, hl, hm => by
    have hl' : ∀ y ∈ l, 0 ≤ y → S y.toNat := fun y hy => hl y (List.mem_cons_of_mem _ hy)
    have hx := hl x (by simp)
    rw [List.map_cons, vis, vis]
    by_cases q : newP met x
    · have hp := hx q.1
      have hm1 : ∀ n ∈ met ++ [x.toNat], S n := fun n hn => by
        rcases List.mem_append.1 hn with h | h
        · exact hm n h
        · have : n = x.toNat := by simpa using h
          rw [this]; exact hp
      rw [if_pos q, if_pos ((newP_ren inj hm hx).2 q)]
      have h1 := vis_ren inj hD hS f (D x.toNat) (met ++ [x.toNat]) (hS _ hp) hm1
      have e : (ren φ x).toNat = φ x.toNat := by rw [ren_pos q.1]; omega
      rw [e, hD _ hp]
      have e2 : met.map φ ++ [φ x.toNat] = (met ++ [x.toNat]).map φ := by simp
      rw [e2, h1.1]
      exact vis_ren inj hD hS (f + 1) l _ hl' h1.2
    · rw [if_neg q, if_neg (fun h => q ((newP_ren inj hm hx).1 h))]
      exact vis_ren inj hD hS (f + 1) l met hl' hm
termination_by f l => (f, l.length)
end

/-! ## What is met is a closed list without doubles -/
theorem pos_mem : ∀ (l : List Nat) (p : Nat), p ∈ l → ∃ i, pos l p = some i
  | a :: r, p, h => by
    by_cases e : a = p
    · exact ⟨0, by simp [pos, e]⟩
    · obtain ⟨i, hi⟩ := pos_mem r p (by rcases List.mem_cons.1 h with q | q
                                        · exact absurd q.symm e
                                        · exact q)
      exact ⟨i + 1, by simp [pos, e, hi]⟩
theorem pos_inj {l : List Nat} {p q i : Nat} (h : pos l p = some i) (k : pos l q = some i) : p = q := by
  have h1 := (pos_lt l p i h).2
  have h2 := (pos_lt l q i k).2
  rw [h1] at h2
  exact Option.some.inj h2
theorem vis_keeps {D : Nat → List Int} : ∀ (f : Nat) (l : List Int) (met : List Nat), ∀ n ∈ met, n ∈ vis D f l met
  | 0, _, _, n, h => by simpa [vis] using h
  | f + 1, [], met, n, h => by rw [vis_nil]; exact h
  | f + 1, x :: l, met, n, h => by
    rw [vis]
    split
    · exact vis_keeps (f + 1) l _ n (vis_keeps f _ _ n (List.mem_append_left _ h))
    · exact vis_keeps (f + 1) l met n h
termination_by f l => (f, l.length)
/-- all of a list is met -/
theorem vis_has {D : Nat → List Int} : ∀ (f : Nat) (l : List Int) (met : List Nat), ∀ x ∈ l, 0 ≤ x → 0 < f → x.toNat ∈ vis D f l met
  | f + 1, x :: l, met, y, hy, h0, _ => by
    rw [vis]
    rcases List.mem_cons.1 hy with e | hy
    · subst e
      split
      · exact vis_keeps _ _ _ _ (vis_keeps _ _ _ _ (by simp))
      · rename_i q
        refine vis_keeps _ _ _ _ ?_
        have : pos met y.toNat ≠ none := fun e => q ⟨h0, e⟩
        cases h : pos met y.toNat with
        | none => exact absurd h this
        | some i => exact List.mem_of_getElem? (pos_lt met _ i h).2
    · split
      · exact vis_has (f + 1) l _ y hy h0 (Nat.succ_pos _)
      · exact vis_has (f + 1) l met y hy h0 (Nat.succ_pos _)
termination_by f l => (f, l.length)
end Go.Proofs.Ytncimddgkgclpaa
