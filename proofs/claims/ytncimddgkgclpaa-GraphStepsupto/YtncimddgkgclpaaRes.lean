/- Plain: where going on ends, under other numbers. -/
import Derived.Test.YtncimddgkgclpaaRer
namespace Go.Proofs.Ytncimddgkgclpaa
set_option linter.unusedVariables false
set_option linter.unusedSimpArgs false
set_option linter.unusedSectionVars false

/-- the same nodes under other numbers -/
structure RenG (g g' : List Nd) (φ : Nat → Nat) : Prop where
  len : g'.length = g.length
  lt : ∀ n, n < g.length → φ n < g.length
  inj : ∀ a b, a < g.length → b < g.length → φ a = φ b → a = b
  k : ∀ n, n < g.length → (nd0 g' (φ n)).k = (nd0 g n).k
  i : ∀ n, n < g.length → (nd0 g' (φ n)).i = (nd0 g n).i
  ns : ∀ n, n < g.length → (nd0 g' (φ n)).ns = (nd0 g n).ns
  ks : ∀ n, n < g.length → ∀ i, kdO g'.length (nd0 g' (φ n)) i = (kdO g.length (nd0 g n) i).map φ
section
variable {g g' : List Nd} {φ : Nat → Nat} (R : RenG g g' φ)
include R
theorem RenG.fd {n c : Nat} (hn : n < g.length) (hc : c < g.length) : fdO g'.length (nd0 g' (φ n)) (nd0 g' (φ c)) = (fdO g.length (nd0 g n) (nd0 g c)).map φ := by
  unfold fdO
  rw [R.ns n hn, R.k c hc, R.i c hc, R.i n hn]
  cases (nd0 g n).ns with
  | nil => rfl
  | cons j r =>
    simp only
    split
    · exact R.ks c hc _
    · rfl
theorem RenG.st {t : Nat} (ih : ∀ n x, Ld g t n x → Ld g' t (φ n) (φ x)) {a b : Nat} (h : St (Ld g t) a b) : St (Ld g' t) (φ a) (φ b) := by
  induction h with
  | refl => exact .refl _
  | step r _ ih2 => exact .step (ih _ _ r) ih2
theorem RenG.stLt {t : Nat} {a b : Nat} (h : St (Ld g t) a b) (ha : a < g.length) : b < g.length := by
  induction h with
  | refl => exact ha
  | step r _ ih2 => exact ih2 r.lt.2
theorem RenG.ld : ∀ (t n x : Nat), Ld g t n x → Ld g' t (φ n) (φ x)
  | 0, _, _, h => h.elim
  | t + 1, n, x, ⟨l, .inl h⟩ => ⟨by rw [R.len]; exact R.lt n l, .inl ⟨by rw [R.k n l]; exact h.1, by rw [R.ks n l, h.2]; rfl⟩⟩
  | t + 1, n, x, ⟨l, .inr ⟨k, q, c, e1, e2, e3⟩⟩ => by
    have hc := R.stLt e2 (kdO_lt e1)
    exact ⟨by rw [R.len]; exact R.lt n l, .inr ⟨by rw [R.k n l]; exact k, φ q, φ c, by rw [R.ks n l, e1]; rfl, R.st (RenG.ld t) e2, by rw [R.fd l hc, e3]; rfl⟩⟩
theorem RenG.stB {t : Nat} (ih : ∀ n x', n < g.length → Ld g' t (φ n) x' → ∃ x, x' = φ x ∧ Ld g t n x) {a' b' : Nat} (h : St (Ld g' t) a' b') : ∀ a, a < g.length → a' = φ a → ∃ b, b' = φ b ∧ St (Ld g t) a b := by
  induction h with
  | refl => exact fun a _ e => ⟨a, e, .refl _⟩
  | step r _ ih2 =>
    intro a ha e
    subst e
    obtain ⟨x, rfl, hx⟩ := ih a _ ha r
    obtain ⟨b, rfl, hb⟩ := ih2 x hx.lt.2 rfl
    exact ⟨b, rfl, .step hx hb⟩
theorem RenG.ldB : ∀ (t n x' : Nat), n < g.length → Ld g' t (φ n) x' → ∃ x, x' = φ x ∧ Ld g t n x
  | 0, _, _, _, h => h.elim
  | t + 1, n, x', l, ⟨_, .inl h⟩ => by
    have h2 := h.2
    rw [R.ks n l] at h2
    obtain ⟨x, e, rfl⟩ := Option.map_eq_some_iff.1 h2
    exact ⟨x, rfl, l, .inl ⟨by rw [← R.k n l]; exact h.1, e⟩⟩
  | t + 1, n, x', l, ⟨_, .inr ⟨k, q', c', e1, e2, e3⟩⟩ => by
    rw [R.ks n l] at e1
    obtain ⟨q, eq, rfl⟩ := Option.map_eq_some_iff.1 e1
    obtain ⟨c, rfl, hs⟩ := R.stB (RenG.ldB t) e2 q (kdO_lt eq) rfl
    have hc := R.stLt hs (kdO_lt eq)
    rw [R.fd l hc] at e3
    obtain ⟨x, ex, rfl⟩ := Option.map_eq_some_iff.1 e3
    exact ⟨x, rfl, l, .inr ⟨by rw [← R.k n l]; exact k, q, c, eq, hs, ex⟩⟩
theorem RenG.lead {n x : Nat} : Lead g n x → Lead g' (φ n) (φ x) := fun ⟨t, h⟩ => ⟨t, R.ld t n x h⟩
theorem RenG.leadB {n x' : Nat} (hn : n < g.length) : Lead g' (φ n) x' → ∃ x, x' = φ x ∧ Lead g n x := fun ⟨t, h⟩ => by
  obtain ⟨x, e, hx⟩ := R.ldB t n x' hn h
  exact ⟨x, e, t, hx⟩
theorem RenG.en {n e : Nat} (hn : n < g.length) (h : En g n e) : En g' (φ n) (φ e) := by
  have he := h.st.lt hn
  refine ⟨?_, fun x hx => ?_⟩
  · have : ∀ {a b : Nat}, St (Lead g) a b → St (Lead g') (φ a) (φ b) := fun q => by
      induction q with
      | refl => exact .refl _
      | step r _ ih => exact .step (R.lead r) ih
    exact this h.st
  · obtain ⟨y, _, hy⟩ := R.leadB he hx
    exact h.no y hy
theorem RenG.enB {n e' : Nat} (hn : n < g.length) (h : En g' (φ n) e') : ∃ e, e' = φ e ∧ En g n e := by
  have : ∀ {a' b' : Nat}, St (Lead g') a' b' → ∀ a, a < g.length → a' = φ a → ∃ b, b' = φ b ∧ St (Lead g) a b := fun q => by
    induction q with
    | refl => exact fun a _ e => ⟨a, e, .refl _⟩
    | step r _ ih2 =>
      intro a ha e
      subst e
      obtain ⟨x, rfl, hx⟩ := R.leadB ha r
      obtain ⟨b, rfl, hb⟩ := ih2 x hx.lt.2 rfl
      exact ⟨b, rfl, .step hx hb⟩
  obtain ⟨e, rfl, hs⟩ := this h.st n hn rfl
  exact ⟨e, rfl, hs, fun x hx => h.no _ (R.lead hx)⟩
theorem RenG.endF {n : Nat} (hn : n < g.length) : endF g' (φ n) = (endF g n).map φ := by
  cases h : Ytncimddgkgclpaa.endF g n with
  | some e => exact endF_en (R.en hn (endF_some h))
  | none =>
    cases h' : Ytncimddgkgclpaa.endF g' (φ n) with
    | none => rfl
    | some e' =>
      obtain ⟨e, _, he⟩ := R.enB hn (endF_some h')
      rw [endF_en he] at h
      cases h
end
end Go.Proofs.Ytncimddgkgclpaa
