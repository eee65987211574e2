/- Plain: places that are put where they lead, one by one: where going on ends stays. -/
import Derived.Test.YtncimddgkgclpaaRdp
namespace Go.Proofs.Ytncimddgkgclpaa
set_option linter.unusedVariables false
set_option linter.unusedSimpArgs false
set_option linter.unusedSectionVars false

/-- what has become of a place -/
def Ps (g0 : List Nd) (p0 p : Int) : Prop := p = p0 ∨ ∃ a b : Nat, p0 = (a : Int) ∧ p = (b : Int) ∧ a < g0.length ∧ St (Lead g0) a b
structure RdS (g0 g : Gr) : Prop where
  len : g.nd.length = g0.nd.length
  rsl : g.rs.length = g0.rs.length
  rs : ∀ (i : Nat) (p0 p : Int), g0.rs[i]? = some p0 → g.rs[i]? = some p → Ps g0.nd p0 p
  d : ∀ n, n < g0.nd.length → (nd0 g.nd n).k = (nd0 g0.nd n).k ∧ (nd0 g.nd n).i = (nd0 g0.nd n).i ∧ (nd0 g.nd n).ns = (nd0 g0.nd n).ns
  ksl : ∀ n, n < g0.nd.length → (nd0 g.nd n).ks.length = (nd0 g0.nd n).ks.length
  ks : ∀ n, n < g0.nd.length → ∀ (i : Nat) (p0 p : Int), (nd0 g0.nd n).ks[i]? = some p0 → (nd0 g.nd n).ks[i]? = some p → Ps g0.nd p0 p
/-- a place that is a node's: what it was is a node's too -/
theorem Ps.back {g0 : List Nd} {p0 : Int} {n : Nat} (h : Ps g0 p0 n) (hn : n < g0.length) : ∃ a : Nat, p0 = (a : Int) ∧ a < g0.length ∧ St (Lead g0) a n := by
  rcases h with h | ⟨a, b, ea, eb, ha, hs⟩
  · exact ⟨n, h.symm, hn, .refl _⟩
  · obtain rfl : n = b := by omega
    exact ⟨a, ea, ha, hs⟩
theorem Ps.on {g0 : List Nd} {p : Int} {n : Nat} (h : Ps g0 n p) (hn : n < g0.length) : ∃ b : Nat, p = (b : Int) ∧ b < g0.length ∧ St (Lead g0) n b := by
  rcases h with h | ⟨a, b, ea, eb, ha, hs⟩
  · exact ⟨n, h, hn, .refl _⟩
  · obtain rfl : n = a := by omega
    exact ⟨b, eb, hs.lt ha, hs⟩
theorem ldI_lead {g : List Nd} {n : Nat} (hn : n < g.length) (ok : ∀ j ∈ (nd0 g n).ns, 0 ≤ j) (h : 0 ≤ ldI g n) : Lead g n (ldI g n).toNat := by
  have hge : ∀ k : Int, 0 ≤ geI g.length k → (geI g.length k = k ∧ k < g.length) := fun k q => by unfold geI at q ⊢; split <;> omega
  rcases ldI_cases ok (by omega) with ⟨h8, k, hk, e⟩ | ⟨h7, c, j, s, f, hk, hc, hj, hj0, h1, hi, hf, e⟩
  · obtain ⟨e2, hl⟩ := hge k (by omega)
    have e3 : k = (((ldI g n).toNat : Nat) : Int) := by omega
    exact Lead.ind hn h8 (kdO_at (by rw [← e3]; exact hk) (by omega))
  · obtain ⟨e2, hl⟩ := hge f (by omega)
    have e3 : f = (((ldI g n).toNat : Nat) : Int) := by omega
    refine Lead.sel hn h7 (kdO_at hk hc) (.refl _) ?_
    unfold fdO
    rw [hj]
    simp only
    rw [if_pos ⟨h1, hi⟩]
    exact kdO_at (by rw [← e3]; exact hf) (by omega)
section
variable {g0 g : Gr} (R : RdS g0 g)
include R
theorem RdS.old {n i : Nat} {p : Int} (hn : n < g0.nd.length) (h : (nd0 g.nd n).ks[i]? = some p) : ∃ p0, (nd0 g0.nd n).ks[i]? = some p0 ∧ Ps g0.nd p0 p := by
  have hl := (List.getElem?_eq_some_iff.1 h).1
  rw [R.ksl n hn] at hl
  exact ⟨_, List.getElem?_eq_getElem hl, R.ks n hn i _ _ (List.getElem?_eq_getElem hl) h⟩
theorem RdS.new {n i : Nat} {p0 : Int} (hn : n < g0.nd.length) (h : (nd0 g0.nd n).ks[i]? = some p0) : ∃ p, (nd0 g.nd n).ks[i]? = some p ∧ Ps g0.nd p0 p := by
  have hl := (List.getElem?_eq_some_iff.1 h).1
  rw [← R.ksl n hn] at hl
  exact ⟨_, List.getElem?_eq_getElem hl, R.ks n hn i _ _ h (List.getElem?_eq_getElem hl)⟩
theorem RdS.sound : ∀ (t n y : Nat), Ld g.nd t n y → ∃ y0, Lead g0.nd n y0 ∧ St (Lead g0.nd) y0 y
  | 0, _, _, h => h.elim
  | t + 1, n, y, ⟨hn, h⟩ => by
    rw [R.len] at hn
    obtain ⟨d1, d2, d3⟩ := R.d n hn
    rcases h with ⟨k8, e⟩ | ⟨k7, q, c, e1, e2, e3⟩
    · obtain ⟨hk, hy⟩ := kdO_get e
      rw [R.len] at hy
      obtain ⟨p0, hp0, hP⟩ := R.old hn hk
      obtain ⟨a, ea, ha, hs⟩ := hP.back hy
      exact ⟨a, Lead.ind hn (by rw [← d1]; exact k8) (kdO_at (by rw [← ea]; exact hp0) ha), hs⟩
    · obtain ⟨hk, hq⟩ := kdO_get e1
      have hcl : c < g.nd.length := (e2.mono (S := Lead g.nd) fun _ _ r => ⟨t, r⟩).lt hq
      rw [R.len] at hq hcl
      obtain ⟨q0, hq0, hQ⟩ := R.old hn hk
      obtain ⟨a, ea, ha, hs⟩ := hQ.back hq
      have hst : ∀ {u v : Nat}, St (Ld g.nd t) u v → St (Lead g0.nd) u v := fun s => by
        induction s with
        | refl => exact .refl _
        | step r _ ih =>
          obtain ⟨y0, h0, h1⟩ := RdS.sound t _ _ r
          exact .step h0 (h1.trans ih)
      obtain ⟨c1, c2, c3⟩ := R.d c hcl
      unfold fdO at e3
      cases hj : (nd0 g.nd n).ns with
      | nil => rw [hj] at e3; cases e3
      | cons j s =>
        rw [hj] at e3
        simp only at e3
        split at e3
        · rename_i hh
          obtain ⟨hf, hy⟩ := kdO_get e3
          rw [R.len] at hy
          obtain ⟨f0, hf0, hF⟩ := R.old hcl hf
          obtain ⟨b, eb, hb, hsb⟩ := hF.back hy
          refine ⟨b, Lead.sel hn (by rw [← d1]; exact k7) (kdO_at (by rw [← ea]; exact hq0) ha) (hs.trans (hst e2)) ?_, hsb⟩
          unfold fdO
          rw [← d3, hj]
          simp only
          rw [if_pos ⟨by rw [← c1]; exact hh.1, by rw [← c2, ← d2]; exact hh.2⟩]
          exact kdO_at (by rw [← eb]; exact hf0) hb
        · cases e3
theorem RdS.lead {n y : Nat} (h : Lead g.nd n y) : ∃ y0, Lead g0.nd n y0 ∧ St (Lead g0.nd) y0 y := by
  obtain ⟨t, h⟩ := h
  exact R.sound t n y h
theorem RdS.st {n y : Nat} (h : St (Lead g.nd) n y) : St (Lead g0.nd) n y := by
  induction h with
  | refl => exact .refl _
  | step r _ ih =>
    obtain ⟨y0, h0, h1⟩ := R.lead r
    exact .step h0 (h1.trans ih)
theorem RdS.reach {t : Nat} (ih : ∀ n y, Ld g0.nd t n y → ∃ y', Lead g.nd n y') : ∀ (N q c : Nat), cntR g0.nd q < N → St (Ld g0.nd t) q c → (∀ x, ¬ Lead g0.nd c x) → St (Lead g.nd) q c
  | 0, _, _, h, _, _ => absurd h (Nat.not_lt_zero _)
  | N + 1, q, c, h, hs, no => by
    have h0 : q = c ∨ ∃ b, Ld g0.nd t q b := by
      cases hs with
      | refl => exact .inl rfl
      | step r _ => exact .inr ⟨_, r⟩
    rcases h0 with rfl | ⟨b, r⟩
    · exact .refl _
    · obtain ⟨y', hy'⟩ := ih q b r
      obtain ⟨y0, k0, ks⟩ := R.lead hy'
      have he : endF g0.nd q ≠ none := by
        rw [endF_en ⟨hs.mono fun _ _ r => ⟨t, r⟩, no⟩]
        simp
      have h3 := cntR_lt r.lt.1 k0 ks he
      have h4 := onto2 hs no (.step k0 ks)
      exact .step hy' (RdS.reach ih N y' c (by omega) h4 no)
theorem RdS.compl : ∀ (t n y : Nat), Ld g0.nd t n y → ∃ y', Lead g.nd n y'
  | 0, _, _, h => h.elim
  | t + 1, n, y, ⟨hn, h⟩ => by
    have hn' : n < g.nd.length := by rw [R.len]; exact hn
    obtain ⟨d1, d2, d3⟩ := R.d n hn
    rcases h with ⟨k8, e⟩ | ⟨k7, q0, c, e1, e2, e3⟩
    · obtain ⟨hk, hy⟩ := kdO_get e
      obtain ⟨p, hp, hP⟩ := R.new hn hk
      obtain ⟨b, eb, hb, _⟩ := hP.on hy
      exact ⟨b, Lead.ind hn' (by rw [d1]; exact k8) (kdO_at (by rw [← eb]; exact hp) (by rw [R.len]; exact hb))⟩
    · obtain ⟨hk, hq⟩ := kdO_get e1
      have no := no_lead (fdO_k e3)
      obtain ⟨p, hp, hP⟩ := R.new hn hk
      obtain ⟨q, eq, hql, hqs⟩ := hP.on hq
      have h2 := onto2 e2 no hqs
      have h3 := R.reach (RdS.compl t) _ q c (Nat.lt_succ_self _) h2 no
      have hcl : c < g0.nd.length := (e2.mono (S := Lead g0.nd) fun _ _ r => ⟨t, r⟩).lt hq
      obtain ⟨c1, c2, c3⟩ := R.d c hcl
      unfold fdO at e3
      cases hj : (nd0 g0.nd n).ns with
      | nil => rw [hj] at e3; cases e3
      | cons j s =>
        rw [hj] at e3
        simp only at e3
        split at e3
        · rename_i hh
          obtain ⟨hf, hy⟩ := kdO_get e3
          obtain ⟨f, hf', hF⟩ := R.new hcl hf
          obtain ⟨b, eb, hb, _⟩ := hF.on hy
          refine ⟨b, Lead.sel hn' (by rw [d1]; exact k7) (kdO_at (by rw [← eq]; exact hp) (by rw [R.len]; exact hql)) h3 ?_⟩
          unfold fdO
          rw [d3, hj]
          simp only
          rw [if_pos ⟨by rw [c1]; exact hh.1, by rw [c2, d2]; exact hh.2⟩]
          exact kdO_at (by rw [← eb]; exact hf') (by rw [R.len]; exact hb)
        · cases e3
theorem RdS.end (n : Nat) : endF g.nd n = endF g0.nd n := by
  cases h : endF g0.nd n with
  | some e =>
    have he := endF_some h
    obtain ⟨t, ht⟩ := he.st.at
    refine endF_en ⟨R.reach (R.compl t) _ n e (Nat.lt_succ_self _) ht he.no, fun x hx => ?_⟩
    obtain ⟨y0, h0, _⟩ := R.lead hx
    exact he.no y0 h0
  | none =>
    cases h' : endF g.nd n with
    | none => rfl
    | some e =>
      have he := endF_some h'
      have : endF g0.nd n = some e := endF_en ⟨R.st he.st, fun x ⟨t, hx⟩ => by
        obtain ⟨y', hy⟩ := R.compl t e x hx
        exact he.no y' hy⟩
      rw [h] at this
      cases this
theorem RdS.endI {p0 p : Int} (h : Ps g0.nd p0 p) : endI g.nd p = Ytncimddgkgclpaa.endI g0.nd p0 := by
  rcases h with rfl | ⟨a, b, rfl, rfl, ha, hs⟩
  · unfold Ytncimddgkgclpaa.endI
    rw [R.len, R.end]
  · have hb := hs.lt ha
    unfold Ytncimddgkgclpaa.endI
    rw [if_pos (by rw [R.len]; omega), if_pos (by omega), show ((a : Int)).toNat = a by omega, show ((b : Int)).toNat = b by omega, R.end, endF_st hs]
theorem RdS.short : trG (Ytncimddgkgclpaa.endI g.nd) g = trG (Ytncimddgkgclpaa.endI g0.nd) g0 := by
  refine trG_congr R.len (endI_range g0.nd) ?_ (fun n hn => ?_) (fun n hn => R.d n hn)
  · refine List.ext_getElem (by simp [R.rsl]) fun i h1 h2 => ?_
    simp only [List.getElem_map]
    have l1 : i < g.rs.length := by simpa using h1
    have l2 : i < g0.rs.length := by simpa using h2
    exact R.endI (R.rs i _ _ (List.getElem?_eq_getElem l2) (List.getElem?_eq_getElem l1))
  · refine List.ext_getElem (by simp [R.ksl n hn]) fun i h1 h2 => ?_
    simp only [List.getElem_map]
    have l1 : i < (nd0 g.nd n).ks.length := by simpa using h1
    have l2 : i < (nd0 g0.nd n).ks.length := by simpa using h2
    exact R.endI (R.ks n hn i _ _ (List.getElem?_eq_getElem l2) (List.getElem?_eq_getElem l1))
/-- a place is put where it leads -/
theorem RdS.put {p0 : Int} {n : Nat} (hn : n < g0.nd.length) (ok : ∀ j ∈ (nd0 g0.nd n).ns, 0 ≤ j) (h : Ps g0.nd p0 n) (hl : 0 ≤ ldI g.nd n) : Ps g0.nd p0 (ldI g.nd n) := by
  have hL := ldI_lead (by rw [R.len]; exact hn) (by rw [(R.d n hn).2.2]; exact ok) hl
  obtain ⟨y0, h0, h1⟩ := R.lead hL
  obtain ⟨a, ea, ha, hs⟩ := h.back hn
  exact .inr ⟨a, (ldI g.nd n).toNat, ea, by omega, ha, hs.trans (.step h0 h1)⟩
end

/-! ## Graphs as rows of places: the kids of each node, and the roots -/
def P0 (g : Gr) (k : Nat) : List Int := if k < g.nd.length then (nd0 g.nd k).ks else g.rs
def xg (g : Gr) (P : Nat → List Int) : Gr := ⟨P g.nd.length, (List.range g.nd.length).map fun n => ⟨(nd0 g.nd n).k, (nd0 g.nd n).i, (nd0 g.nd n).ns, P n⟩⟩
theorem xg_len (g : Gr) (P : Nat → List Int) : (xg g P).nd.length = g.nd.length := by simp [xg]
theorem xg_nd (g : Gr) (P : Nat → List Int) {n : Nat} (hn : n < g.nd.length) : nd0 (xg g P).nd n = ⟨(nd0 g.nd n).k, (nd0 g.nd n).i, (nd0 g.nd n).ns, P n⟩ := by
  rw [nd0_get (by rw [xg_len]; exact hn)]
  simp [xg]
structure RdP (g : Gr) (P : Nat → List Int) : Prop where
  len : ∀ k, k ≤ g.nd.length → (P k).length = (P0 g k).length
  pl : ∀ k, k ≤ g.nd.length → ∀ (i : Nat) (p0 p : Int), (P0 g k)[i]? = some p0 → (P k)[i]? = some p → Ps g.nd p0 p
theorem RdP.start (g : Gr) : RdP g (P0 g) := ⟨fun _ _ => rfl, fun k hk i p0 p h0 h => by rw [h0] at h; exact .inl (Option.some.inj h).symm⟩
theorem RdP.rds {g : Gr} {P : Nat → List Int} (h : RdP g P) : RdS g (xg g P) := by
  have e0 : P0 g g.nd.length = g.rs := if_neg (Nat.lt_irrefl _)
  have ek : ∀ n, n < g.nd.length → P0 g n = (nd0 g.nd n).ks := fun n hn => if_pos hn
  refine ⟨xg_len g P, ?_, fun i p0 p q0 q => ?_, fun n hn => by rw [xg_nd g P hn]; exact ⟨rfl, rfl, rfl⟩, fun n hn => ?_, fun n hn i p0 p q0 q => ?_⟩
  · have := h.len _ (Nat.le_refl _)
    rw [e0] at this
    exact this
  · exact h.pl _ (Nat.le_refl _) i p0 p (by rw [e0]; exact q0) q
  · rw [xg_nd g P hn, ← ek n hn]; exact h.len n (Nat.le_of_lt hn)
  · rw [xg_nd g P hn] at q
    exact h.pl n (Nat.le_of_lt hn) i p0 p (by rw [ek n hn]; exact q0) q
def updP (P : Nat → List Int) (k : Nat) (l : List Int) : Nat → List Int := fun n => if n = k then l else P n
theorem RdP.set {g : Gr} {P : Nat → List Int} (h : RdP g P) {k j n : Nat} (hk : k ≤ g.nd.length) (hn : n < g.nd.length) (ok : ∀ j ∈ (nd0 g.nd n).ns, 0 ≤ j) (hj : (P k)[j]? = some (n : Int)) (hl : 0 ≤ ldI (xg g P).nd n) : RdP g (updP P k ((P k).set j (ldI (xg g P).nd n))) := by
  refine ⟨fun q hq => ?_, fun q hq i p0 p q0 hp => ?_⟩
  · unfold updP
    split
    · rename_i e; subst e; simp [h.len q hq]
    · exact h.len q hq
  · unfold updP at hp
    split at hp
    · rename_i e
      subst e
      by_cases ei : i = j
      · subst ei
        have hjl := (List.getElem?_eq_some_iff.1 hj).1
        have hp' : ldI (xg g P).nd n = p := by simpa [hjl] using hp
        rw [← hp']
        exact h.rds.put hn ok (h.pl q hq i p0 n q0 hj) hl
      · rw [List.getElem?_set_ne (by omega)] at hp
        exact h.pl q hq i p0 p q0 hp
    · exact h.pl q hq i p0 p q0 hp
end Go.Proofs.Ytncimddgkgclpaa
