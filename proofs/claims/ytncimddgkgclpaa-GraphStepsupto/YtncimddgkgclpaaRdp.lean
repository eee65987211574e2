/- Plain: the document's rounds: each puts all places where going on by single steps ends, till none changes. -/
import Derived.Test.YtncimddgkgclpaaEmb
namespace Go.Proofs.Ytncimddgkgclpaa
set_option linter.unusedVariables false
set_option linter.unusedSimpArgs false
set_option linter.unusedSectionVars false

abbrev rdL (g : List Nd) : Int → Int := rdI g (g.length + 1)
/-- one round -/
def rdG (g : Gr) : Gr := ⟨g.rs.map (rdL g.nd), g.nd.map fun x => ⟨x.k, x.i, x.ns, x.ks.map (rdL g.nd)⟩⟩
def chL (f : Int → Int) (l : List Int) : Bool := l.any fun p => f p != p
/-- does a round change anything? -/
def chG (g : Gr) : Bool := chL (rdL g.nd) g.rs || g.nd.any fun x => chL (rdL g.nd) x.ks
/-- what has become of a place -/
def Pt (g0 : List Nd) (p0 p : Int) : Prop := (p0 = -1 ∧ p = -1) ∨ ∃ n : Nat, p0 = (n : Int) ∧ n < g0.length ∧ ((∃ k : Nat, p = (k : Int) ∧ St (Lead g0) n k) ∨ (p = -2 ∧ endF g0 n = none))
structure RdG (g0 g : Gr) : Prop where
  len : g.nd.length = g0.nd.length
  rsl : g.rs.length = g0.rs.length
  rs : ∀ (i : Nat) (p0 p : Int), g0.rs[i]? = some p0 → g.rs[i]? = some p → Pt g0.nd p0 p
  d : ∀ n, n < g0.nd.length → (nd0 g.nd n).k = (nd0 g0.nd n).k ∧ (nd0 g.nd n).i = (nd0 g0.nd n).i ∧ (nd0 g.nd n).ns = (nd0 g0.nd n).ns
  ksl : ∀ n, n < g0.nd.length → (nd0 g.nd n).ks.length = (nd0 g0.nd n).ks.length
  ks : ∀ n, n < g0.nd.length → ∀ (i : Nat) (p0 p : Int), (nd0 g0.nd n).ks[i]? = some p0 → (nd0 g.nd n).ks[i]? = some p → Pt g0.nd p0 p
/-- a place of the graph's -/
def PtrOf (g : Gr) (p : Int) : Prop := p ∈ g.rs ∨ ∃ n, n < g.nd.length ∧ p ∈ (nd0 g.nd n).ks

theorem Pt.lt {g0 : List Nd} {p0 p : Int} (h : Pt g0 p0 p) (hp : 0 < g0.length) : p < g0.length := by
  rcases h with ⟨_, rfl⟩ | ⟨n, _, hn, ⟨k, rfl, hs⟩ | ⟨rfl, _⟩⟩
  · omega
  · have := hs.lt hn; omega
  · omega
theorem geI_at {m : Nat} {k : Int} (h : k < m) : geI m k = k := by unfold geI; rw [if_neg (by omega)]
theorem kdO_at {m : Nat} {x : Nd} {i n : Nat} (h : x.ks[i]? = some (n : Int)) (hn : n < m) : kdO m x i = some n := by
  unfold kdO
  rw [h]
  simp only
  rw [if_pos (by omega)]
  simp
theorem kdO_get {m : Nat} {x : Nd} {i n : Nat} (h : kdO m x i = some n) : x.ks[i]? = some (n : Int) ∧ n < m := by
  have hl := kdO_lt h
  unfold kdO at h
  split at h
  · rename_i k e
    split at h
    · rename_i q
      have : k.toNat = n := by simpa using h
      exact ⟨by rw [e]; congr 1; omega, hl⟩
    · cases h
  · cases h
theorem ldI_ind {g : List Nd} {n : Nat} {k : Int} (h8 : (nd0 g n).k = 8) (hk : (nd0 g n).ks[0]? = some k) : ldI g n = geI g.length k := by
  unfold ldI
  cases h : (nd0 g n).ks with
  | nil => rw [h] at hk; cases hk
  | cons k' r =>
    rw [h] at hk
    have : k' = k := by simpa using hk
    subst this
    simp only
    rw [if_pos h8]
theorem ldI_sel {g : List Nd} {n c : Nat} {j : Int} {s : List Int} {f : Int} (h7 : (nd0 g n).k = 7) (hk : (nd0 g n).ks[0]? = some (c : Int)) (hc : c < g.length) (hj : (nd0 g n).ns = j :: s) (hj0 : 0 ≤ j) (h1 : (nd0 g c).k = 1) (hi : (nd0 g c).i = (nd0 g n).i) (hf : (nd0 g c).ks[j.toNat]? = some f) : ldI g n = geI g.length f := by
  unfold ldI
  cases h : (nd0 g n).ks with
  | nil => rw [h] at hk; cases hk
  | cons k' r =>
    rw [h] at hk
    have : k' = (c : Int) := by simpa using hk
    subst this
    obtain ⟨hl, hg⟩ := List.getElem?_eq_some_iff.1 hf
    simp only
    rw [if_neg (by omega), geI_at (by omega), if_pos ⟨h7, by omega⟩, hj]
    simp only [show ((c : Int)).toNat = c by omega]
    rw [if_pos ⟨h1, hi, by omega⟩]
    congr 1
    simp [List.getD, hf]
theorem ldI_other {g : List Nd} {n : Nat} (h8 : (nd0 g n).k ≠ 8) (h7 : (nd0 g n).k ≠ 7) : ldI g n = -1 := by
  unfold ldI
  split
  · rfl
  · rw [if_neg h8, if_neg (fun h => h7 h.1)]
/-- what a node's single step is made of -/
theorem ldI_cases {g : List Nd} {n : Nat} (ok : ∀ j ∈ (nd0 g n).ns, 0 ≤ j) (h : ldI g n ≠ -1) :
    ((nd0 g n).k = 8 ∧ ∃ k, (nd0 g n).ks[0]? = some k ∧ ldI g n = geI g.length k) ∨
    ((nd0 g n).k = 7 ∧ ∃ (c : Nat) (j : Int) (s : List Int) (f : Int), (nd0 g n).ks[0]? = some (c : Int) ∧ c < g.length ∧ (nd0 g n).ns = j :: s ∧ 0 ≤ j ∧ (nd0 g c).k = 1 ∧ (nd0 g c).i = (nd0 g n).i ∧ (nd0 g c).ks[j.toNat]? = some f ∧ ldI g n = geI g.length f) := by
  unfold ldI at h
  cases hk : (nd0 g n).ks with
  | nil => rw [hk] at h; exact absurd rfl h
  | cons k r =>
    rw [hk] at h
    simp only at h
    split at h
    · rename_i h8
      exact .inl ⟨h8, k, rfl, ldI_ind h8 (by rw [hk]; rfl)⟩
    · split at h
      · rename_i h7
        have q : 0 ≤ k ∧ k < g.length := by
          have := h7.2
          unfold geI at this
          split at this <;> omega
        cases hj : (nd0 g n).ns with
        | nil => rw [hj] at h; exact absurd rfl h
        | cons j s =>
          rw [hj] at h
          simp only at h
          have hj0 : 0 ≤ j := ok j (by rw [hj]; simp)
          split at h
          · rename_i hc3
            have hjl : j.toNat < (nd0 g k.toNat).ks.length := by omega
            have e0 : (nd0 g n).ks[0]? = some ((k.toNat : Nat) : Int) := by rw [hk]; show some k = _; congr 1; omega
            have hf := List.getElem?_eq_getElem hjl
            refine .inr ⟨h7.1, k.toNat, j, s, _, ?_, by omega, rfl, hj0, hc3.1, hc3.2.1, hf, ldI_sel h7.1 e0 (by omega) hj hj0 hc3.1 hc3.2.1 hf⟩
            rw [← e0, hk]
          · exact absurd rfl h
      · exact absurd rfl h
section
variable {g0 g : Gr} (R : RdG g0 g) (ok : ∀ n, n < g0.nd.length → ∀ j ∈ (nd0 g0.nd n).ns, 0 ≤ j)
include R ok
theorem RdG.old {n i : Nat} {p : Int} (hn : n < g0.nd.length) (h : (nd0 g.nd n).ks[i]? = some p) : ∃ p0, (nd0 g0.nd n).ks[i]? = some p0 ∧ Pt g0.nd p0 p := by
  have hl := (List.getElem?_eq_some_iff.1 h).1
  rw [R.ksl n hn] at hl
  exact ⟨_, List.getElem?_eq_getElem hl, R.ks n hn i _ _ (List.getElem?_eq_getElem hl) h⟩
theorem RdG.new {n i : Nat} {p0 : Int} (hn : n < g0.nd.length) (h : (nd0 g0.nd n).ks[i]? = some p0) : ∃ p, (nd0 g.nd n).ks[i]? = some p ∧ Pt g0.nd p0 p := by
  have hl := (List.getElem?_eq_some_iff.1 h).1
  rw [← R.ksl n hn] at hl
  exact ⟨_, List.getElem?_eq_getElem hl, R.ks n hn i _ _ h (List.getElem?_eq_getElem hl)⟩
/-- one step of the round's graph goes along what leads -/
theorem RdG.step {n : Nat} (hn : n < g0.nd.length) :
    (∃ x t : Nat, ldI g.nd n = (t : Int) ∧ Lead g0.nd n x ∧ St (Lead g0.nd) x t) ∨ (ldI g.nd n = -2 ∧ endF g0.nd n = none) ∨ ldI g.nd n = -1 := by
  by_cases h : ldI g.nd n = -1
  · exact .inr (.inr h)
  have hp : 0 < g0.nd.length := by omega
  obtain ⟨d1, d2, d3⟩ := R.d n hn
  have fin : ∀ {p0 p : Int}, Pt g0.nd p0 p → ldI g.nd n = p → p ≠ -1 → (∀ x : Nat, p0 = (x : Int) → x < g0.nd.length → Lead g0.nd n x) → (∃ x t : Nat, ldI g.nd n = (t : Int) ∧ Lead g0.nd n x ∧ St (Lead g0.nd) x t) ∨ (ldI g.nd n = -2 ∧ endF g0.nd n = none) ∨ ldI g.nd n = -1 := fun {p0 p} hP e ne hL => by
    rcases hP with ⟨_, rfl⟩ | ⟨x, e0, hx, ⟨k, rfl, hs⟩ | ⟨rfl, he⟩⟩
    · exact absurd rfl ne
    · exact .inl ⟨x, k, e, hL x e0 hx, hs⟩
    · exact .inr (.inl ⟨e, by rw [endF_lead (hL x e0 hx)]; exact he⟩)
  rcases ldI_cases (by rw [d3]; exact ok n hn) h with ⟨h8, k, hk, e⟩ | ⟨h7, c, j, s, f, hk, hc, hj, hj0, h1, hi, hf, e⟩
  · obtain ⟨p0, hp0, hP⟩ := R.old ok hn hk
    have e' : ldI g.nd n = k := by rw [e, geI_at (by rw [R.len]; exact hP.lt hp)]
    refine fin hP e' (by rw [← e']; exact h) fun x ex hx => Lead.ind hn (by rw [← d1]; exact h8) (kdO_at (by rw [← ex]; exact hp0) hx)
  · rw [R.len] at hc
    obtain ⟨q0, hq0, hQ⟩ := R.old ok hn hk
    obtain ⟨f0, hf0, hF⟩ := R.old ok hc hf
    obtain ⟨c1, c2, c3⟩ := R.d c hc
    have e' : ldI g.nd n = f := by rw [e, geI_at (by rw [R.len]; exact hF.lt hp)]
    rcases hQ with ⟨_, q⟩ | ⟨y, ey, hy, ⟨k, ek, hs⟩ | ⟨q, _⟩⟩
    · omega
    · obtain rfl : c = k := by omega
      refine fin hF e' (by rw [← e']; exact h) fun x ex hx => Lead.sel hn (by rw [← d1]; exact h7) (kdO_at (by rw [← ey]; exact hq0) hy) hs ?_
      unfold fdO
      rw [← d3, hj]
      simp only
      rw [if_pos ⟨by rw [← c1]; exact h1, by rw [← c2, ← d2]; exact hi⟩]
      exact kdO_at (by rw [← ex]; exact hf0) hx
    · omega
open Classical in
/-- how much is reached -/
noncomputable def cntR (g : List Nd) (k : Nat) : Nat := cnt (fun x => decide (St (Lead g) k x)) g.length
omit R ok in
open Classical in
theorem cntR_lt {g : List Nd} {k x t : Nat} (hk : k < g.length) (h : Lead g k x) (hs : St (Lead g) x t) (he : endF g k ≠ none) : cntR g t < cntR g k := by
  unfold cntR
  refine cnt_lt _ hk (fun i _ q => ?_) (by simpa using St.refl k) ?_
  · exact decide_eq_true (.step h (hs.trans (of_decide_eq_true q)))
  · exact decide_eq_false fun q => he (endF_loop h (hs.trans q))
theorem RdG.rd : ∀ (f k : Nat), k < g0.nd.length → (cntR g0.nd k < f ∨ endF g0.nd k = none) →
    (∃ r : Nat, rdI g.nd f k = (r : Int) ∧ St (Lead g0.nd) k r ∧ ldI g.nd r = -1) ∨ (rdI g.nd f k = -2 ∧ endF g0.nd k = none)
  | 0, k, hk, h => .inr ⟨rfl, h.resolve_left (Nat.not_lt_zero _)⟩
  | f + 1, k, hk, h => by
    rcases R.step ok hk with ⟨x, t, e, hl, hs⟩ | ⟨e, he⟩ | e
    · have ht := hs.lt hl.lt.2
      have ee : endF g0.nd k = endF g0.nd t := by rw [endF_lead hl, endF_st hs]
      rw [rdI_go f k (by omega), e]
      rcases RdG.rd f t ht (by
        rcases h with h | h
        · by_cases hn : endF g0.nd k = none
          · exact .inr (by rw [← ee]; exact hn)
          · have := cntR_lt hk hl hs hn
            exact .inl (by omega)
        · exact .inr (by rw [← ee]; exact h)) with ⟨r, e1, e2, e3⟩ | ⟨e1, e2⟩
      · exact .inl ⟨r, e1, .step hl (hs.trans e2), e3⟩
      · exact .inr ⟨e1, by rw [ee]; exact e2⟩
    · refine .inr ⟨?_, he⟩
      unfold rdI
      rw [if_neg (by omega), show ((k : Int)).toNat = k by omega, if_pos e]
    · refine .inl ⟨k, ?_, .refl _, e⟩
      unfold rdI
      rw [if_neg (by omega), show ((k : Int)).toNat = k by omega, if_neg (by omega), if_pos (by omega)]
omit R ok in
theorem rdI_neg (g : List Nd) (f : Nat) {p : Int} (h : p < 0) : rdI g (f + 1) p = p := by unfold rdI; rw [if_pos h]
omit R ok in
theorem rdL_neg (g : List Nd) {p : Int} (h : p < 0) : rdL g p = p := rdI_neg g g.length h
omit R ok in
theorem cntR_max (g : List Nd) (k : Nat) : cntR g k < g.length + 1 := by
  have := cnt_max (fun x => @decide (St (Lead g) k x) (Classical.propDecidable _)) g.length
  unfold cntR
  omega
theorem RdG.rdl {k : Nat} (hk : k < g0.nd.length) : (∃ r : Nat, rdL g.nd k = (r : Int) ∧ St (Lead g0.nd) k r ∧ ldI g.nd r = -1) ∨ (rdL g.nd k = -2 ∧ endF g0.nd k = none) :=
  R.rd ok (g.nd.length + 1) k hk (.inl (by rw [R.len]; exact cntR_max _ _))
theorem RdG.pt {p0 p : Int} (h : Pt g0.nd p0 p) : Pt g0.nd p0 (rdL g.nd p) := by
  rcases h with ⟨e, rfl⟩ | ⟨n, e, hn, ⟨k, rfl, hs⟩ | ⟨rfl, he⟩⟩
  · exact .inl ⟨e, rdI_neg _ _ (by omega)⟩
  · rcases R.rdl ok (hs.lt hn) with ⟨r, e1, e2, _⟩ | ⟨e1, e2⟩
    · exact .inr ⟨n, e, hn, .inl ⟨r, e1, hs.trans e2⟩⟩
    · exact .inr ⟨n, e, hn, .inr ⟨e1, by rw [endF_st hs]; exact e2⟩⟩
  · exact .inr ⟨n, e, hn, .inr ⟨rdI_neg _ _ (by omega), he⟩⟩
omit R ok in
theorem rdG_nd (g : Gr) {n : Nat} (hn : n < g.nd.length) : nd0 (rdG g).nd n = ⟨(nd0 g.nd n).k, (nd0 g.nd n).i, (nd0 g.nd n).ns, (nd0 g.nd n).ks.map (rdL g.nd)⟩ := by
  rw [nd0_get (by simpa [rdG] using hn), nd0_get hn]
  simp [rdG]
theorem RdG.round : RdG g0 (rdG g) := by
  have hl := R.len
  refine ⟨by simp [rdG, hl], by simp [rdG, R.rsl], fun i p0 p h0 h => ?_, fun n hn => ?_, fun n hn => ?_, fun n hn i p0 p h0 h => ?_⟩
  · have h' : (g.rs.map (rdL g.nd))[i]? = some p := h
    rw [List.getElem?_map] at h'
    obtain ⟨q, hq, rfl⟩ := Option.map_eq_some_iff.1 h'
    exact R.pt ok (R.rs i _ _ h0 hq)
  · rw [rdG_nd g (by omega)]; exact R.d n hn
  · rw [rdG_nd g (by omega)]; simpa using R.ksl n hn
  · rw [rdG_nd g (by omega)] at h
    have h' : ((nd0 g.nd n).ks.map (rdL g.nd))[i]? = some p := h
    rw [List.getElem?_map] at h'
    obtain ⟨q, hq, rfl⟩ := Option.map_eq_some_iff.1 h'
    exact R.pt ok (R.ks n hn i _ _ h0 hq)
theorem RdG.ptr {p : Int} (h : PtrOf g p) : ∃ p0, Pt g0.nd p0 p := by
  rcases h with h | ⟨n, hn, h⟩
  · obtain ⟨i, hi⟩ := List.getElem?_of_mem h
    have hl := (List.getElem?_eq_some_iff.1 hi).1
    rw [R.rsl] at hl
    exact ⟨_, R.rs i _ _ (List.getElem?_eq_getElem hl) hi⟩
  · obtain ⟨i, hi⟩ := List.getElem?_of_mem h
    obtain ⟨p0, _, hP⟩ := R.old ok (by rw [← R.len]; exact hn) hi
    exact ⟨p0, hP⟩
/-- where no place can go on, none leads -/
theorem RdG.none (fix : ∀ k : Nat, PtrOf g k → ldI g.nd k = -1) : ∀ (t k : Nat), PtrOf g k → ∀ x, ¬ Ld g0.nd t k x
  | 0, k, hk, x, h => h.elim
  | t + 1, k, hp, x, h => by
    have hf := fix k hp
    have hk : k < g0.nd.length := h.lt.1
    have hpos : 0 < g0.nd.length := by omega
    obtain ⟨d1, d2, d3⟩ := R.d k hk
    rcases h with ⟨_, ⟨k8, e⟩ | ⟨k7, q0, c, e1, e2, e3⟩⟩
    · obtain ⟨e', hx⟩ := kdO_get e
      obtain ⟨p, hp', hP⟩ := R.new ok hk e'
      have := ldI_ind (g := g.nd) (by rw [d1]; exact k8) hp'
      rw [geI_at (by rw [R.len]; exact hP.lt hpos), hf] at this
      rcases hP with ⟨q, _⟩ | ⟨n, _, _, ⟨k', q, _⟩ | ⟨q, _⟩⟩ <;> omega
    · obtain ⟨e1', hq⟩ := kdO_get e1
      obtain ⟨p, hp', hP⟩ := R.new ok hk e1'
      have nc := no_lead (fdO_k e3)
      rcases hP with ⟨q, _⟩ | ⟨n, en, _, ⟨q, eq, hs⟩ | ⟨q, he⟩⟩
      · omega
      · obtain rfl : q0 = n := by omega
        subst eq
        have hqp : PtrOf g (q : Int) := .inr ⟨k, by rw [R.len]; exact hk, List.mem_of_getElem? hp'⟩
        have h2 := onto2 e2 nc hs
        have h3 : q = c ∨ ∃ y, Ld g0.nd t q y := by
          cases h2 with
          | refl => exact .inl rfl
          | step r _ => exact .inr ⟨_, r⟩
        rcases h3 with h3 | ⟨y, r⟩
        rotate_left
        · exact RdG.none fix t q hqp _ r
        · subst h3
          have hqc := hs.lt hq
          obtain ⟨c1, c2, c3⟩ := R.d q hqc
          unfold fdO at e3
          cases hj : (nd0 g0.nd k).ns with
          | nil => rw [hj] at e3; cases e3
          | cons j s =>
            rw [hj] at e3
            simp only at e3
            split at e3
            · rename_i hh
              obtain ⟨e3', hx⟩ := kdO_get e3
              obtain ⟨f, hf', hF⟩ := R.new ok hqc e3'
              have := ldI_sel (g := g.nd) (by rw [d1]; exact k7) hp' (by rw [R.len]; exact hqc) (by rw [d3]; exact hj) (ok k hk j (by rw [hj]; simp)) (by rw [c1]; exact hh.1) (by rw [c2, d2]; exact hh.2) hf'
              rw [geI_at (by rw [R.len]; exact hF.lt hpos), hf] at this
              rcases hF with ⟨q, _⟩ | ⟨n, _, _, ⟨k', q, _⟩ | ⟨q, _⟩⟩ <;> omega
            · cases e3
      · obtain rfl : q0 = n := by omega
        rw [endF_en ⟨e2.mono fun _ _ r => ⟨t, r⟩, nc⟩] at he
        cases he
omit R ok in
theorem chG_no (h : chG g = false) {p : Int} (hp : PtrOf g p) : rdL g.nd p = p := by
  unfold chG at h
  simp only [Bool.or_eq_false_iff] at h
  rcases hp with hp | ⟨n, hn, hp⟩
  · have := List.any_eq_false.1 h.1 p hp
    simpa using this
  · have h2 := List.any_eq_false.1 h.2 (nd0 g.nd n) (by rw [nd0_get hn]; exact List.getElem_mem hn)
    have h3 : chL (rdL g.nd) (nd0 g.nd n).ks = false := by simpa using h2
    have := List.any_eq_false.1 h3 p hp
    simpa using this
omit R ok in
theorem chG_yes (h : chG g = true) : ∃ p, PtrOf g p ∧ rdL g.nd p ≠ p := by
  unfold chG at h
  simp only [Bool.or_eq_true] at h
  rcases h with h | h
  · obtain ⟨p, hp, e⟩ := List.any_eq_true.1 h
    exact ⟨p, .inl hp, by simpa using e⟩
  · obtain ⟨x, hx, e⟩ := List.any_eq_true.1 h
    obtain ⟨p, hp, e2⟩ := List.any_eq_true.1 e
    obtain ⟨n, hn, rfl⟩ := List.mem_iff_getElem.1 hx
    exact ⟨p, .inr ⟨n, hn, by rw [nd0_get hn]; exact hp⟩, by simpa using e2⟩
/-- where nothing changes, what is in order is what was to be made short -/
theorem RdG.done (h : chG g = false) : trG (kn g.nd.length) g = trG (endI g0.nd) g0 := by
  have fix : ∀ k : Nat, PtrOf g k → ldI g.nd k = -1 := fun k hk => by
    obtain ⟨p0, hP⟩ := R.ptr ok hk
    have hlt : k < g0.nd.length := by
      rcases hP with ⟨_, q⟩ | ⟨n, _, hn, ⟨k', q, hs⟩ | ⟨q, _⟩⟩
      · omega
      · have := hs.lt hn; omega
      · omega
    have e := chG_no h hk
    rcases R.rdl ok hlt with ⟨r, e1, _, e3⟩ | ⟨e1, _⟩
    · obtain rfl : k = r := by omega
      exact e3
    · omega
  have no := R.none ok fix
  have key : ∀ {p0 p : Int}, Pt g0.nd p0 p → PtrOf g p → kn g.nd.length p = endI g0.nd p0 := fun {p0 p} hP hp => by
    rcases hP with ⟨rfl, rfl⟩ | ⟨n, rfl, hn, ⟨k, rfl, hs⟩ | ⟨rfl, he⟩⟩
    · rw [kn_no (by omega)]; unfold endI; rw [if_neg (by omega)]
    · have hk := hs.lt hn
      rw [kn_yes (by rw [R.len]; omega)]
      unfold endI
      rw [if_pos (by omega), show ((n : Int)).toNat = n by omega, endF_en ⟨hs, fun x ⟨t, hx⟩ => no t k hp x hx⟩]
      rfl
    · rw [kn_no (by omega)]
      unfold endI
      rw [if_pos (by omega), show ((n : Int)).toNat = n by omega, he]
      rfl
  refine trG_congr R.len (endI_range g0.nd) ?_ (fun n hn => ?_) (fun n hn => R.d n hn)
  · refine List.ext_getElem (by simp [R.rsl]) fun i h1 h2 => ?_
    simp only [List.getElem_map]
    have l1 : i < g.rs.length := by simpa using h1
    have l2 : i < g0.rs.length := by simpa using h2
    exact key (R.rs i _ _ (List.getElem?_eq_getElem l2) (List.getElem?_eq_getElem l1)) (.inl (List.getElem_mem l1))
  · refine List.ext_getElem (by simp [R.ksl n hn]) fun i h1 h2 => ?_
    simp only [List.getElem_map]
    have l1 : i < (nd0 g.nd n).ks.length := by simpa using h1
    have l2 : i < (nd0 g0.nd n).ks.length := by simpa using h2
    exact key (R.ks n hn i _ _ (List.getElem?_eq_getElem l2) (List.getElem?_eq_getElem l1)) (.inr ⟨n, by rw [R.len]; exact hn, List.getElem_mem l1⟩)
omit R ok in
theorem rdG_same (h : chG g = false) : rdG g = g := by
  have e1 : g.rs.map (rdL g.nd) = g.rs := by
    conv => rhs; rw [← List.map_id g.rs]
    exact List.map_congr_left fun p hp => chG_no h (.inl hp)
  have e2 : (g.nd.map fun x => (⟨x.k, x.i, x.ns, x.ks.map (rdL g.nd)⟩ : Nd)) = g.nd := by
    refine List.ext_getElem (by simp) fun i h1 h2 => ?_
    simp only [List.getElem_map]
    have e3 : (g.nd[i]).ks.map (rdL g.nd) = (g.nd[i]).ks := by
      conv => rhs; rw [← List.map_id (g.nd[i]).ks]
      exact List.map_congr_left fun p hp => chG_no h (.inr ⟨i, h2, by rw [nd0_get h2]; exact hp⟩)
    rw [e3]
  unfold rdG
  rw [e1, e2]

/-! ## How many rounds -/
open Classical in
/-- how much is left to be found -/
noncomputable def nu (g : Gr) : Nat := cnt (fun n => decide (ldI g.nd n = -1)) g.nd.length + if ∃ k : Nat, PtrOf g k ∧ ldI g.nd k ≠ -1 then 1 else 0
theorem RdG.more {n : Nat} (hn : n < g0.nd.length) (h : ldI g.nd n ≠ -1) : ldI (rdG g).nd n ≠ -1 := by
  have hp : 0 < g0.nd.length := by omega
  have hl := R.len
  have R' := R.round ok
  have hl' := R'.len
  have keep : ∀ {p0 p : Int}, Pt g0.nd p0 p → geI g.nd.length p ≠ -1 → geI (rdG g).nd.length (rdL g.nd p) ≠ -1 := fun {p0 p} hP ne => by
    rw [geI_at (by rw [R.len]; exact hP.lt hp)] at ne
    have hP' := R.pt ok hP
    rw [geI_at (by rw [R'.len]; exact hP'.lt hp)]
    rcases hP with ⟨_, rfl⟩ | ⟨n, e, hn, ⟨k, rfl, hs⟩ | ⟨rfl, he⟩⟩
    · exact absurd rfl ne
    · rcases R.rdl ok (hs.lt hn) with ⟨r, e1, _, _⟩ | ⟨e1, _⟩ <;> omega
    · show rdI g.nd (g.nd.length + 1) (-2) ≠ -1
      rw [rdI_neg _ _ (by omega)]; exact ne
  obtain ⟨d1, d2, d3⟩ := R.d n hn
  have en := rdG_nd g (n := n) (by omega)
  rcases ldI_cases (by rw [d3]; exact ok n hn) h with ⟨h8, k, hk, e⟩ | ⟨h7, c, j, s, f, hk, hc, hj, hj0, h1, hi, hf, e⟩
  · obtain ⟨p0, hp0, hP⟩ := R.old ok hn hk
    have := ldI_ind (g := (rdG g).nd) (n := n) (k := rdL g.nd k) (by rw [en]; exact h8) (by rw [en]; simp only [List.getElem?_map, hk, Option.map_some])
    rw [this]
    exact keep hP (by rw [← e]; exact h)
  · rw [R.len] at hc
    obtain ⟨f0, hf0, hF⟩ := R.old ok hc hf
    have ec := rdG_nd g (n := c) (by omega)
    have hself : rdL g.nd c = (c : Int) := by
      unfold rdL rdI
      rw [show ((c : Int)).toNat = c by omega, ldI_other (by omega) (by omega), if_neg (by omega), if_neg (by omega), if_pos (by omega)]
    have := ldI_sel (g := (rdG g).nd) (n := n) (c := c) (j := j) (s := s) (f := rdL g.nd f) (by rw [en]; exact h7) (by rw [en]; simp only [List.getElem?_map, hk, Option.map_some, hself]) (by omega) (by rw [en]; exact hj) hj0 (by rw [ec]; exact h1) (by rw [ec, en]; exact hi) (by rw [ec]; simp only [List.getElem?_map, hf, Option.map_some])
    rw [this]
    exact keep hF (by rw [← e]; exact h)
theorem RdG.fewer (h : chG g = true) : nu (rdG g) < nu g := by
  have R' := R.round ok
  have hl := R.len
  have hl' := R'.len
  have hlt : ∀ {g' : Gr}, RdG g0 g' → ∀ k : Nat, PtrOf g' k → k < g0.nd.length := fun {g'} Q k hk => by
    obtain ⟨p0, hP⟩ := Q.ptr ok hk
    rcases hP with ⟨_, q⟩ | ⟨n, _, hn, ⟨k', q, hs⟩ | ⟨q, _⟩⟩
    · omega
    · have := hs.lt hn; omega
    · omega
  have hT : ∃ k : Nat, PtrOf g k ∧ ldI g.nd k ≠ -1 := by
    obtain ⟨p, hp, ne⟩ := chG_yes h
    obtain ⟨p0, hP⟩ := R.ptr ok hp
    rcases hP with ⟨_, rfl⟩ | ⟨n, _, hn, ⟨k, rfl, hs⟩ | ⟨rfl, he⟩⟩
    · exact absurd (rdI_neg _ _ (by omega)) ne
    · refine ⟨k, hp, fun e => ne ?_⟩
      unfold rdL rdI
      rw [show ((k : Int)).toNat = k by omega, e, if_neg (by omega), if_neg (by omega), if_pos (by omega)]
    · exact absurd (rdI_neg _ _ (by omega)) ne
  have mono : ∀ i, i < g0.nd.length → decide (ldI (rdG g).nd i = -1) = true → decide (ldI g.nd i = -1) = true := fun i hi q => by
    refine decide_eq_true (Classical.byContradiction fun ne => ?_)
    exact R.more ok hi ne (of_decide_eq_true q)
  unfold nu
  rw [if_pos hT, hl, hl']
  by_cases hT' : ∃ k : Nat, PtrOf (rdG g) k ∧ ldI (rdG g).nd k ≠ -1
  · rw [if_pos hT']
    obtain ⟨k, hk, ne⟩ := hT'
    have hkl := hlt R' k hk
    have e : ldI g.nd k = -1 := by
      have : ∃ p, PtrOf g p ∧ (k : Int) = rdL g.nd p := by
        rcases hk with hk | ⟨n, hn, hk⟩
        · obtain ⟨p, hp, e⟩ := List.mem_map.1 (show (k : Int) ∈ g.rs.map (rdL g.nd) from hk)
          exact ⟨p, .inl hp, e.symm⟩
        · rw [rdG_nd g (by omega)] at hk
          obtain ⟨p, hp, e⟩ := List.mem_map.1 (show (k : Int) ∈ (nd0 g.nd n).ks.map (rdL g.nd) from hk)
          exact ⟨p, .inr ⟨n, by omega, hp⟩, e.symm⟩
      obtain ⟨p, hp, e⟩ := this
      obtain ⟨p0, hP⟩ := R.ptr ok hp
      rcases hP with ⟨_, rfl⟩ | ⟨n, _, hn, ⟨q, rfl, hs⟩ | ⟨rfl, he⟩⟩
      · have := rdL_neg g.nd (p := -1) (by omega); omega
      · rcases R.rdl ok (hs.lt hn) with ⟨r, e1, _, e3⟩ | ⟨e1, _⟩
        · obtain rfl : k = r := by omega
          exact e3
        · omega
      · have := rdL_neg g.nd (p := -2) (by omega); omega
    have := cnt_lt (p := fun n => decide (ldI (rdG g).nd n = -1)) (q := fun n => decide (ldI g.nd n = -1)) g0.nd.length hkl mono (decide_eq_true e) (decide_eq_false ne)
    omega
  · rw [if_neg hT']
    have := cnt_le (p := fun n => decide (ldI (rdG g).nd n = -1)) (q := fun n => decide (ldI g.nd n = -1)) g0.nd.length mono
    omega
end
/-- at the beginning each place is its own -/
theorem RdG.start {g : Gr} (hr : Plc g.nd.length g.rs) (hk : ∀ n, n < g.nd.length → Plc g.nd.length (nd0 g.nd n).ks) : RdG g g := by
  have pt : ∀ {p : Int}, -1 ≤ p ∧ p < g.nd.length → Pt g.nd p p := fun {p} h => by
    by_cases q : 0 ≤ p
    · exact .inr ⟨p.toNat, by omega, by omega, .inl ⟨p.toNat, by omega, .refl _⟩⟩
    · exact .inl ⟨by omega, by omega⟩
  refine ⟨rfl, rfl, fun i p0 p h0 h => ?_, fun n _ => ⟨rfl, rfl, rfl⟩, fun n _ => rfl, fun n hn i p0 p h0 h => ?_⟩
  · obtain rfl : p0 = p := by rw [h0] at h; simpa using h
    exact pt (hr _ (List.mem_of_getElem? h0))
  · obtain rfl : p0 = p := by rw [h0] at h; simpa using h
    exact pt (hk n hn _ (List.mem_of_getElem? h0))
end Go.Proofs.Ytncimddgkgclpaa
