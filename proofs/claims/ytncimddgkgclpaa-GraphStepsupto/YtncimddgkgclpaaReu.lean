/- Plain: what was made short stays as it is when it is made short again. -/
import Derived.Test.YtncimddgkgclpaaRes
namespace Go.Proofs.Ytncimddgkgclpaa
set_option linter.unusedVariables false
set_option linter.unusedSimpArgs false
set_option linter.unusedSectionVars false

theorem endI_range (g : List Nd) (x : Int) : -1 ≤ endI g x ∧ endI g x < g.length := by
  unfold endI
  split
  · rename_i h
    cases he : endF g x.toNat with
    | none => simp [oI]; omega
    | some e =>
      have := endF_lt he (by omega)
      simp [oI]; omega
  · omega
theorem endI_at {g : List Nd} {x : Int} (h : 0 ≤ endI g x) : (0 ≤ x ∧ x < g.length) ∧ ∃ e, endF g x.toNat = some e ∧ endI g x = e := by
  unfold endI at h ⊢
  split at h
  · rename_i q
    rw [if_pos q]
    refine ⟨q, ?_⟩
    cases he : endF g x.toNat with
    | none => rw [he] at h; simp [oI] at h
    | some e => exact ⟨e, rfl, rfl⟩
  · omega
/-- all that is met are ends -/
theorem vis_all {D : Nat → List Int} {Q : Nat → Prop} (hD : ∀ n, ∀ y ∈ D n, 0 ≤ y → Q y.toNat) : ∀ (f : Nat) (l : List Int) (met : List Nat), (∀ y ∈ l, 0 ≤ y → Q y.toNat) → (∀ n ∈ met, Q n) → ∀ n ∈ vis D f l met, Q n
  | 0, _, _, _, h => by simpa only [vis] using h
  | f + 1, [], met, _, h => by rw [vis_nil]; exact h
  | f + 1, x :: l, met, hl, h => by
    have hl' : ∀ y ∈ l, 0 ≤ y → Q y.toNat := fun y hy => hl y (List.mem_cons_of_mem _ hy)
    rw [vis]
    split
    · rename_i q
      refine vis_all hD (f + 1) l _ hl' (vis_all hD f _ _ (hD _) fun n hn => ?_)
      rcases List.mem_append.1 hn with h1 | h1
      · exact h n h1
      · have e : n = x.toNat := by simpa using h1
        rw [e]
        exact hl x (by simp) q.1
    · exact vis_all hD (f + 1) l met hl' h
termination_by f l => (f, l.length)
theorem trV_ends (g : Gr) : ∀ n ∈ trV (endI g.nd) g, ∀ x, ¬ Lead g.nd n x := by
  have key : ∀ z, 0 ≤ endI g.nd z → ∀ x, ¬ Lead g.nd (endI g.nd z).toNat x := fun z h => by
    obtain ⟨_, e, he, hz⟩ := endI_at h
    rw [hz]
    exact (endF_some he).no
  refine vis_all (Q := fun n => ∀ x, ¬ Lead g.nd n x) (fun n y hy h0 => ?_) _ _ _ (fun y hy h0 => ?_) (fun n h => by cases h)
  · obtain ⟨z, _, rfl⟩ := List.mem_map.1 hy
    exact key z h0
  · obtain ⟨z, _, rfl⟩ := List.mem_map.1 hy
    exact key z h0
section
variable (g : Gr)
/-- a kid of a node that was turned -/
theorem kd_back {V : List Nat} (hV : trV (endI g.nd) g = V) {i j x : Nat} (hi : i < V.length) (h : kdO V.length (numD V (trD (endI g.nd) g.nd V[i])) j = some x) :
    ∃ z y : Nat, kdO g.nd.length (nd0 g.nd V[i]) j = some z ∧ endF g.nd z = some y ∧ pos V y = some x := by
  unfold kdO at h
  have e : (numD V (trD (endI g.nd) g.nd V[i])).ks[j]? = ((nd0 g.nd V[i]).ks[j]?).map fun z => numI V (endI g.nd z) := by
    show (((nd0 g.nd V[i]).ks.map (endI g.nd)).map (numI V))[j]? = _
    rw [List.map_map, List.getElem?_map]
    rfl
  rw [e] at h
  cases hz : (nd0 g.nd V[i]).ks[j]? with
  | none => rw [hz] at h; cases h
  | some z =>
    rw [hz] at h
    simp only [Option.map_some] at h
    split at h
    · rename_i q
      have h0 : 0 ≤ endI g.nd z := Classical.byContradiction fun hn => by
        unfold numI at q
        rw [if_neg hn] at q
        omega
      obtain ⟨hz1, y, hy, hzy⟩ := endI_at h0
      have hn : numI V (endI g.nd z) = oI (pos V y) := by unfold numI; rw [if_pos h0, hzy]; rfl
      rw [hn] at q h
      refine ⟨z.toNat, y, ?_, hy, ?_⟩
      · unfold kdO
        rw [hz]
        simp only
        rw [if_pos hz1]
      · cases hp : pos V y with
        | none => rw [hp] at q; simp [oI] at q
        | some k =>
          rw [hp] at h
          simp [oI] at h
          rw [h]
    · cases h
theorem no_ld {V : List Nat} (hV : trV (endI g.nd) g = V) {s : List Nd} (hs : s = V.map fun n => numD V (trD (endI g.nd) g.nd n)) : ∀ (t i x : Nat), ¬ Ld s t i x
  | 0, _, _ => fun h => h.elim
  | t + 1, i, x => fun ⟨l, h⟩ => by
    have hlen : s.length = V.length := by rw [hs]; simp
    have hi : i < V.length := by omega
    have hnd : ∀ q (hq : q < V.length), nd0 s q = numD V (trD (endI g.nd) g.nd V[q]) := fun q hq => by
      rw [nd0_get (by omega)]
      simp only [hs, List.getElem_map]
    have hm : V[i] ∈ V := List.getElem_mem hi
    have hend := trV_ends g V[i] (by rw [hV]; exact hm)
    have hlt : V[i] < g.nd.length := trV_lt (endI_range g.nd) _ (by rw [hV]; exact hm)
    rw [hlen, hnd i hi] at h
    rcases h with ⟨hk, h1⟩ | ⟨hk, q, c, h1, h2, h3⟩
    · obtain ⟨z, y, h4, _, _⟩ := kd_back g hV hi h1
      exact hend z (Lead.ind hlt hk h4)
    · have hqc : q = c := by
        cases h2 with
        | refl => rfl
        | step r _ => exact absurd r (no_ld hV hs t _ _)
      subst hqc
      obtain ⟨z, y, h4, h5, h6⟩ := kd_back g hV hi h1
      have hq : q < V.length := (pos_lt V y q h6).1
      have hy : V[q] = y := by have := (pos_lt V y q h6).2; rw [List.getElem?_eq_getElem hq] at this; simpa using this
      rw [hnd q hq, hy] at h3
      unfold fdO at h3
      have hns : (numD V (trD (endI g.nd) g.nd V[i])).ns = (nd0 g.nd V[i]).ns := rfl
      rw [hns] at h3
      cases hj : (nd0 g.nd V[i]).ns with
      | nil => rw [hj] at h3; cases h3
      | cons j r =>
        rw [hj] at h3
        simp only at h3
        split at h3
        · rename_i hkk
          have h7 := kd_back g hV hq (by rw [hy]; exact h3)
          obtain ⟨z2, _, h8, _, _⟩ := h7
          rw [hy] at h8
          refine hend z2 (Lead.sel hlt hk h4 (endF_some h5).st ?_)
          unfold fdO
          rw [hj]
          simp only
          have hk2 : (nd0 g.nd y).k = 1 ∧ (nd0 g.nd y).i = (nd0 g.nd V[i]).i := hkk
          rw [if_pos hk2]
          exact h8
        · cases h3
theorem endI_kn {s : List Nd} (h : ∀ t i x, ¬ Ld s t i x) (x : Int) : endI s x = kn s.length x := by
  unfold endI kn
  split
  · rename_i q
    rw [endF_self (fun y ⟨t, hy⟩ => h t _ _ hy)]
    simp [oI]; omega
  · rfl
/-- Short of Short -/
theorem short_short : trG (endI (trG (endI g.nd) g).nd) (trG (endI g.nd) g) = trG (endI g.nd) g := by
  have h : endI (trG (endI g.nd) g).nd = kn (trG (endI g.nd) g).nd.length := funext fun x => endI_kn (no_ld g rfl rfl) x
  rw [h]
  exact trG_self (endI_range g.nd)
/-- Norm of Short -/
theorem norm_short : trG (kn (trG (endI g.nd) g).nd.length) (trG (endI g.nd) g) = trG (endI g.nd) g := trG_self (endI_range g.nd)
/-- nothing in it leads anywhere -/
theorem short_lead (n x : Nat) : ¬ Lead (trG (endI g.nd) g).nd n x := fun ⟨t, h⟩ => no_ld g rfl rfl t n x h
end
end Go.Proofs.Ytncimddgkgclpaa
