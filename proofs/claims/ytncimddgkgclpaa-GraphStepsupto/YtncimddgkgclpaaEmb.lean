/- Plain: where going on ends, where a graph lies among more nodes under other numbers. -/
import Derived.Test.YtncimddgkgclpaaTwp
namespace Go.Proofs.Ytncimddgkgclpaa
set_option linter.unusedVariables false
set_option linter.unusedSimpArgs false
set_option linter.unusedSectionVars false

/-- the same nodes among more, under other numbers -/
structure EmbG (g g' : List Nd) (φ : Nat → Nat) : Prop where
  lt : ∀ n, n < g.length → φ n < g'.length
  inj : ∀ a b, a < g.length → b < g.length → φ a = φ b → a = b
  k : ∀ n, n < g.length → (nd0 g' (φ n)).k = (nd0 g n).k
  i : ∀ n, n < g.length → (nd0 g' (φ n)).i = (nd0 g n).i
  ns : ∀ n, n < g.length → (nd0 g' (φ n)).ns = (nd0 g n).ns
  ks : ∀ n, n < g.length → ∀ i, kdO g'.length (nd0 g' (φ n)) i = (kdO g.length (nd0 g n) i).map φ
section
variable {g g' : List Nd} {φ : Nat → Nat} (R : EmbG g g' φ)
include R
theorem EmbG.fd {n c : Nat} (hn : n < g.length) (hc : c < g.length) : fdO g'.length (nd0 g' (φ n)) (nd0 g' (φ c)) = (fdO g.length (nd0 g n) (nd0 g c)).map φ := by
  unfold fdO
  rw [R.ns n hn, R.k c hc, R.i c hc, R.i n hn]
  cases (nd0 g n).ns with
  | nil => rfl
  | cons j r =>
    simp only
    split
    · exact R.ks c hc _
    · rfl
theorem EmbG.st {t : Nat} (ih : ∀ n x, Ld g t n x → Ld g' t (φ n) (φ x)) {a b : Nat} (h : St (Ld g t) a b) : St (Ld g' t) (φ a) (φ b) := by
  induction h with
  | refl => exact .refl _
  | step r _ ih2 => exact .step (ih _ _ r) ih2
theorem EmbG.stLt {t : Nat} {a b : Nat} (h : St (Ld g t) a b) (ha : a < g.length) : b < g.length := by
  induction h with
  | refl => exact ha
  | step r _ ih2 => exact ih2 r.lt.2
theorem EmbG.ld : ∀ (t n x : Nat), Ld g t n x → Ld g' t (φ n) (φ x)
  | 0, _, _, h => h.elim
  | t + 1, n, x, ⟨l, .inl h⟩ => ⟨R.lt n l, .inl ⟨by rw [R.k n l]; exact h.1, by rw [R.ks n l, h.2]; rfl⟩⟩
  | t + 1, n, x, ⟨l, .inr ⟨k, q, c, e1, e2, e3⟩⟩ => by
    have hc := R.stLt e2 (kdO_lt e1)
    exact ⟨R.lt n l, .inr ⟨by rw [R.k n l]; exact k, φ q, φ c, by rw [R.ks n l, e1]; rfl, R.st (EmbG.ld t) e2, by rw [R.fd l hc, e3]; rfl⟩⟩
theorem EmbG.stB {t : Nat} (ih : ∀ n x', n < g.length → Ld g' t (φ n) x' → ∃ x, x' = φ x ∧ Ld g t n x) {a' b' : Nat} (h : St (Ld g' t) a' b') : ∀ a, a < g.length → a' = φ a → ∃ b, b' = φ b ∧ St (Ld g t) a b := by
  induction h with
  | refl => exact fun a _ e => ⟨a, e, .refl _⟩
  | step r _ ih2 =>
    intro a ha e
    subst e
    obtain ⟨x, rfl, hx⟩ := ih a _ ha r
    obtain ⟨b, rfl, hb⟩ := ih2 x hx.lt.2 rfl
    exact ⟨b, rfl, .step hx hb⟩
theorem EmbG.ldB : ∀ (t n x' : Nat), n < g.length → Ld g' t (φ n) x' → ∃ x, x' = φ x ∧ Ld g t n x
  | 0, _, _, _, h => h.elim
  | t + 1, n, x', l, ⟨_, .inl h⟩ => by
    have h2 := h.2
    rw [R.ks n l] at h2
    obtain ⟨x, e, rfl⟩ := Option.map_eq_some_iff.1 h2
    exact ⟨x, rfl, l, .inl ⟨by rw [← R.k n l]; exact h.1, e⟩⟩
  | t + 1, n, x', l, ⟨_, .inr ⟨k, q', c', e1, e2, e3⟩⟩ => by
    rw [R.ks n l] at e1
    obtain ⟨q, eq, rfl⟩ := Option.map_eq_some_iff.1 e1
    obtain ⟨c, rfl, hs⟩ := R.stB (EmbG.ldB t) e2 q (kdO_lt eq) rfl
    have hc := R.stLt hs (kdO_lt eq)
    rw [R.fd l hc] at e3
    obtain ⟨x, ex, rfl⟩ := Option.map_eq_some_iff.1 e3
    exact ⟨x, rfl, l, .inr ⟨by rw [← R.k n l]; exact k, q, c, eq, hs, ex⟩⟩
theorem EmbG.lead {n x : Nat} : Lead g n x → Lead g' (φ n) (φ x) := fun ⟨t, h⟩ => ⟨t, R.ld t n x h⟩
theorem EmbG.leadB {n x' : Nat} (hn : n < g.length) : Lead g' (φ n) x' → ∃ x, x' = φ x ∧ Lead g n x := fun ⟨t, h⟩ => by
  obtain ⟨x, e, hx⟩ := R.ldB t n x' hn h
  exact ⟨x, e, t, hx⟩
theorem EmbG.en {n e : Nat} (hn : n < g.length) (h : En g n e) : En g' (φ n) (φ e) := by
  have he := h.st.lt hn
  refine ⟨?_, fun x hx => ?_⟩
  · have : ∀ {a b : Nat}, St (Lead g) a b → St (Lead g') (φ a) (φ b) := fun q => by
      induction q with
      | refl => exact .refl _
      | step r _ ih => exact .step (R.lead r) ih
    exact this h.st
  · obtain ⟨y, _, hy⟩ := R.leadB he hx
    exact h.no y hy
theorem EmbG.enB {n e' : Nat} (hn : n < g.length) (h : En g' (φ n) e') : ∃ e, e' = φ e ∧ En g n e := by
  have : ∀ {a' b' : Nat}, St (Lead g') a' b' → ∀ a, a < g.length → a' = φ a → ∃ b, b' = φ b ∧ St (Lead g) a b := fun q => by
    induction q with
    | refl => exact fun a _ e => ⟨a, e, .refl _⟩
    | step r _ ih2 =>
      intro a ha e
      subst e
      obtain ⟨x, rfl, hx⟩ := R.leadB ha r
      obtain ⟨b, rfl, hb⟩ := ih2 x hx.lt.2 rfl
      exact ⟨b, rfl, .step hx hb⟩
  obtain ⟨e, rfl, hs⟩ := this h.st n hn rfl
  exact ⟨e, rfl, hs, fun x hx => h.no _ (R.lead hx)⟩
theorem EmbG.endF {n : Nat} (hn : n < g.length) : endF g' (φ n) = (endF g n).map φ := by
  cases h : Ytncimddgkgclpaa.endF g n with
  | some e => exact endF_en (R.en hn (endF_some h))
  | none =>
    cases h' : Ytncimddgkgclpaa.endF g' (φ n) with
    | none => rfl
    | some e' =>
      obtain ⟨e, _, he⟩ := R.enB hn (endF_some h')
      rw [endF_en he] at h
      cases h
end
theorem oI_map {φ : Nat → Nat} (o : Option Nat) : oI (o.map φ) = ren φ (oI o) := by
  cases o with
  | none => rfl
  | some n => simp [oI, ren]
/-- the part of a graph that is met turns as the whole does -/
theorem trG_emb {tf tf' : Int → Int} {g g' : Gr} {φ : Nat → Nat} (hm : g.nd.length ≤ g'.nd.length) (inj : ∀ a b, a < g.nd.length → b < g.nd.length → φ a = φ b → a = b) (hT : ∀ x, -1 ≤ tf x ∧ tf x < g.nd.length)
    (hrs : g'.rs.map tf' = (g.rs.map tf).map (ren φ)) (hks : ∀ n, n < g.nd.length → (trD tf' g'.nd (φ n)).ks = (trD tf g.nd n).ks.map (ren φ))
    (hd : ∀ n, n < g.nd.length → (nd0 g'.nd (φ n)).k = (nd0 g.nd n).k ∧ (nd0 g'.nd (φ n)).i = (nd0 g.nd n).i ∧ (nd0 g'.nd (φ n)).ns = (nd0 g.nd n).ns) : trG tf' g' = trG tf g := by
  have hlt := trV_lt hT
  have hS : ∀ n, n < g.nd.length → ∀ y ∈ (trD tf g.nd n).ks, 0 ≤ y → y.toNat < g.nd.length := fun n _ y hy h0 => by have := trD_plc hT g.nd n y hy; omega
  have hR : ∀ y ∈ g.rs.map tf, 0 ≤ y → y.toNat < g.nd.length := fun y hy h0 => by have := trR_plc hT g.rs y hy; omega
  have hv : trV tf' g' = (trV tf g).map φ := by
    have h1 := (vis_ren (D := fun n => (trD tf g.nd n).ks) (D' := fun n => (trD tf' g'.nd n).ks) (φ := φ) (S := fun n => n < g.nd.length) inj hks hS (g'.nd.length + 1) (g.rs.map tf) [] hR (fun n h => by cases h)).1
    have h2 := vis_more (D := fun n => (trD tf g.nd n).ks) (trD_plc hT g.nd) (trR_plc hT g.rs) (met := []) (g.nd.length + 1) (g'.nd.length - g.nd.length) (unm_nil _)
    rw [show g.nd.length + 1 + (g'.nd.length - g.nd.length) = g'.nd.length + 1 by omega] at h2
    unfold trV
    rw [hrs]
    rw [h2] at h1
    exact h1
  unfold trG
  rw [hv, hrs]
  obtain ⟨V, hV⟩ : ∃ V, trV tf g = V := ⟨_, rfl⟩
  rw [hV] at hlt ⊢
  have e1 : ((g.rs.map tf).map (ren φ)).map (numI (V.map φ)) = (g.rs.map tf).map (numI V) := by
    rw [List.map_map]
    exact List.map_congr_left fun y hy => numI_map inj hlt (hR y hy)
  have e2 : (V.map φ).map (fun n => numD (V.map φ) (trD tf' g'.nd n)) = V.map fun n => numD V (trD tf g.nd n) := by
    rw [List.map_map]
    refine List.map_congr_left fun n hn => ?_
    have h1 := hks n (hlt n hn)
    obtain ⟨d1, d2, d3⟩ := hd n (hlt n hn)
    show numD (V.map φ) ⟨(nd0 g'.nd (φ n)).k, (nd0 g'.nd (φ n)).i, (nd0 g'.nd (φ n)).ns, (trD tf' g'.nd (φ n)).ks⟩ = numD V (trD tf g.nd n)
    rw [h1, d1, d2, d3]
    unfold numD
    congr 1
    rw [List.map_map]
    exact List.map_congr_left fun y hy => numI_map inj hlt (hS n (hlt n hn) y hy)
  rw [e1, e2]
/-- what is turned alike in each of its places turns into the same -/
theorem trG_congr {tf tf' : Int → Int} {g g' : Gr} (hm : g'.nd.length = g.nd.length) (hT : ∀ x, -1 ≤ tf x ∧ tf x < g.nd.length)
    (hrs : g'.rs.map tf' = g.rs.map tf) (hks : ∀ n, n < g.nd.length → (nd0 g'.nd n).ks.map tf' = (nd0 g.nd n).ks.map tf)
    (hd : ∀ n, n < g.nd.length → (nd0 g'.nd n).k = (nd0 g.nd n).k ∧ (nd0 g'.nd n).i = (nd0 g.nd n).i ∧ (nd0 g'.nd n).ns = (nd0 g.nd n).ns) : trG tf' g' = trG tf g := by
  have rid : ∀ l : List Int, (∀ y ∈ l, -1 ≤ y) → l.map (ren (fun n => n)) = l := fun l h => by
    conv => rhs; rw [← List.map_id l]
    refine List.map_congr_left fun y hy => ?_
    have := h y hy
    unfold ren
    split
    · show ((y.toNat : Nat) : Int) = y; omega
    · show -1 = y; omega
  refine trG_emb (φ := fun n => n) (by omega) (fun _ _ _ _ e => e) hT ?_ (fun n hn => ?_) hd
  · rw [rid _ fun y hy => (trR_plc hT g.rs y hy).1]; exact hrs
  · rw [rid _ fun y hy => (trD_plc hT g.nd n y hy).1]; exact hks n hn
theorem trG_len {tf : Int → Int} {g : Gr} (hT : ∀ x, -1 ≤ tf x ∧ tf x < g.nd.length) : (trG tf g).nd.length ≤ g.nd.length := by
  have h4 := vis_len (D := fun n => (trD tf g.nd n).ks) (trD_plc hT g.nd) (g.nd.length + 1) (g.rs.map tf) [] (trR_plc hT g.rs) (by have := unm_nil g.nd.length; simp; omega)
  have h5 : (trG tf g).nd.length = (trV tf g).length := by simp [trG]
  have h6 : (trV tf g).length ≤ g.nd.length := by unfold trV; omega
  omega
/-- what is put in order and then made short is what is made short -/
theorem norm_then (g : Gr) : trG (endI (trG (kn g.nd.length) g).nd) (trG (kn g.nd.length) g) = trG (endI g.nd) g := by
  have hT : ∀ x, -1 ≤ kn g.nd.length x ∧ kn g.nd.length x < g.nd.length := fun x => by unfold kn; split <;> omega
  have hc := trV_closed (g := g) hT
  have hr := trV_roots (kn g.nd.length) g
  have hlt := trV_lt (g := g) hT
  have hnd := trV_nod (kn g.nd.length) g
  have hle := trG_len (g := g) hT
  obtain ⟨V, hV⟩ : ∃ V, trV (kn g.nd.length) g = V := ⟨_, rfl⟩
  obtain ⟨s, hs⟩ : ∃ s, trG (kn g.nd.length) g = s := ⟨_, rfl⟩
  have es : s = ⟨(g.rs.map (kn g.nd.length)).map (numI V), V.map fun n => numD V (trD (kn g.nd.length) g.nd n)⟩ := by rw [← hs, ← hV]; rfl
  rw [hV] at hc hr hlt hnd
  rw [hs] at hle ⊢
  have hl : s.nd.length = V.length := by rw [es]; simp
  obtain ⟨ψ, hψ⟩ : ∃ ψ : Nat → Nat, ψ = fun i => V.getD i 0 := ⟨_, rfl⟩
  have at_ : ∀ i (h : i < V.length), ψ i = V[i] := fun i h => by rw [hψ]; simp [h]
  have mem_ : ∀ i, i < V.length → ψ i ∈ V := fun i h => by rw [at_ i h]; exact List.getElem_mem h
  have back : ∀ n, n ∈ V → pn V n < V.length ∧ ψ (pn V n) = n := fun n hn => by
    obtain ⟨h1, h2⟩ := pn_lt hn
    exact ⟨h1, by rw [at_ _ h1]; exact h2⟩
  have snd : ∀ i, i < V.length → nd0 s.nd i = numD V (trD (kn g.nd.length) g.nd (ψ i)) := fun i h => by
    rw [nd0_get (by omega), at_ i h]
    simp [es]
  have inj : ∀ a b, a < s.nd.length → b < s.nd.length → ψ a = ψ b → a = b := fun a b ha hb e => by
    rw [hl] at ha hb
    rw [at_ a ha, at_ b hb] at e
    have h1 := pn_at hnd a ha
    have h2 := pn_at hnd b hb
    rw [e] at h1
    omega
  have R : EmbG s.nd g.nd ψ := by
    refine ⟨fun n hn => hlt _ (mem_ n (by omega)), inj, fun n hn => by rw [snd n (by omega)]; rfl, fun n hn => by rw [snd n (by omega)]; rfl, fun n hn => by rw [snd n (by omega)]; rfl, fun n hn i => ?_⟩
    rw [hl] at hn ⊢
    rw [snd n hn]
    have hcn := hc _ (mem_ n hn)
    unfold kdO
    show (match (nd0 g.nd (ψ n)).ks[i]? with | some k => _ | none => _) = Option.map ψ (match (((nd0 g.nd (ψ n)).ks.map (kn g.nd.length)).map (numI V))[i]? with | some k => _ | none => _)
    have hcn' : ∀ y ∈ (nd0 g.nd (ψ n)).ks.map (kn g.nd.length), 0 ≤ y → y.toNat ∈ V := hcn
    rw [List.getElem?_map, List.getElem?_map]
    cases hk : (nd0 g.nd (ψ n)).ks[i]? with
    | none => rfl
    | some k =>
      have hm : kn g.nd.length k ∈ (nd0 g.nd (ψ n)).ks.map (kn g.nd.length) := List.mem_map_of_mem (List.mem_of_getElem? hk)
      simp only [Option.map_some]
      by_cases q : 0 ≤ k ∧ k < g.nd.length
      · have hv := hcn' _ hm (by rw [kn_yes q]; exact q.1)
        rw [kn_yes q] at hv ⊢
        obtain ⟨b1, b2⟩ := back _ hv
        rw [numI_ren (fun _ => hv), ren_pos q.1, if_pos q, if_pos (by omega)]
        simp only [Option.map_some, show ((pn V k.toNat : Nat) : Int).toNat = pn V k.toNat by omega, b2]
      · rw [if_neg q, kn_no q]
        rw [show numI V (-1) = -1 from if_neg (by omega), if_neg (by omega)]
        rfl
  have key : ∀ z, (0 ≤ kn g.nd.length z → (kn g.nd.length z).toNat ∈ V) → endI g.nd z = ren ψ (endI s.nd (numI V (kn g.nd.length z))) := fun z hz => by
    by_cases q : 0 ≤ z ∧ z < g.nd.length
    · rw [kn_yes q] at hz ⊢
      have hv := hz q.1
      obtain ⟨b1, b2⟩ := back _ hv
      rw [numI_ren hz, ren_pos q.1]
      unfold endI
      rw [if_pos q, if_pos (by omega), show ((pn V z.toNat : Nat) : Int).toNat = pn V z.toNat by omega, ← oI_map, ← R.endF (by omega), b2]
    · rw [kn_no q]
      rw [show numI V (-1) = -1 from if_neg (by omega), show endI s.nd (-1) = -1 from if_neg (by omega), show endI g.nd z = -1 from if_neg q]
      rfl
  refine (trG_emb (φ := ψ) hle inj (endI_range s.nd) ?_ (fun n hn => ?_) (fun n hn => ⟨R.k n hn, R.i n hn, R.ns n hn⟩)).symm
  · have e : s.rs = (g.rs.map (kn g.nd.length)).map (numI V) := by rw [es]
    rw [e, List.map_map, List.map_map, List.map_map]
    exact List.map_congr_left fun z hz => key z (hr _ (List.mem_map_of_mem hz))
  · rw [hl] at hn
    have hcn := hc _ (mem_ n hn)
    show (nd0 g.nd (ψ n)).ks.map (endI g.nd) = ((nd0 s.nd n).ks.map (endI s.nd)).map (ren ψ)
    rw [snd n hn]
    show (nd0 g.nd (ψ n)).ks.map (endI g.nd) = ((((nd0 g.nd (ψ n)).ks.map (kn g.nd.length)).map (numI V)).map (endI s.nd)).map (ren ψ)
    rw [List.map_map, List.map_map, List.map_map]
    exact List.map_congr_left fun z hz => key z (hcn _ (List.mem_map_of_mem hz))
end Go.Proofs.Ytncimddgkgclpaa
