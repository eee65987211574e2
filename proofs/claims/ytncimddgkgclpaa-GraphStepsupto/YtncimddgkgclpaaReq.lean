/- Plain: a graph that was turned stays as it is when it is turned into its own numbers. -/
import Derived.Test.YtncimddgkgclpaaRep
namespace Go.Proofs.Ytncimddgkgclpaa
set_option linter.unusedVariables false
set_option linter.unusedSimpArgs false

theorem unm_nil (m : Nat) : unm m [] < m + 1 := by
  have := cnt_max (fun p => (pos [] p).isNone) m
  unfold unm
  omega
theorem trD_plc {tf : Int → Int} {m : Nat} (hT : ∀ x, -1 ≤ tf x ∧ tf x < m) (g : List Nd) (n : Nat) : Plc m (trD tf g n).ks := fun x hx => by
  obtain ⟨y, _, rfl⟩ := List.mem_map.1 hx
  exact hT y
theorem trR_plc {tf : Int → Int} {m : Nat} (hT : ∀ x, -1 ≤ tf x ∧ tf x < m) (l : List Int) : Plc m (l.map tf) := fun x hx => by
  obtain ⟨y, _, rfl⟩ := List.mem_map.1 hx
  exact hT y
theorem trV_closed {tf : Int → Int} {g : Gr} (hT : ∀ x, -1 ≤ tf x ∧ tf x < g.nd.length) : ∀ n ∈ trV tf g, ∀ y ∈ (trD tf g.nd n).ks, 0 ≤ y → y.toNat ∈ trV tf g := fun n hn => by
  rcases vis_closed (trD_plc hT g.nd) _ _ _ (trR_plc hT g.rs) (unm_nil _) n hn with h | h
  · cases h
  · exact h
theorem trV_roots (tf : Int → Int) (g : Gr) : ∀ y ∈ g.rs.map tf, 0 ≤ y → y.toNat ∈ trV tf g := fun y hy h0 => vis_has _ _ _ y hy h0 (Nat.succ_pos _)
theorem trV_lt {tf : Int → Int} {g : Gr} (hT : ∀ x, -1 ≤ tf x ∧ tf x < g.nd.length) : ∀ n ∈ trV tf g, n < g.nd.length := vis_lt (trD_plc hT g.nd) _ _ _ (trR_plc hT g.rs) (fun n h => by cases h)
theorem trV_nod (tf : Int → Int) (g : Gr) : NoD (trV tf g) := vis_nod _ _ _ NoD.nil
/-- a place's number, of what is met -/
def pn (V : List Nat) (n : Nat) : Nat := (pos V n).getD 0
theorem numI_ren {V : List Nat} {y : Int} (h : 0 ≤ y → y.toNat ∈ V) : numI V y = ren (pn V) y := by
  unfold numI ren
  split
  · rename_i q
    obtain ⟨i, hi⟩ := pos_mem V _ (h q)
    unfold pn
    rw [hi]
    rfl
  · rfl
theorem pn_inj {V : List Nat} : ∀ a b, a ∈ V → b ∈ V → pn V a = pn V b → a = b := fun a b ha hb e => by
  obtain ⟨i, hi⟩ := pos_mem V a ha
  obtain ⟨j, hj⟩ := pos_mem V b hb
  unfold pn at e
  rw [hi, hj] at e
  have e' : i = j := e
  subst e'
  exact pos_inj hi hj
theorem pn_at {V : List Nat} (h : NoD V) (i : Nat) (hi : i < V.length) : pn V V[i] = i := by unfold pn; rw [h i hi]; rfl
theorem pn_lt {V : List Nat} {n : Nat} (h : n ∈ V) : ∃ hl : pn V n < V.length, V[pn V n] = n := by
  obtain ⟨i, hi⟩ := pos_mem V n h
  have e : pn V n = i := by unfold pn; rw [hi]; rfl
  obtain ⟨h1, h2⟩ := pos_lt V n i hi
  rw [List.getElem?_eq_getElem h1] at h2
  subst e
  exact ⟨h1, by simpa using h2⟩
theorem ren_range {V : List Nat} (hp : 0 < V.length ∨ True) {y : Int} (h : 0 ≤ y → y.toNat ∈ V) : -1 ≤ ren (pn V) y ∧ ren (pn V) y < V.length := by
  by_cases q : 0 ≤ y
  · obtain ⟨h1, _⟩ := pn_lt (h q)
    rw [ren_pos q]; omega
  · rw [ren_neg q]; omega
theorem kn_ren {V : List Nat} {y : Int} (h : 0 ≤ y → y.toNat ∈ V) : kn V.length (ren (pn V) y) = ren (pn V) y := by
  have := ren_range (.inr trivial) h
  unfold kn
  split
  · rfl
  · omega
theorem map_pn {V : List Nat} (h : NoD V) : V.map (pn V) = List.range V.length := by
  refine List.ext_getElem (by simp) fun i h1 h2 => ?_
  simp only [List.getElem_map, List.getElem_range]
  exact pn_at h i (by simpa using h1)
theorem pos_range : ∀ (n p : Nat), p < n → pos (List.range n) p = some p := fun n p hp => by
  have hn : NoD (List.range n) := by
    have : ∀ k, NoD (List.range k) := fun k => by
      induction k with
      | zero => exact NoD.nil
      | succ k ih =>
        rw [List.range_succ]
        refine ih.app ?_
        cases h : pos (List.range k) k with
        | none => rfl
        | some i =>
          have := (pos_lt _ _ _ h).2
          have := List.mem_of_getElem? this
          simp at this
    exact this n
  have := hn p (by simpa using hp)
  simpa using this
theorem numI_range {n : Nat} {x : Int} (h1 : -1 ≤ x) (h2 : x < n) : numI (List.range n) x = x := by
  unfold numI
  split
  · rw [pos_range n _ (by omega)]
    simp [oI]; omega
  · omega
/-- what was turned stays, when it is turned by its own numbers -/
theorem trG_self {tf : Int → Int} {g : Gr} (hT : ∀ x, -1 ≤ tf x ∧ tf x < g.nd.length) : trG (kn (trG tf g).nd.length) (trG tf g) = trG tf g := by
  have hc := trV_closed hT
  have hr := trV_roots tf g
  have hlt := trV_lt hT
  have hnd := trV_nod tf g
  obtain ⟨V, hV⟩ : ∃ V, trV tf g = V := ⟨_, rfl⟩
  rw [hV] at hc hr hlt hnd
  have es : trG tf g = ⟨(g.rs.map tf).map (ren (pn V)), V.map fun n => numD V (trD tf g.nd n)⟩ := by
    unfold trG
    rw [hV]
    congr 1
    exact List.map_congr_left fun y hy => numI_ren (hr y hy)
  obtain ⟨s, hs⟩ : ∃ s, trG tf g = s := ⟨_, rfl⟩
  have hlen : s.nd.length = V.length := by rw [← hs, es]; simp
  rw [hs, hlen]
  have hsr : s.rs = (g.rs.map tf).map (ren (pn V)) := by rw [← hs, es]
  have hsn : ∀ i (h : i < V.length), nd0 s.nd i = numD V (trD tf g.nd V[i]) := fun i h => by
    have : s.nd = V.map fun n => numD V (trD tf g.nd n) := by rw [← hs, es]
    rw [this, nd0_get (by simpa using h)]
    simp
  have hks : ∀ n, n ∈ V → (trD tf g.nd n).ks.map (numI V) = (trD tf g.nd n).ks.map (ren (pn V)) := fun n hn => List.map_congr_left fun y hy => numI_ren (hc n hn y hy)
  have hkk : ∀ n, n ∈ V → ((trD tf g.nd n).ks.map (ren (pn V))).map (kn V.length) = (trD tf g.nd n).ks.map (ren (pn V)) := fun n hn => by
    rw [List.map_map]
    exact List.map_congr_left fun y hy => kn_ren (hc n hn y hy)
  have hD : ∀ n, n ∈ V → (trD (kn V.length) s.nd (pn V n)).ks = ((trD tf g.nd n).ks).map (ren (pn V)) := fun n hn => by
    obtain ⟨h1, h2⟩ := pn_lt hn
    have h3 := hsn _ h1
    rw [h2] at h3
    show (nd0 s.nd (pn V n)).ks.map (kn V.length) = _
    rw [h3]
    show ((trD tf g.nd n).ks.map (numI V)).map (kn V.length) = _
    rw [hks n hn, hkk n hn]
  have hrr : s.rs.map (kn V.length) = (g.rs.map tf).map (ren (pn V)) := by
    rw [hsr, List.map_map]
    exact List.map_congr_left fun y hy => kn_ren (hr y hy)
  have hv : trV (kn V.length) s = List.range V.length := by
    have h1 := (vis_ren (D := fun n => (trD tf g.nd n).ks) (D' := fun n => (trD (kn V.length) s.nd n).ks) (φ := pn V) (S := fun n => n ∈ V) (fun a b => pn_inj a b) hD hc (g.nd.length + 1) (g.rs.map tf) [] hr (fun n h => by cases h)).1
    have h2 : vis (fun n => (trD tf g.nd n).ks) (g.nd.length + 1) (g.rs.map tf) [] = V := hV
    rw [h2, map_pn hnd, ← hrr] at h1
    have hT2 : ∀ x, -1 ≤ kn V.length x ∧ kn V.length x < V.length := fun x => by unfold kn; split <;> omega
    have h3 := vis_more (D := fun n => (trD (kn V.length) s.nd n).ks) (trD_plc hT2 s.nd) (l := s.rs.map (kn V.length)) (met := []) (trR_plc hT2 s.rs) (V.length + 1) (g.nd.length - V.length) (unm_nil _)
    have hle : V.length ≤ g.nd.length := by
      have h4 := vis_len (D := fun n => (trD tf g.nd n).ks) (trD_plc hT g.nd) (g.nd.length + 1) (g.rs.map tf) [] (trR_plc hT g.rs) (by have := unm_nil g.nd.length; simp; omega)
      rw [h2] at h4
      omega
    unfold trV
    rw [hlen, ← h3, show V.length + 1 + (g.nd.length - V.length) = g.nd.length + 1 by omega]
    exact h1
  have hmk : ∀ n, n ∈ V → ((trD tf g.nd n).ks.map (ren (pn V))).map (numI (List.range V.length)) = (trD tf g.nd n).ks.map (ren (pn V)) := fun n hn => by
    rw [List.map_map]
    exact List.map_congr_left fun y hy => by
      have := ren_range (.inr trivial) (hc n hn y hy)
      exact numI_range this.1 this.2
  unfold trG
  rw [hv, hrr]
  have e1 : ((g.rs.map tf).map (ren (pn V))).map (numI (List.range V.length)) = s.rs := by
    rw [hsr, List.map_map]
    exact List.map_congr_left fun y hy => by
      have := ren_range (.inr trivial) (hr y hy)
      exact numI_range this.1 this.2
  have e2 : ((List.range V.length).map fun n => numD (List.range V.length) (trD (kn V.length) s.nd n)) = s.nd := by
    refine List.ext_getElem (by simp [hlen]) fun i h1 h2 => ?_
    have hi : i < V.length := by simpa using h1
    have hm : V[i] ∈ V := List.getElem_mem hi
    have h3 := hD _ hm
    rw [pn_at hnd i hi] at h3
    simp only [List.getElem_map, List.getElem_range]
    have h4 := hsn i hi
    rw [nd0_get h2] at h4
    have h5 : trD (kn V.length) s.nd i = ⟨(nd0 s.nd i).k, (nd0 s.nd i).i, (nd0 s.nd i).ns, (trD (kn V.length) s.nd i).ks⟩ := rfl
    rw [h5, h3, nd0_get h2, h4]
    unfold numD
    rw [hmk _ hm, hks _ hm]
  rw [e1, e2]
end Go.Proofs.Ytncimddgkgclpaa
