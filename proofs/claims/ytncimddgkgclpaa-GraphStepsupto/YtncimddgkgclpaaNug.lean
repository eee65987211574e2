/- Graphs whose nodes stand a number further on: as they are, and in memory. -/
import Derived.Test.YtncimddgkgclpaaNum
import Derived.Test.YtncimddgkgclpaaNam
namespace Go.Proofs.Ytncimddgkgclpaa
open Go.RowKit
set_option linter.unusedVariables false
set_option linter.unusedSimpArgs false

theorem phi_eq {m r n : Nat} (hr : r < m) (hn : n < m) : phi m r n = if n + r < m then n + r else n + r - m := by
  unfold phi
  split
  · rename_i q; exact Nat.mod_eq_of_lt q
  · rename_i q
    rw [Nat.mod_eq_sub_mod (by omega)]
    exact Nat.mod_eq_of_lt (by omega)
/-- where the node stood that stands at p -/
def psi (m r p : Nat) : Nat := if p < r then p + m - r else p - r
theorem psi_lt {m r p : Nat} (hr : r < m) (hp : p < m) : psi m r p < m := by unfold psi; split <;> omega
theorem phi_psi {m r p : Nat} (hr : r < m) (hp : p < m) : phi m r (psi m r p) = p := by
  rw [phi_eq hr (psi_lt hr hp)]
  unfold psi
  split <;> split <;> omega
theorem psi_phi {m r n : Nat} (hr : r < m) (hn : n < m) : psi m r (phi m r n) = n := by
  rw [phi_eq hr hn]
  unfold psi
  split <;> split <;> omega
/-- a node, its kids' numbers r further on -/
def rnD (m r : Nat) (x : Nd) : Nd := ⟨x.k, x.i, x.ns, x.ks.map (rnI m r)⟩
/-- the graph, its nodes r further on -/
def numGr (g : Gr) (r : Nat) : Gr := ⟨g.rs.map (rnI g.nd.length r), (List.range g.nd.length).map fun p => rnD g.nd.length r (nd0 g.nd (psi g.nd.length r p))⟩
theorem numGr_len (g : Gr) (r : Nat) : (numGr g r).nd.length = g.nd.length := by simp [numGr]
theorem numGr_get (g : Gr) (r p : Nat) (hp : p < g.nd.length) : nd0 (numGr g r).nd p = rnD g.nd.length r (nd0 g.nd (psi g.nd.length r p)) := by
  rw [nd0_get (by rw [numGr_len]; exact hp)]
  simp [numGr]
theorem numGr_num (g : Gr) (r : Nat) (h : r < g.nd.length) : NumG g (numGr g r) r :=
  ⟨numGr_len g r, h, rfl, fun n hn => by rw [numGr_get g r _ (phi_lt hn), psi_phi h hn]; rfl⟩
theorem numGr_few {g : Gr} {r : Nat} (h : r < g.nd.length) {c : Nat} {Q : List Int → Prop} (h3 : ∀ x, x ∈ g.nd → x.ks.length ≤ c) (hQ : ∀ x, x ∈ g.nd → Q x.ns) : ∀ x, x ∈ (numGr g r).nd → x.ks.length ≤ c ∧ Q x.ns := fun x hx => by
  unfold numGr at hx
  simp only [List.mem_map, List.mem_range] at hx
  obtain ⟨p, hp, rfl⟩ := hx
  have hl := psi_lt h hp
  rw [nd0_get hl]
  exact ⟨by simp [rnD]; exact h3 _ (List.getElem_mem hl), (show Q (g.nd[psi g.nd.length r p]).ns from hQ _ (List.getElem_mem hl))⟩

/-! ## In memory -/
theorem own_fs {w : World} {base n c : Nat} {o : Option Addr} {l : List Int} (h : w.ownsRow base 3 1 (.slice o n c) n (its l)) (hn : l.length = n) : Fs base (fun _ => False) w .i64 3 o c l := by
  obtain ⟨hl, ⟨q, e⟩ | ⟨g, cap, cur, q, h1, h2, h3, h4, h5, h6⟩⟩ := h
  · simp only [Value.slice.injEq] at q
    obtain ⟨rfl, _, rfl⟩ := q
    exact ⟨by omega, by omega, fun hp => by omega⟩
  · simp only [Value.slice.injEq] at q
    obtain ⟨rfl, _, rfl⟩ := q
    have h4' : c ≤ 9223372036854775807 := h4
    refine ⟨by omega, by omega, fun hp => ⟨g, 0, cur, rfl, h1, id, h2, fun i hi => ?_⟩⟩
    have e1 : (cur.toList.take (n * 1))[i]? = (its l)[i]? := by rw [h6]
    rw [List.getElem?_take_of_lt (by omega)] at e1
    unfold its at e1
    rw [List.getElem?_map, List.getElem?_eq_getElem hi] at e1
    rw [Nat.zero_add]
    simpa using e1
/-- nodes in a row, the first i of them r further on -/
def NumR (w0 w : World) (D : Nat → Nd) (m r i : Nat) (cs : List Value) : Prop :=
  ∀ j, j < i → ∃ o1 c1 o2 c2, cs[phi m r j * 4]? = some (.int .i64 (D j).k) ∧ cs[phi m r j * 4 + 1]? = some (.int .i64 (D j).i) ∧ cs[phi m r j * 4 + 2]? = some (.slice o1 (D j).ns.length c1) ∧ cs[phi m r j * 4 + 3]? = some (.slice o2 (D j).ks.length c2) ∧ PS .u64 w0 o1 c1 (D j).ns ∧ Fs 0 (fun _ => False) w .i64 3 o2 c2 ((D j).ks.map (rnI m r))
theorem NumR.ky {w0 w w' : World} {D : Nat → Nd} {m r i base : Nat} {T : List Nat} {cs : List Value} (h : NumR w0 w D m r i cs) (K : Ky base (fun _ => False) T w w') (hT : 3 ∉ T) : NumR w0 w' D m r i cs := fun j hj => by
  obtain ⟨o1, c1, o2, c2, a0, a1, a2, a3, p, q⟩ := h j hj
  exact ⟨o1, c1, o2, c2, a0, a1, a2, a3, p, q.ky K hT⟩
/-- the cells of the node that is put -/
def put4 (cs : List Value) (k : Nat) (v0 v1 v2 v3 : Value) : List Value := (((cs.set k v0).set (k + 1) v1).set (k + 2) v2).set (k + 3) v3
theorem put4_in {cs : List Value} {k : Nat} (h : k + 3 < cs.length) (v0 v1 v2 v3 : Value) : (put4 cs k v0 v1 v2 v3)[k]? = some v0 ∧ (put4 cs k v0 v1 v2 v3)[k + 1]? = some v1 ∧ (put4 cs k v0 v1 v2 v3)[k + 2]? = some v2 ∧ (put4 cs k v0 v1 v2 v3)[k + 3]? = some v3 := by
  unfold put4
  refine ⟨?_, ?_, ?_, ?_⟩ <;> simp [List.getElem?_set] <;> omega
theorem put4_out {cs : List Value} {k i : Nat} (h : i < k ∨ k + 3 < i) (v0 v1 v2 v3 : Value) : (put4 cs k v0 v1 v2 v3)[i]? = cs[i]? := by
  unfold put4
  rw [List.getElem?_set_ne (by omega), List.getElem?_set_ne (by omega), List.getElem?_set_ne (by omega), List.getElem?_set_ne (by omega)]
theorem put4_len (cs : List Value) (k : Nat) (v0 v1 v2 v3 : Value) : (put4 cs k v0 v1 v2 v3).length = cs.length := by simp [put4]
theorem NumR.put {w0 w : World} {D : Nat → Nd} {m r i : Nat} {cs : List Value} (h : NumR w0 w D m r i cs) (hr : r < m) (hi : i < m) (hl : cs.length = m * 4) {o1 o2 : Option Addr} {c1 c2 : Nat} (P : PS .u64 w0 o1 c1 (D i).ns) (F : Fs 0 (fun _ => False) w .i64 3 o2 c2 ((D i).ks.map (rnI m r))) :
    NumR w0 w D m r (i + 1) (put4 cs (phi m r i * 4) (.int .i64 (D i).k) (.int .i64 (D i).i) (.slice o1 (D i).ns.length c1) (.slice o2 (D i).ks.length c2)) := fun j hj => by
  have hp := phi_lt (r := r) hi
  by_cases e : j = i
  · subst e
    obtain ⟨a0, a1, a2, a3⟩ := put4_in (cs := cs) (k := phi m r j * 4) (by omega) (.int .i64 (D j).k) (.int .i64 (D j).i) (.slice o1 (D j).ns.length c1) (.slice o2 (D j).ks.length c2)
    exact ⟨o1, c1, o2, c2, a0, a1, a2, a3, P, F⟩
  · obtain ⟨o1', c1', o2', c2', a0, a1, a2, a3, p, q⟩ := h j (by omega)
    have hne : phi m r j ≠ phi m r i := fun q => e (phi_inj hr j i (by omega) hi q)
    refine ⟨o1', c1', o2', c2', ?_, ?_, ?_, ?_, p, q⟩ <;> (rw [put4_out (by omega)]; assumption)
theorem own_put4 {w : World} {base m g cap k : Nat} {cs : List Value} (h : w.ownsRow base 34 4 (.slice (some ⟨g, 0, none⟩) m cap) m cs) (hk : k + 3 < m * 4) (v0 v1 v2 v3 : Value) :
    ((((w.setCell ⟨g, k, none⟩ v0).setCell ⟨g, k + 1, none⟩ v1).setCell ⟨g, k + 2, none⟩ v2).setCell ⟨g, k + 3, none⟩ v3).ownsRow base 34 4 (.slice (some ⟨g, 0, none⟩) m cap) m (put4 cs k v0 v1 v2 v3) := by
  have h1 := (own4 h).2.2.2.2.2.2 k v0 (by omega)
  have h2 := (own4 h1).2.2.2.2.2.2 (k + 1) v1 (by omega)
  have h3 := (own4 h2).2.2.2.2.2.2 (k + 2) v2 (by omega)
  exact (own4 h3).2.2.2.2.2.2 (k + 3) v3 (by omega)
theorem ky_put4 {w : World} {base m g cap k : Nat} {cs : List Value} (h : w.ownsRow base 34 4 (.slice (some ⟨g, 0, none⟩) m cap) m cs) (hk : k + 3 < m * 4) (v0 v1 v2 v3 : Value) :
    Ky base (fun _ => False) [34] w ((((w.setCell ⟨g, k, none⟩ v0).setCell ⟨g, k + 1, none⟩ v1).setCell ⟨g, k + 2, none⟩ v2).setCell ⟨g, k + 3, none⟩ v3) := by
  have h1 := (own4 h).2.2.2.2.2.2 k v0 (by omega)
  have h2 := (own4 h1).2.2.2.2.2.2 (k + 1) v1 (by omega)
  have h3 := (own4 h2).2.2.2.2.2.2 (k + 2) v2 (by omega)
  have one : ∀ {W : World} {xs : List Value} (j : Nat) (v : Value), W.ownsRow base 34 4 (.slice (some ⟨g, 0, none⟩) m cap) m xs → Ky base (fun _ => False) [34] W (W.setCell ⟨g, j, none⟩ v) := fun j v q => by
    obtain ⟨b, _, _, _, ⟨cur, hc⟩, _⟩ := own4 q
    exact Ky.set hc (by simp) b
  exact ((one _ _ h).trans (one _ _ h1)).trans ((one _ _ h2).trans (one _ _ h3))
theorem NumR.nds {w0 w : World} {g : Gr} {r lo pn cap : Nat} {cs : List Value} (h : NumR w0 w (fun n => nd0 g.nd n) g.nd.length r g.nd.length cs) (B : Below w0.heap.size w0 w) (hr : r < g.nd.length) (hm : g.nd.length ≤ 1000) (R : w.ownsRow lo 34 4 (.slice (some ⟨pn, 0, none⟩) g.nd.length cap) g.nd.length cs) :
    Nds w (numGr g r).nd (.slice (some ⟨pn, 0, none⟩) (numGr g r).nd.length cap) := by
  rw [numGr_len]
  obtain ⟨_, _, h3, h4, _, h6, _⟩ := own4 R
  refine ⟨_, cap, by rw [numGr_len], ⟨by rw [numGr_len]; exact h3, by rw [numGr_len]; unfold maxLen; omega⟩, fun _ => ⟨pn, 0, rfl, fun p x hp => ?_⟩⟩
  obtain ⟨hpl, rfl⟩ := List.getElem?_eq_some_iff.1 hp
  have hp' : p < g.nd.length := by rwa [numGr_len] at hpl
  have hq := psi_lt hr hp'
  obtain ⟨o1, c1, o2, c2, a0, a1, a2, a3, P, F⟩ := h _ hq
  rw [phi_psi hr hp'] at a0 a1 a2 a3
  have e := numGr_get g r p hp'
  rw [nd0_get hpl] at e
  rw [e]
  refine ⟨_, ⟨o1, c1, o2, c2, rfl, P.later B, F.ps⟩, fun j u hj => ?_⟩
  have hjl : j < 4 := by have := (List.getElem?_eq_some_iff.1 hj).1; simpa using this
  rw [Nat.zero_add, (h6 (p * 4 + j) (by omega)).1, ← hj]
  match j, hjl with
  | 0, _ => exact a0
  | 1, _ => exact a1
  | 2, _ => exact a2
  | 3, _ => rw [a3]; simp [rnD]
end Go.Proofs.Ytncimddgkgclpaa
