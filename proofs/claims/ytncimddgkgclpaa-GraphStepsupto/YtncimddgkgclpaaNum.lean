/- Plain: a graph whose nodes stand elsewhere turns into the same. -/
import Derived.Test.YtncimddgkgclpaaTwp
namespace Go.Proofs.Ytncimddgkgclpaa
set_option linter.unusedVariables false
set_option linter.unusedSimpArgs false

/-- a node's place, r further on -/
def phi (m r n : Nat) : Nat := (n + r) % m
/-- a number, r further on -/
def rnI (m r : Nat) (x : Int) : Int := ren (phi m r) (kn m x)
theorem phi_lt {m r n : Nat} (h : n < m) : phi m r n < m := Nat.mod_lt _ (by omega)
theorem phi_inj {m r : Nat} (hr : r < m) : ∀ a b, a < m → b < m → phi m r a = phi m r b → a = b := fun a b ha hb e => by
  unfold phi at e
  have key : ∀ c, c < m → (c + r) % m = if c + r < m then c + r else c + r - m := fun c hc => by
    split
    · rename_i q; exact Nat.mod_eq_of_lt q
    · rename_i q
      rw [Nat.mod_eq_sub_mod (by omega)]
      exact Nat.mod_eq_of_lt (by omega)
  rw [key a ha, key b hb] at e
  split at e <;> split at e <;> omega
theorem kn_rn {m r : Nat} (x : Int) : kn m (rnI m r x) = rnI m r x := by
  unfold rnI
  by_cases h : 0 ≤ x ∧ x < m
  · rw [kn_yes h, ren_pos h.1]
    have := phi_lt (r := r) (m := m) (n := x.toNat) (by omega)
    exact kn_yes (by omega)
  · rw [kn_no h, ren_neg (by omega)]
    exact kn_no (by omega)
/-- the graph g, its nodes r further on -/
structure NumG (g g' : Gr) (r : Nat) : Prop where
  len : g'.nd.length = g.nd.length
  lt : r < g.nd.length
  rs : g'.rs = g.rs.map (rnI g.nd.length r)
  nd : ∀ n, n < g.nd.length → nd0 g'.nd (phi g.nd.length r n) = ⟨(nd0 g.nd n).k, (nd0 g.nd n).i, (nd0 g.nd n).ns, (nd0 g.nd n).ks.map (rnI g.nd.length r)⟩
section
variable {g g' : Gr} {r : Nat}
theorem NumG.ren (N : NumG g g' r) : RenG g.nd g'.nd (phi g.nd.length r) := by
  refine ⟨N.len, fun n hn => phi_lt hn, phi_inj N.lt, fun n hn => by rw [N.nd n hn], fun n hn => by rw [N.nd n hn], fun n hn => by rw [N.nd n hn], fun n hn i => ?_⟩
  unfold kdO
  rw [N.nd n hn, N.len]
  simp only [List.getElem?_map]
  cases (nd0 g.nd n).ks[i]? with
  | none => rfl
  | some k =>
    simp only [Option.map_some]
    by_cases h : 0 ≤ k ∧ k < g.nd.length
    · have e : rnI g.nd.length r k = (phi g.nd.length r k.toNat : Int) := by unfold rnI; rw [kn_yes h, ren_pos h.1]
      have := phi_lt (r := r) (m := g.nd.length) (n := k.toNat) (by omega)
      rw [e, if_pos h, if_pos (by omega)]
      simp
    · have e : rnI g.nd.length r k = -1 := by unfold rnI; rw [kn_no h, ren_neg (by omega)]
      rw [e, if_neg h, if_neg (by omega)]
      rfl
theorem NumG.end (N : NumG g g' r) (x : Int) : endI g'.nd (rnI g.nd.length r x) = Ytncimddgkgclpaa.ren (phi g.nd.length r) (endI g.nd x) := by
  by_cases h : 0 ≤ x ∧ x < g.nd.length
  · have e : rnI g.nd.length r x = (phi g.nd.length r x.toNat : Int) := by unfold rnI; rw [kn_yes h, ren_pos h.1]
    have h2 := phi_lt (r := r) (m := g.nd.length) (n := x.toNat) (by omega)
    rw [e]
    unfold endI
    rw [if_pos h, if_pos (by rw [N.len]; omega), show ((phi g.nd.length r x.toNat : Nat) : Int).toNat = phi g.nd.length r x.toNat by omega, N.ren.endF (by omega)]
    cases endF g.nd x.toNat with
    | none => simp [oI, Ytncimddgkgclpaa.ren]
    | some y => simp [oI, Ytncimddgkgclpaa.ren]
  · have e : rnI g.nd.length r x = -1 := by unfold rnI; rw [kn_no h, ren_neg (by omega)]
    rw [e]
    unfold endI
    rw [if_neg h, if_neg (by omega)]
    rfl
theorem NumG.turn (N : NumG g g' r) {tf tf' : Int → Int} (hT : ∀ x, -1 ≤ tf x ∧ tf x < g.nd.length) (h : ∀ x, tf' (rnI g.nd.length r x) = Ytncimddgkgclpaa.ren (phi g.nd.length r) (tf x)) : trG tf' g' = trG tf g := by
  refine trG_ren N.len (phi_inj N.lt) hT ?_ (fun n hn => ?_) (fun n hn => by rw [N.nd n hn]; exact ⟨rfl, rfl, rfl⟩)
  · rw [N.rs, List.map_map, List.map_map]
    exact List.map_congr_left fun x _ => h x
  · show (nd0 g'.nd (phi g.nd.length r n)).ks.map tf' = ((nd0 g.nd n).ks.map tf).map _
    rw [N.nd n hn, List.map_map, List.map_map]
    exact List.map_congr_left fun x _ => h x
theorem NumG.norm (N : NumG g g' r) : trG (kn g'.nd.length) g' = trG (kn g.nd.length) g :=
  N.turn (fun x => by unfold kn; split <;> omega) (fun x => by rw [N.len, kn_rn]; rfl)
theorem NumG.short (N : NumG g g' r) : trG (endI g'.nd) g' = trG (endI g.nd) g := N.turn (endI_range g.nd) N.end
end
end Go.Proofs.Ytncimddgkgclpaa
