/- Plain: the same graph under other numbers turns into the same. -/
import Derived.Test.YtncimddgkgclpaaReq
namespace Go.Proofs.Ytncimddgkgclpaa
set_option linter.unusedVariables false
set_option linter.unusedSimpArgs false

theorem numI_map {φ : Nat → Nat} {S : Nat → Prop} (inj : ∀ a b, S a → S b → φ a = φ b → a = b) {V : List Nat} {y : Int} (h : ∀ n ∈ V, S n) (hy : 0 ≤ y → S y.toNat) : numI (V.map φ) (ren φ y) = numI V y := by
  by_cases q : 0 ≤ y
  · unfold numI
    rw [ren_pos q, if_pos (by omega), if_pos q, show ((φ y.toNat : Nat) : Int).toNat = φ y.toNat by omega, pos_ren inj V _ h (hy q)]
  · rw [ren_neg q]
    unfold numI
    rw [if_neg (by omega), if_neg q]
theorem trG_ren {tf tf' : Int → Int} {g g' : Gr} {φ : Nat → Nat} (hm : g'.nd.length = g.nd.length) (inj : ∀ a b, a < g.nd.length → b < g.nd.length → φ a = φ b → a = b) (hT : ∀ x, -1 ≤ tf x ∧ tf x < g.nd.length)
    (hrs : g'.rs.map tf' = (g.rs.map tf).map (ren φ)) (hks : ∀ n, n < g.nd.length → (trD tf' g'.nd (φ n)).ks = (trD tf g.nd n).ks.map (ren φ))
    (hd : ∀ n, n < g.nd.length → (nd0 g'.nd (φ n)).k = (nd0 g.nd n).k ∧ (nd0 g'.nd (φ n)).i = (nd0 g.nd n).i ∧ (nd0 g'.nd (φ n)).ns = (nd0 g.nd n).ns) : trG tf' g' = trG tf g := by
  have hlt := trV_lt hT
  have hS : ∀ n, n < g.nd.length → ∀ y ∈ (trD tf g.nd n).ks, 0 ≤ y → y.toNat < g.nd.length := fun n _ y hy h0 => by have := trD_plc hT g.nd n y hy; omega
  have hR : ∀ y ∈ g.rs.map tf, 0 ≤ y → y.toNat < g.nd.length := fun y hy h0 => by have := trR_plc hT g.rs y hy; omega
  have hv : trV tf' g' = (trV tf g).map φ := by
    have h1 := (vis_ren (D := fun n => (trD tf g.nd n).ks) (D' := fun n => (trD tf' g'.nd n).ks) (φ := φ) (S := fun n => n < g.nd.length) inj hks hS (g.nd.length + 1) (g.rs.map tf) [] hR (fun n h => by cases h)).1
    unfold trV
    rw [hm, hrs]
    exact h1
  unfold trG
  rw [hv, hrs]
  obtain ⟨V, hV⟩ : ∃ V, trV tf g = V := ⟨_, rfl⟩
  rw [hV] at hlt ⊢
  have e1 : ((g.rs.map tf).map (ren φ)).map (numI (V.map φ)) = (g.rs.map tf).map (numI V) := by
    rw [List.map_map]
    exact List.map_congr_left fun y hy => numI_map inj hlt (hR y hy)
  have e2 : (V.map φ).map (fun n => numD (V.map φ) (trD tf' g'.nd n)) = V.map fun n => numD V (trD tf g.nd n) := by
    rw [List.map_map]
    refine List.map_congr_left fun n hn => ?_
    have h1 := hks n (hlt n hn)
    obtain ⟨d1, d2, d3⟩ := hd n (hlt n hn)
    show numD (V.map φ) ⟨(nd0 g'.nd (φ n)).k, (nd0 g'.nd (φ n)).i, (nd0 g'.nd (φ n)).ns, (trD tf' g'.nd (φ n)).ks⟩ = numD V (trD tf g.nd n)
    rw [h1, d1, d2, d3]
    unfold numD
    congr 1
    rw [List.map_map]
    exact List.map_congr_left fun y hy => numI_map inj hlt (hS n (hlt n hn) y hy)
  rw [e1, e2]
end Go.Proofs.Ytncimddgkgclpaa
