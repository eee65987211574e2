/- Plain: what GraphTwice asks of a graph that was made short. -/
import Derived.Test.YtncimddgkgclpaaReu
import Derived.Test.YtncimddgkgclpaaEnd
import Derived.Test.YtncimddgkgclpaaFew
import Derived.Test.YtncimddgkgclpaaAwk
namespace Go.Proofs.Ytncimddgkgclpaa
set_option linter.unusedVariables false
set_option linter.unusedSimpArgs false

theorem ldI_neg {g : List Nd} {n : Nat} (hn : n < g.length) (ok : ∀ j, j ∈ (nd0 g n).ns → 0 ≤ j) (h : ∀ x, ¬ Lead g n x) : ldI g n < 0 := by
  have hge : ∀ k : Int, ¬ (0 ≤ geI g.length k ∧ ¬ (0 ≤ k ∧ k < g.length)) := fun k ⟨h1, h2⟩ => by
    unfold geI at h1
    split at h1 <;> omega
  have hgv : ∀ k : Int, 0 ≤ k ∧ k < g.length → geI g.length k = k := fun k q => by unfold geI; rw [if_neg (by omega)]
  refine Classical.byContradiction fun hc => ?_
  have h0 : 0 ≤ ldI g n := by omega
  unfold ldI at h0
  cases hk : (nd0 g n).ks with
  | nil => rw [hk] at h0; simp at h0
  | cons k r =>
    rw [hk] at h0
    simp only at h0
    have kd : 0 ≤ k ∧ k < g.length → kdO g.length (nd0 g n) 0 = some k.toNat := fun q => by unfold kdO; rw [hk]; simp only [List.getElem?_cons_zero]; rw [if_pos q]
    split at h0
    · rename_i h8
      have q : 0 ≤ k ∧ k < g.length := Classical.byContradiction fun q => hge k ⟨h0, q⟩
      exact h _ (Lead.ind hn h8 (kd q))
    · split at h0
      · rename_i h7
        have q : 0 ≤ k ∧ k < g.length := Classical.byContradiction fun q => hge k ⟨h7.2, q⟩
        cases hj : (nd0 g n).ns with
        | nil => rw [hj] at h0; simp at h0
        | cons j s =>
          rw [hj] at h0
          simp only at h0
          have hj0 : 0 ≤ j := ok j (by rw [hj]; simp)
          split at h0
          · rename_i hc3
            have hjl : j.toNat < (nd0 g k.toNat).ks.length := by omega
            have hget : (nd0 g k.toNat).ks.getD j.toNat 0 = (nd0 g k.toNat).ks[j.toNat] := by simp [hjl]
            rw [hget] at h0
            have q2 : 0 ≤ (nd0 g k.toNat).ks[j.toNat] ∧ (nd0 g k.toNat).ks[j.toNat] < g.length := Classical.byContradiction fun q2 => hge _ ⟨h0, q2⟩
            refine h _ (Lead.sel hn h7.1 (kd q) (.refl _) (x := ((nd0 g k.toNat).ks[j.toNat]).toNat) ?_)
            unfold fdO
            rw [hj]
            simp only
            rw [if_pos ⟨hc3.1, hc3.2.1⟩]
            unfold kdO
            rw [List.getElem?_eq_getElem hjl]
            simp only
            rw [if_pos q2]
          · omega
      · omega
/-- how great a graph is that was turned -/
theorem trG_few {tf : Int → Int} {g : Gr} (hT : ∀ x, -1 ≤ tf x ∧ tf x < g.nd.length) {a b c : Nat} (h1 : g.nd.length ≤ a) (h2 : g.rs.length ≤ b) (h3 : ∀ x, x ∈ g.nd → x.ks.length ≤ c) : (trG tf g).nd.length ≤ a ∧ (trG tf g).rs.length ≤ b ∧ ∀ x, x ∈ (trG tf g).nd → x.ks.length ≤ c := by
  refine ⟨?_, by simp [trG]; omega, fun x hx => ?_⟩
  · have h4 := vis_len (D := fun n => (trD tf g.nd n).ks) (trD_plc hT g.nd) (g.nd.length + 1) (g.rs.map tf) [] (trR_plc hT g.rs) (by have := unm_nil g.nd.length; simp; omega)
    have h5 : (trG tf g).nd.length = (trV tf g).length := by simp [trG]
    have h6 : (trV tf g).length ≤ g.nd.length := by unfold trV; omega
    omega
  · unfold trG at hx
    simp only [List.mem_map] at hx
    obtain ⟨n, hn, rfl⟩ := hx
    have hlt := trV_lt hT n hn
    have : (numD (trV tf g) (trD tf g.nd n)).ks.length = (nd0 g.nd n).ks.length := by simp [numD, trD]
    rw [this, nd0_get hlt]
    exact h3 _ (List.getElem_mem hlt)
/-- the words of a graph that was turned are words of the graph -/
theorem trG_words {tf : Int → Int} {g : Gr} (hT : ∀ x, -1 ≤ tf x ∧ tf x < g.nd.length) {Q : List Int → Prop} (h : ∀ x, x ∈ g.nd → Q x.ns) : ∀ x, x ∈ (trG tf g).nd → Q x.ns := fun x hx => by
  unfold trG at hx
  simp only [List.mem_map] at hx
  obtain ⟨n, hn, rfl⟩ := hx
  have hlt := trV_lt hT n hn
  show Q (nd0 g.nd n).ns
  rw [nd0_get hlt]
  exact h _ (List.getElem_mem hlt)
/-- all its places are its own -/
theorem trG_plc {tf : Int → Int} {g : Gr} (hT : ∀ x, -1 ≤ tf x ∧ tf x < g.nd.length) : Plc (trG tf g).nd.length (trG tf g).rs ∧ ∀ x, x ∈ (trG tf g).nd → Plc (trG tf g).nd.length x.ks := by
  have hl : (trG tf g).nd.length = (trV tf g).length := by simp [trG]
  have key : ∀ y, -1 ≤ numI (trV tf g) y ∧ numI (trV tf g) y < (trG tf g).nd.length := fun y => by
    rw [hl]
    unfold numI
    split
    · cases h : pos (trV tf g) y.toNat with
      | none => simp [oI]; omega
      | some i => have := (pos_lt _ _ _ h).1; simp [oI]; omega
    · omega
  refine ⟨fun y hy => ?_, fun x hx y hy => ?_⟩
  · have hy' : y ∈ (g.rs.map tf).map (numI (trV tf g)) := hy
    obtain ⟨z, _, rfl⟩ := List.mem_map.1 hy'
    exact key z
  · have hx' : x ∈ (trV tf g).map fun n => numD (trV tf g) (trD tf g.nd n) := hx
    obtain ⟨n, _, rfl⟩ := List.mem_map.1 hx'
    have hy' : y ∈ ((trD tf g.nd n).ks).map (numI (trV tf g)) := hy
    obtain ⟨z, _, rfl⟩ := List.mem_map.1 hy'
    exact key z
theorem fewG_few (g : Gr) : (fewG g).nd.length ≤ 60 ∧ (fewG g).rs.length ≤ 60 ∧ ∀ x, x ∈ (fewG g).nd → x.ks.length ≤ 20 := by
  refine ⟨by simp [fewG]; omega, by simp [fewG]; omega, fun x hx => ?_⟩
  have hx' : x ∈ (g.nd.take 60).map fewD := hx
  obtain ⟨y, _, rfl⟩ := List.mem_map.1 hx'
  simp [fewD]
  omega
theorem fewG_words {g : Gr} {Q : List Int → Prop} (h : ∀ x, x ∈ g.nd → Q x.ns) : ∀ x, x ∈ (fewG g).nd → Q x.ns := fun x hx => by
  have hx' : x ∈ (g.nd.take 60).map fewD := hx
  obtain ⟨y, hy, rfl⟩ := List.mem_map.1 hx'
  exact h y (List.mem_of_mem_take hy)
theorem smOf {g : Gr} (h1 : g.nd.length ≤ 60) (h2 : g.rs.length ≤ 60) (h3 : ∀ x, x ∈ g.nd → x.ks.length ≤ 20) (h4 : ∀ x, x ∈ g.nd → x.ns.length ≤ 1048576) : Sm g := by
  refine ⟨by omega, by omega, fun n => ?_, fun n => ?_⟩
  · rcases Nat.lt_or_ge n g.nd.length with q | q
    · rw [nd0_get q]; have := h3 _ (List.getElem_mem q); omega
    · rw [nd0_far q]; simp
  · rcases Nat.lt_or_ge n g.nd.length with q | q
    · rw [nd0_get q]; have := h4 _ (List.getElem_mem q); omega
    · rw [nd0_far q]; simp
end Go.Proofs.Ytncimddgkgclpaa
