/- A slice of records that came in, opened: each element's five cells. -/
import Derived.Test.YtldcjbdhcciieaaActs
namespace Go.Proofs.Ytldcjbdhcciieaa
open Go.ChangeShapes Go.WideShapes Go.ChangeAt Go.RowKit
set_option linter.unusedVariables false

/-- What the walk is told of a slice of records that came in: element i's five cells, and that its places fit. -/
def IsActs (w : World) (a : Option Addr) (len : Nat) : Prop :=
  len ≤ maxLen ∧ ∀ i, i < len → ∃ (B O : Nat) (k0 k1 k2 k3 k4 : Int), a = some ⟨B, O, none⟩ ∧ (∀ j v, (actCells k0 k1 k2 k3 k4)[j]? = some v → w.cell? ⟨B, O + i * 5 + j, none⟩ = some v) ∧ In64 k1 ∧ In64 k2
theorem add_add (B O i j : Nat) : ((⟨B, O, none⟩ : Addr).add i).add j = ⟨B, O + i + j, none⟩ := by
  unfold Addr.add
  split <;> split <;> simp_all
section
variable {H : Type} {enc : TypeId × Value → H} {w : World} {base : Nat} {spare : Nat → Bool} {held : Bool}
theorem open_acts {a : Option Addr} {len cap : Nat} {d : DataW H} {p : List MemPlace} (h : DataW.Trod enc Try.prog w base spare held 22 (.slice a len cap) d p) : IsActs w a len := by
  have c34 : Try.prog.cellsOf 34 = 5 := by kernel_rfl
  obtain ⟨fuel, hf⟩ := h
  rcases Deep.open_slice Try.underlying22 hf with ⟨hcs, _⟩ | ⟨x, l, c, m, n, D, Pl, hcs, _, hl, hm, hmm, _, hx⟩
  · simp [Value.cells] at hcs
    obtain ⟨rfl, rfl, rfl⟩ := hcs
    exact ⟨Nat.zero_le _, fun i hi => absurd hi (Nat.not_lt_zero _)⟩
  · simp [Value.cells] at hcs
    obtain ⟨rfl, rfl, rfl⟩ := hcs
    refine ⟨Nat.le_trans hl hm, fun i hi => ?_⟩
    rw [c34] at hx
    have hlm : len ≤ m := by rw [hmm]; split <;> omega
    obtain ⟨B, O, spot⟩ := x
    have hs : spot = none := by
      obtain ⟨cs0, hc0, ht0⟩ := hx 0 (by omega)
      obtain ⟨k0, k1, k2, k3, k4, rfl, _⟩ := act_fields ht0
      obtain ⟨_, _, hcell⟩ := World.cells?_some hc0
      have := hcell 0 (by omega)
      simp [Addr.add, actCells] at this
      simpa using World.cell?_spot this
    subst hs
    obtain ⟨cs', hc, ht⟩ := hx i (by omega)
    obtain ⟨k0, k1, k2, k3, k4, rfl, b0, b1, b2, b3, b4⟩ := act_fields ht
    obtain ⟨_, hlen, hcell⟩ := World.cells?_some hc
    refine ⟨B, O, k0, k1, k2, k3, k4, rfl, fun j v hj => ?_, b1, b2⟩
    have hj5 : j < 5 := by
      rcases Nat.lt_or_ge j 5 with h' | h'
      · exact h'
      · rw [List.getElem?_eq_none (by rw [hlen]; exact h')] at hj; cases hj
    rw [← add_add, hcell j hj5, hj]
end
end Go.Proofs.Ytldcjbdhcciieaa
