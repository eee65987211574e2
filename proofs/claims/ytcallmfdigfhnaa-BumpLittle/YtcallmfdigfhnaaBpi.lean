/- Little is lost. Nothing here speaks of a program. -/
import Derived.Test.YtcallmfdigfhnaaBpa
namespace Go.Proofs.Ytcallmfdigfhnaa
set_option linter.unusedVariables false

/-- A space's blocks, by its words and what is left. -/
def Few (S : S0) : Prop := 64 * S.bl ≤ 2 * S.us + lft S.nx
theorem few_none : Few S0.none := by unfold Few S0.none; simp
theorem few_lay {f : Nat → Int} {N M : Nat} {S : S0} (h : Few S) (n : Int) : Few (layS f N M S n) := by
  unfold layS
  split
  · rename_i hn
    split
    · exact h
    · rename_i x e
      obtain ⟨k, rfl⟩ : ∃ k : Nat, n = k := ⟨n.toNat, by omega⟩
      simp only [Int.toNat_natCast] at e ⊢
      unfold Few at h ⊢
      unfold room at e
      split at e
      · rename_i hl
        simp only [Option.some.injEq] at e
        subst e
        have h64 : k ≤ 64 := by have := lft_lt S.nx; omega
        have hm : ¬ S.nx % 64 = 0 := by intro q; unfold lft blk at hl; omega
        simp only [S0.add, if_pos h64, if_neg hm]
        unfold lft blk at *
        omega
      · rename_i hl
        split at e
        · cases e
        · rename_i s he
          split at e
          · cases e
          · simp only [Option.some.injEq] at e
            subst e
            have hm : (s.1 * 64) % 64 = 0 := by omega
            simp only [S0.add, if_pos hm]
            split
            · unfold lft blk at *; omega
            · have := blk_lt k; omega
  · exact h
theorem few_end {S : S0} (h : Few S) : S.bl ≤ 2 * ((S.us + 63) / 64) + 1 := by
  have := lft_lt S.nx
  unfold Few at h
  omega
end Go.Proofs.Ytcallmfdigfhnaa
