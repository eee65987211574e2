/- Package lex's walk over blanks and remarks. -/
import Derived.Test.YtofgnpehlheeiaaGreatDoorSkip
import Derived.Test.YtofgnpehlheeiaaGreatDoorShelf
import Derived.WalkMore
namespace Go.Proofs.YtofgnpehlheeiaaGreatDoor
open Go.RowKit
set_option linter.unusedVariables false

/-- how many bytes a remark has, with the byte 10 that ends it -/
def remN : List UInt8 → Nat
  | [] => 0
  | c :: r => if c.toNat = 10 then 1 else remN r + 1
theorem remN_le : ∀ l, remN l ≤ l.length
  | [] => Nat.le_refl _
  | c :: r => by
    have := remN_le r
    unfold remN
    split <;> simp only [List.length_cons] <;> omega
theorem skip_true : ∀ l, skipN true l = remN l + skipN false (l.drop (remN l))
  | [] => rfl
  | c :: r => by
    rw [skipN, remN]
    split
    · rw [List.drop_succ_cons, List.drop_zero]; omega
    · rw [skip_true r, List.drop_succ_cons]; omega
theorem remN_index : ∀ l : List UInt8, (Lib.indexByte l 10 < 0 → remN l = l.length) ∧ (0 ≤ Lib.indexByte l 10 → (remN l : Int) = Lib.indexByte l 10 + 1)
  | [] => ⟨fun _ => rfl, fun h => absurd h (by decide)⟩
  | c :: r => by
    obtain ⟨h1, h2⟩ := remN_index r
    have hg := Lib.indexByte_ge r 10
    unfold Lib.indexByte remN
    by_cases e : c = 10
    · subst e
      simp
    · have e' : ¬ c.toNat = 10 := fun q => e (UInt8.toNat.inj q)
      have e2 : (c == 10) = false := by simp [e]
      rw [if_neg e', e2]
      simp only [Bool.false_eq_true, if_false]
      by_cases q : Lib.indexByte r 10 = -1
      · have := h1 (by omega)
        rw [q]
        simp [this]
      · have := h2 (by omega)
        rw [if_neg (by simpa using q)]
        refine ⟨fun h => by omega, fun h => ?_⟩
        omega

theorem ext_list (s : ByteArray) (a b : Nat) : (s.extract a b).data.toList = (s.data.toList.take b).drop a := by
  rw [ByteArray.data_extract]
  simp [Array.toList_extract, List.drop_take]
theorem ext_end (s : ByteArray) (a : Nat) : (s.extract a s.size).data.toList = s.data.toList.drop a := by
  rw [ext_list, List.take_of_length_le (by simp)]

end Go.Proofs.YtofgnpehlheeiaaGreatDoor
