/- What the statements over an arena of 1 to 100 words share. -/
import Derived.Test.YtldcjbdhcciieaaFrame
namespace Go.Proofs.Ytldcjbdhcciieaa
open Go.RowKit
set_option linter.unusedVariables false
/-- The number of words: 1 to 100. -/
theorem size_of (a : Int) (h : 0 ≤ a ∧ a ≤ 255) : ∃ r : Nat, a.tmod 100 = r ∧ r < 100 := by
  have e := Int.tmod_eq_emod_of_nonneg (b := 100) h.1
  exact ⟨(a % 100).toNat, by omega, by omega⟩
theorem filled_next (r : Nat) (w : World) (h : r < 100) :
    Calls Try.prog 13 #[.int .i64 ((r : Int) + 1)] w fun e w' => e = .returned (.pointer (some ⟨w.heap.size + 1, 0, none⟩)) ∧ Has 52 w' (w.heap.size + 1) w.heap.size (upTo (r + 1)) ∧ Below w.heap.size w w' := by
  have := filled_any (r + 1) w (by omega) (by omega)
  rwa [show ((r + 1 : Nat) : Int) = (r : Int) + 1 by omega] at this

theorem read_written (n k : Nat) (i v : Int) (hk : k < n) : readW (writeL (upTo n) i v) k = if (k : Int) = i then v else (k : Int) + 1 := by
  have e : (writeL (upTo n) i v).length = n := by unfold writeL; split <;> simp [upTo_length]
  unfold readW
  rw [if_pos (by rw [e]; omega)]
  simp only [Int.toNat_natCast]
  unfold writeL
  rw [upTo_length]
  by_cases hi : (k : Int) = i
  · subst hi
    rw [if_pos (by omega), if_pos rfl]
    simp [upTo_length, hk]
  · rw [if_neg hi]
    split
    · rename_i h
      have : i.toNat ≠ k := by omega
      rw [List.getD_eq_getElem?_getD, List.getElem?_set_ne this, ← List.getD_eq_getElem?_getD, upTo_get n k hk]
    · exact upTo_get n k hk

theorem getD_splice (xs ys : List Int) (o i : Nat) (h : o + ys.length ≤ xs.length) (hi : i < xs.length) : (splice xs o ys).getD i 0 = if o ≤ i ∧ i < o + ys.length then ys.getD (i - o) 0 else xs.getD i 0 := by
  have ho : (xs.take o).length = o := by simp; omega
  simp only [List.getD_eq_getElem?_getD]
  unfold splice
  by_cases h1 : i < o
  · rw [if_neg (by omega), List.getElem?_append_left (by omega), List.getElem?_take_of_lt h1]
  · rw [List.getElem?_append_right (by omega), ho]
    by_cases h2 : i < o + ys.length
    · rw [if_pos (by omega), List.getElem?_append_left (by omega)]
    · rw [if_neg (by omega), List.getElem?_append_right (by omega), List.getElem?_drop]
      congr 2
      omega
theorem read_spliced (n o k : Nat) (ys : List Int) (h : o + ys.length ≤ n) (hk : k < n) : readW (splice (upTo n) o ys) k = if o ≤ k ∧ k < o + ys.length then ys.getD (k - o) 0 else (k : Int) + 1 := by
  have e : (splice (upTo n) o ys).length = n := by rw [length_splice _ _ _ (by rw [upTo_length]; exact h), upTo_length]
  unfold readW
  rw [if_pos (by rw [e]; omega)]
  simp only [Int.toNat_natCast]
  rw [getD_splice _ _ _ _ (by rw [upTo_length]; exact h) (by rw [upTo_length]; exact hk), upTo_get n k hk]
theorem read_upTo (n k : Nat) (hk : k < n) : readW (upTo n) k = (k : Int) + 1 := by
  unfold readW
  rw [if_pos (by rw [upTo_length]; omega)]
  simp only [Int.toNat_natCast]
  exact upTo_get n k hk
theorem read_cleared (n f c k : Nat) (h : f + c ≤ n) (hk : k < n) : readW (splice (upTo n) f (List.replicate c 0)) k = if f ≤ k ∧ k < f + c then 0 else (k : Int) + 1 := by
  rw [read_spliced n f k _ (by simpa using h) hk]
  simp only [List.length_replicate]
  split
  · rename_i hh
    simp only [List.getD_eq_getElem?_getD, List.getElem?_replicate]
    split <;> rfl
  · rfl
theorem read_moved (n t f c k : Nat) (ht : t + c ≤ n) (hf : f + c ≤ n) (hk : k < n) : readW (splice (upTo n) t (((upTo n).drop f).take c)) k = if t ≤ k ∧ k < t + c then ((f : Int) + k - t) + 1 else (k : Int) + 1 := by
  have e : (((upTo n).drop f).take c).length = c := cut_len _ _ _ (by rw [upTo_length]; exact hf)
  rw [read_spliced n t k _ (by rw [e]; exact ht) hk, e]
  split
  · rename_i hh
    rw [List.getD_eq_getElem?_getD, List.getElem?_take_of_lt (by omega), List.getElem?_drop, ← List.getD_eq_getElem?_getD, upTo_get n _ (by omega)]
    omega
  · rfl
theorem clear_cases (xs : List Int) (f k : Int) : (clearE xs.length f k ≠ 0 ∧ clearL xs f k = xs) ∨ ∃ a c : Nat, f = a ∧ k = c ∧ a + c ≤ xs.length ∧ clearE xs.length f k = 0 ∧ clearL xs f k = splice xs a (List.replicate c 0) := by
  by_cases h : clearE xs.length f k = 0
  · right
    have e : clearL xs f k = splice xs f.toNat (List.replicate k.toNat 0) := by unfold clearL; rw [if_pos h]
    have h0 : ¬ k < 0 := by intro hh; simp [clearE, hh] at h
    have h1 : within xs.length f k = true := by
      cases hw : within xs.length f k
      · simp [clearE, h0, hw] at h
      · rfl
    obtain ⟨a, c, rfl, rfl, hac⟩ := within_nat (by omega) h1
    exact ⟨a, c, rfl, rfl, hac, h, by simpa using e⟩
  · left
    exact ⟨h, by unfold clearL; rw [if_neg h]⟩
theorem move_cases (xs : List Int) (t f k : Int) : (moveE xs.length t f k ≠ 0 ∧ moveL xs t f k = xs) ∨ ∃ b a c : Nat, t = b ∧ f = a ∧ k = c ∧ b + c ≤ xs.length ∧ a + c ≤ xs.length ∧ moveE xs.length t f k = 0 ∧ moveL xs t f k = splice xs b ((xs.drop a).take c) := by
  by_cases h : moveE xs.length t f k = 0
  · right
    have e : moveL xs t f k = splice xs t.toNat ((xs.drop f.toNat).take k.toNat) := by unfold moveL; rw [if_pos h]
    have h0 : ¬ k < 0 := by intro hh; simp [moveE, hh] at h
    have h1 : within xs.length t k = true ∧ within xs.length f k = true := by
      by_cases hw : within xs.length t k = true ∧ within xs.length f k = true
      · exact hw
      · unfold moveE at h; rw [if_neg h0, if_neg hw] at h; cases h
    obtain ⟨b, c, rfl, rfl, hbc⟩ := within_nat (by omega) h1.1
    obtain ⟨a, c', rfl, hc, hac⟩ := within_nat (by omega) h1.2
    obtain rfl : c = c' := by omega
    exact ⟨b, a, c, rfl, rfl, rfl, hbc, hac, h, by simpa using e⟩
  · left
    exact ⟨h, by unfold moveL; rw [if_neg h]⟩
end Go.Proofs.Ytldcjbdhcciieaa
