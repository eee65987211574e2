/- Each block is in one part. Nothing here speaks of a program. -/
import Derived.Test.YtaeehhonahhelaaJoins
namespace Go.Proofs.Ytaeehhonahhelaa
set_option linter.unusedVariables false

/-- How many of these parts have a block. -/
def cov (L : List (Nat × Nat)) (k : Nat) : Nat := L.countP (fun s => decide (s.1 ≤ k ∧ k < s.1 + s.2))
theorem cov_append (L M : List (Nat × Nat)) (k : Nat) : cov (L ++ M) k = cov L k + cov M k := by simp [cov]
theorem cov_one (s : Nat × Nat) (k : Nat) : cov [s] k = if s.1 ≤ k ∧ k < s.1 + s.2 then 1 else 0 := by
  unfold cov
  by_cases h : s.1 ≤ k ∧ k < s.1 + s.2 <;> simp [h]
theorem cov_cons (s : Nat × Nat) (L : List (Nat × Nat)) (k : Nat) : cov (s :: L) k = (if s.1 ≤ k ∧ k < s.1 + s.2 then 1 else 0) + cov L k := by
  rw [show s :: L = [s] ++ L from rfl, cov_append, cov_one]
theorem cov_le (L : List (Nat × Nat)) (k : Nat) : cov L k ≤ L.length := List.countP_le_length
theorem cov_segs {f : Nat → Int} {N : Nat} : ∀ (k i j : Nat), N - i ≤ k → j < N → cov (segs f N k i) j = if i ≤ j then 1 else 0 := by
  intro k
  induction k with
  | zero => intro i j h1 h2; simp [segs, cov]; omega
  | succ k ih =>
    intro i j h1 h2
    by_cases hi : i < N
    · have tp := tog_pos f hi
      have e := ih (i + tog f N i) j (by omega) h2
      rw [segs_cons hi h1, cov_cons, Nat.add_sub_cancel, e]
      simp only
      split <;> split <;> split <;> omega
    · rw [segs_end hi, if_neg (by omega)]
      simp [cov]
theorem cov_split (f : Nat → Int) (L : List (Nat × Nat)) (k : Nat) : cov (L.filter (kind f false)) k + cov (L.filter (kind f true)) k = cov L k := by
  induction L with
  | nil => simp [cov]
  | cons s L ih =>
    rw [List.filter_cons, List.filter_cons, cov_cons]
    by_cases h : f s.1 = -1
    · rw [if_neg (by simp [kind, h]), if_pos (by simp [kind, h]), cov_cons]
      omega
    · rw [if_pos (by simp [kind, h]), if_neg (by simp [kind, h]), cov_cons]
      omega
theorem cov_all (f : Nat → Int) {N k : Nat} (h : k < N) : cov (parts f N false ++ parts f N true) k = 1 := by
  rw [cov_append]
  unfold parts
  rw [cov_split, cov_segs N 0 k (by omega) h]
  simp
/-- The blocks met, as numbers. -/
def met (L : List (Nat × Nat)) : Nat → Int := fun k => cov L k
/-- .. and of one part more, up to a place. -/
def metTo (L : List (Nat × Nat)) (a j : Nat) : Nat → Int := fun k => met L k + (if a ≤ k ∧ k < j then 1 else 0)
theorem metTo_start (L : List (Nat × Nat)) (a : Nat) : ∀ k, met L k = metTo L a a k := by
  intro k
  unfold metTo
  rw [if_neg (by omega)]
  omega
theorem metTo_next (L : List (Nat × Nat)) (a j : Nat) (h : a ≤ j) : ∀ k, mark (metTo L a j) j 1 (metTo L a j j + 1) k = metTo L a (j + 1) k := by
  intro k
  by_cases e : k = j
  · subst e
    rw [mark_in (Nat.le_refl _) (by omega)]
    unfold metTo
    rw [if_neg (by omega), if_pos (by omega)]
    omega
  · rw [mark_out (by omega)]
    unfold metTo
    split <;> split <;> omega
theorem metTo_end (L : List (Nat × Nat)) (s : Nat × Nat) : ∀ k, metTo L s.1 (s.1 + s.2) k = met (L ++ [s]) k := by
  intro k
  unfold metTo met
  rw [cov_append, cov_one]
  split <;> simp
end Go.Proofs.Ytaeehhonahhelaa
