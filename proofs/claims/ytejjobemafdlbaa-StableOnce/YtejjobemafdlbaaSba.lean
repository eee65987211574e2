/- Slots: what each holds (0: nothing) and its turn; what the calls answer of them. Nothing here speaks of a program. -/
import Derived.WalkKit
namespace Go.Proofs.Ytejjobemafdlbaa
set_option linter.unusedVariables false

def upd {α : Type} (f : Nat → α) (i : Nat) (x : α) (j : Nat) : α := if j = i then x else f j
theorem upd_at {α : Type} (f : Nat → α) (i : Nat) (x : α) : upd f i x i = x := by simp [upd]
theorem upd_far {α : Type} (f : Nat → α) (i : Nat) (x : α) {j : Nat} (h : j ≠ i) : upd f i x j = f j := by simp [upd, h]

/-- the least place below n of which p holds; n, if there is none -/
def fst (p : Nat → Bool) : Nat → Nat
  | 0 => 0
  | n + 1 => if fst p n < n then fst p n else if p n then n else n + 1
theorem fst_le (p : Nat → Bool) : ∀ n, fst p n ≤ n
  | 0 => Nat.le_refl _
  | n + 1 => by
    have := fst_le p n
    unfold fst
    split
    · omega
    · split <;> omega
theorem fst_before (p : Nat → Bool) : ∀ n k, k < fst p n → p k = false
  | 0, k, h => absurd h (Nat.not_lt_zero _)
  | n + 1, k, h => by
    have ih := fst_before p n
    have le := fst_le p n
    unfold fst at h
    split at h
    · exact ih k h
    · rename_i hge
      split at h
      · exact ih k (by omega)
      · rename_i hp
        by_cases e : k = n
        · subst e; simpa using hp
        · exact ih k (by omega)
theorem fst_holds (p : Nat → Bool) : ∀ n, fst p n < n → p (fst p n) = true
  | 0, h => absurd h (Nat.not_lt_zero _)
  | n + 1, h => by
    have ih := fst_holds p n
    have e : fst p (n + 1) = if fst p n < n then fst p n else if p n then n else n + 1 := rfl
    rw [e] at h ⊢
    split
    · rename_i h1; exact ih h1
    · rename_i h1
      rw [if_neg h1] at h
      split
      · rename_i h2; exact h2
      · rename_i h2; rw [if_neg h2] at h; exact absurd h (Nat.lt_irrefl _)
theorem fst_is {p : Nat → Bool} {n i : Nat} (hi : i < n) (hp : p i = true) (hb : ∀ j, j < i → p j = false) : fst p n = i := by
  have le := fst_le p n
  rcases Nat.lt_trichotomy (fst p n) i with h | h | h
  · have := hb _ h
    rw [fst_holds p n (by omega)] at this
    cases this
  · exact h
  · have := fst_before p n i h
    rw [hp] at this
    cases this
theorem fst_none {p : Nat → Bool} {n : Nat} (hb : ∀ j, j < n → p j = false) : fst p n = n := by
  have le := fst_le p n
  by_cases h : fst p n < n
  · have := hb _ h
    rw [fst_holds p n h] at this
    cases this
  · omega
theorem fst_congr {p q : Nat → Bool} {n : Nat} (h : ∀ j, j < n → p j = q j) : fst p n = fst q n := by
  have le := fst_le q n
  by_cases hq : fst q n < n
  · exact fst_is hq ((h _ hq).trans (fst_holds q n hq)) (fun j hj => (h j (by omega)).trans (fst_before q n j hj))
  · rw [show fst q n = n by omega]
    exact fst_none (fun j hj => (h j hj).trans (fst_before q n j (by omega)))

/-- an address -/
def isA (at' : Int) : Bool := decide (1 ≤ at' ∧ at' ≤ 524288)
/-- the lowest free slot -/
def lowF (n : Nat) (A : Nat → Int) : Nat := fst (fun i => A i == 0) n
/-- the handle of a slot -/
def hnd (T : Nat → Int) (i : Nat) : Int := T i * 256 + i
/-- Make: its error, its handle, what the slots hold behind it -/
def mkE (n : Nat) (A : Nat → Int) (at' : Int) : Int := if isA at' then (if lowF n A < n then 0 else 5) else 4
def mkH (n : Nat) (A T : Nat → Int) (at' : Int) : Int := if mkE n A at' = 0 then hnd T (lowF n A) else 0
def mkA (n : Nat) (A : Nat → Int) (at' : Int) : Nat → Int := if mkE n A at' = 0 then upd A (lowF n A) at' else A
/-- the slot of a handle -/
def fd (n : Nat) (A T : Nat → Int) (h : Int) : Nat := fst (fun i => !(A i == 0) && (hnd T i == h)) n
def geE (n : Nat) (A T : Nat → Int) (h : Int) : Int := if fd n A T h < n then 0 else 60
def geV (n : Nat) (A T : Nat → Int) (h : Int) : Int := if fd n A T h < n then A (fd n A T h) else 0
def frA (n : Nat) (A T : Nat → Int) (h : Int) : Nat → Int := if fd n A T h < n then upd A (fd n A T h) 0 else A
def frT (n : Nat) (A T : Nat → Int) (h : Int) : Nat → Int := if fd n A T h < n then upd T (fd n A T h) (T (fd n A T h) + 1) else T
/-- all addresses -/
def allL (A : Nat → Int) : Nat → List Int
  | 0 => []
  | n + 1 => allL A n ++ (if A n = 0 then [] else [A n])
theorem allL_le (A : Nat → Int) : ∀ n, (allL A n).length ≤ n
  | 0 => Nat.le_refl _
  | n + 1 => by have := allL_le A n; simp only [allL, List.length_append]; split <;> simp <;> omega
/-- what an address becomes -/
def trn (F : Int → Int) (a : Int) : Int := if isA (F a) then F a else a
def mpA (F : Int → Int) (A : Nat → Int) (i : Nat) : Int := if A i = 0 then 0 else trn F (A i)

/-- how slots may be: each turn is 1 to b -/
def Okt (n : Nat) (b : Int) (A T : Nat → Int) : Prop := ∀ i, i < n → 0 ≤ A i ∧ A i ≤ 524288 ∧ 1 ≤ T i ∧ T i ≤ b
theorem isA_iff {at' : Int} : isA at' = true ↔ 1 ≤ at' ∧ at' ≤ 524288 := by simp [isA]
theorem Okt.make {n : Nat} {b : Int} {A T : Nat → Int} (h : Okt n b A T) (at' : Int) : Okt n b (mkA n A at') T := by
  intro i hi
  have q := h i hi
  unfold mkA
  split
  · rename_i he
    unfold upd
    split
    · unfold mkE at he
      split at he
      · rename_i ha
        have := isA_iff.1 ha
        omega
      · omega
    · exact q
  · exact q
theorem Okt.free {n : Nat} {b : Int} {A T : Nat → Int} (h : Okt n b A T) (x : Int) : Okt n (b + 1) (frA n A T x) (frT n A T x) := by
  intro i hi
  have q := h i hi
  unfold frA frT
  split
  · unfold upd
    split
    · rename_i e; subst e; omega
    · omega
  · omega
theorem Okt.mono {n : Nat} {b c : Int} {A T : Nat → Int} (h : Okt n b A T) (hb : b ≤ c) : Okt n c A T := fun i hi => by have := h i hi; omega
theorem Okt.map {n : Nat} {b : Int} {A T : Nat → Int} (h : Okt n b A T) (F : Int → Int) : Okt n b (mpA F A) T := by
  intro i hi
  have q := h i hi
  unfold mpA
  split
  · omega
  · unfold trn
    split
    · rename_i ha; have := isA_iff.1 ha; omega
    · exact q
/-- where a handle's slot is, as the program finds it -/
theorem fd_out {n : Nat} {b : Int} {A T : Nat → Int} (h : Okt n b A T) (hn : n ≤ 256) {x : Int} (hx : x.tmod 256 < 0 ∨ (n : Int) ≤ x.tmod 256) : fd n A T x = n := by
  refine fst_none (fun j hj => ?_)
  have q := h j hj
  by_cases e : hnd T j = x
  · exfalso
    unfold hnd at e
    have h0 : 0 ≤ x := by omega
    rw [Int.tmod_eq_emod_of_nonneg h0] at hx
    omega
  · simp [e]
theorem fd_here {n : Nat} {b : Int} {A T : Nat → Int} (h : Okt n b A T) (hn : n ≤ 256) {x : Int} {i : Nat} (hi : i < n) (hx : x.tmod 256 = i) :
    fd n A T x = if A i ≠ 0 ∧ T i = x.tdiv 256 then i else n := by
  have q := h i hi
  have uniq : ∀ j, j < n → hnd T j = x → j = i ∧ T j = x.tdiv 256 := fun j hj e => by
    have qj := h j hj
    unfold hnd at e
    have h0 : 0 ≤ x := by omega
    rw [Int.tmod_eq_emod_of_nonneg h0] at hx
    rw [Int.tdiv_eq_ediv_of_nonneg h0]
    omega
  split
  · rename_i hc
    have e : hnd T i = x := by
      unfold hnd
      rw [hc.2, ← hx]
      have := Int.mul_tdiv_add_tmod x 256
      omega
    refine fst_is hi (by simp [e, hc.1]) (fun j hj => ?_)
    by_cases e2 : hnd T j = x
    · have := (uniq j (by omega) e2).1; omega
    · simp [e2]
  · rename_i hc
    refine fst_none (fun j hj => ?_)
    by_cases e2 : hnd T j = x
    · obtain ⟨rfl, u⟩ := uniq j hj e2
      have : A j = 0 := by
        by_cases e : A j = 0
        · exact e
        · exact absurd ⟨e, u⟩ hc
      simp [this]
    · simp [e2]
end Go.Proofs.Ytejjobemafdlbaa
