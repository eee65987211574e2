/- Addresses put into slots one behind another. -/
import Derived.Test.YtejjobemafdlbaaSbk
import Derived.Deep.CutRange
import Derived.Deep.RegionHeld3
namespace Go.Proofs.Ytejjobemafdlbaa
open Go.RowKit
set_option linter.unusedVariables false
set_option linter.unusedSimpArgs false

theorem go_bel1 (w : World) (o : Obj) : Below w.heap.size w (w.alloc o) := (Below.refl _ w).alloc (Nat.le_refl _) o
theorem go_bel2 (w : World) (o o' : Obj) : Below w.heap.size w ((w.alloc o).alloc o') := (go_bel1 w o).alloc (by simp) o'
theorem hsz1 {m : Nat} {w : World} (h : m ≤ w.heap.size) (o : Obj) : m ≤ (w.alloc o).heap.size := by simp; omega
theorem hsz2 {m : Nat} {w : World} (h : m ≤ w.heap.size) (o o' : Obj) : m ≤ ((w.alloc o).alloc o').heap.size := by simp; omega
theorem blw1 {m : Nat} {w : World} (h : m ≤ w.heap.size) (o : Obj) : Below m w (w.drew.alloc o) := ((below_drew w).mono h).alloc h o
theorem blw2 {m : Nat} {w : World} (h : m ≤ w.heap.size) (o o' : Obj) : Below m w ((w.drew.alloc o).alloc o') := (blw1 h o).alloc (by have : w.drew.heap.size = w.heap.size := rfl; simp [this]; omega) o'
theorem blw3 {m : Nat} {w w4 : World} (h : Below m w w4) (hs : m ≤ w4.heap.size) (o : Obj) : Below m w (w4.alloc o) := h.alloc hs o
theorem own_get {w : World} {base : Nat} {v : Value} {l : List Int} {n : Nat} (h : w.ownsRow base 3 1 v n (ints l)) (hn : l.length = n) (j : Nat) (hj : j < n) : ∃ g cap, v = .slice (some ⟨g, 0, none⟩) n cap ∧ base ≤ g ∧ w.cell? ⟨g, j, none⟩ = some (.int .i64 (l.getD j 0)) :=
  RowS.get (.inr ⟨by omega, h⟩) hn j hj
/-- the handles of the first j slots -/
def hl (j : Nat) : List Int := (List.range j).map fun i : Nat => 256 + (i : Int)
theorem hl_succ (j : Nat) : hl (j + 1) = hl j ++ [256 + (j : Int)] := by simp [hl, List.range_succ]
theorem hl_len (j : Nat) : (hl j).length = j := by simp [hl]
theorem hl_get {j k : Nat} (h : k < j) : (hl j).getD k 0 = 256 + (k : Int) := by simp [hl, h]
/-- these stand in the first slots -/
def acc (W : List Int) (i : Nat) : Int := W.getD i 0
def AllA (W : List Int) : Prop := ∀ x ∈ W, isA x = true
theorem acc_nil : (fun _ => 0) = acc [] := by funext i; simp [acc]
theorem AllA.get {W : List Int} (h : AllA W) {i : Nat} (hi : i < W.length) : 1 ≤ acc W i ∧ acc W i ≤ 524288 := by
  have : acc W i = W[i] := by simp [acc, hi]
  rw [this]
  exact isA_iff.1 (h _ (List.getElem_mem _))
theorem acc_low {W : List Int} (h : AllA W) {n : Nat} (hl : W.length < n) : lowF n (acc W) = W.length :=
  fst_is hl (by simp [acc]) (fun j hj => by have := h.get hj; simp; omega)
theorem acc_full {W : List Int} (h : AllA W) {n : Nat} (hl : W.length = n) : lowF n (acc W) = n :=
  fst_none (fun j hj => by have := h.get (i := j) (by omega); simp; omega)
theorem acc_snoc (W : List Int) (x : Int) : upd (acc W) W.length x = acc (W ++ [x]) := by
  funext i
  unfold upd acc
  rcases Nat.lt_trichotomy i W.length with e | e | e
  · rw [if_neg (by omega)]; simp [List.getElem?_append_left e]
  · subst e; simp
  · rw [if_neg (by omega)]
    have h1 : W[i]? = none := List.getElem?_eq_none (by omega)
    have h2 : (W ++ [x])[i]? = none := List.getElem?_eq_none (by simp; omega)
    simp [h1, h2]
theorem acc_make {W : List Int} (h : AllA W) (hl : W.length ≤ 256) (x : Int) :
    (mkE 256 (acc W) x ≠ 0 ∧ mkA 256 (acc W) x = acc W) ∨ (mkE 256 (acc W) x = 0 ∧ mkH 256 (acc W) (fun _ => 1) x = 256 + (W.length : Int) ∧ mkA 256 (acc W) x = acc (W ++ [x]) ∧ AllA (W ++ [x]) ∧ W.length + 1 ≤ 256) := by
  cases ha : isA x with
  | false =>
    obtain ⟨e1, e2, e3⟩ := mk_no (n := 256) (A := acc W) (T := fun _ => 1) ha
    exact .inl ⟨by rw [e1]; decide, e3⟩
  | true =>
    by_cases q : W.length < 256
    · obtain ⟨e1, e2, e3⟩ := mk_yes (T := fun _ => 1) ha (acc_low h q) q
      refine .inr ⟨e1, by rw [e2]; omega, by rw [e3, acc_snoc], fun y hy => ?_, by omega⟩
      rcases List.mem_append.1 hy with r | r
      · exact h y r
      · simp at r; rw [r]; exact ha
    · obtain ⟨e1, e2, e3⟩ := mk_full (n := 256) (A := acc W) (T := fun _ => 1) ha (by rw [acc_full h (by omega)]; omega)
      exact .inl ⟨by rw [e1]; decide, e3⟩
theorem acc_okt {W : List Int} (h : AllA W) : Okt 256 1 (acc W) (fun _ => 1) := by
  intro i hi
  show 0 ≤ acc W i ∧ acc W i ≤ 524288 ∧ (1 : Int) ≤ 1 ∧ (1 : Int) ≤ 1
  by_cases q : i < W.length
  · have := h.get q; omega
  · have : acc W i = 0 := by simp [acc, List.getElem?_eq_none (show W.length ≤ i by omega)]
    omega
/-- what a handle tells behind Map -/
theorem acc_get {W : List Int} (h : AllA W) (hl : W.length ≤ 256) (F : Int → Int) {k : Nat} (hk : k < W.length) :
    geE 256 (mpA F (acc W)) (fun _ => 1) (256 + k) = 0 ∧ geV 256 (mpA F (acc W)) (fun _ => 1) (256 + k) = trn F (acc W k) := by
  have q := h.get hk
  have ok := (acc_okt h).map F
  have h0 : mpA F (acc W) k ≠ 0 := fun e => by have : acc W k = 0 := by
                                                 unfold mpA at e; split at e
                                                 · assumption
                                                 · unfold trn at e; split at e
                                                   · rename_i r; have := isA_iff.1 r; omega
                                                   · exact e
                                               omega
  have e := fd_hnd ok (Nat.le_refl _) (i := k) (by omega) h0
  have e2 : hnd (fun _ => 1) k = 256 + (k : Int) := by simp [hnd]
  rw [e2] at e
  refine ⟨by simp [geE, e]; omega, ?_⟩
  unfold geV
  rw [e, if_pos (by omega)]
  unfold mpA
  rw [if_neg (by omega)]
theorem allL_zero {A : Nat → Int} {m : Nat} (hz : ∀ i, m ≤ i → A i = 0) : ∀ n, m ≤ n → allL A n = allL A m
  | 0, h => by obtain rfl : m = 0 := by omega
               rfl
  | n + 1, h => by
    by_cases e : m = n + 1
    · subst e; rfl
    · have ih := allL_zero hz n (by omega)
      simp [allL, hz n (by omega), ih]
theorem acc_len {W : List Int} (h : AllA W) (hl : W.length ≤ 256) (F : Int → Int) : (allL (mpA F (acc W)) 256).length = W.length := by
  have hz : ∀ i, W.length ≤ i → mpA F (acc W) i = 0 := fun i hi => by
    have : acc W i = 0 := by simp [acc, List.getElem?_eq_none hi]
    simp [mpA, this]
  rw [allL_zero hz 256 hl]
  refine allL_full _ (fun i hi => ?_)
  have q := h.get hi
  unfold mpA
  rw [if_neg (by omega)]
  unfold trn
  split
  · rename_i r; have := isA_iff.1 r; omega
  · omega
theorem trn_by (n a : Int) : trn (fun x => byI x n) a = if byI a n < 1 ∨ 524288 < byI a n then a else byI a n := by
  unfold trn
  by_cases h : isA (byI a n) = true
  · have := isA_iff.1 h
    rw [if_pos h, if_neg (by omega)]
  · rw [if_neg h, if_pos]
    by_cases q : byI a n < 1
    · exact .inl q
    · right
      have : ¬ (1 ≤ byI a n ∧ byI a n ≤ 524288) := fun r => h (isA_iff.2 r)
      omega
end Go.Proofs.Ytejjobemafdlbaa
