/- Rows of blocks as plain functions: which blocks belong together, the parts of a row, what is marked, and what the calls of a pool answer. Nothing here speaks of a program. -/
import Derived.WalkKit
namespace Go.Proofs.YtbdoekffadmejaaGreatDoor.Bp
set_option linter.unusedVariables false

/-- How many places from i on, k at most, hold v. -/
def ext (f : Nat → Int) (v : Int) : Nat → Nat → Nat
  | 0, _ => 0
  | k + 1, i => if f i = v then ext f v k (i + 1) + 1 else 0
theorem ext_le (f : Nat → Int) (v : Int) : ∀ (k i : Nat), ext f v k i ≤ k := by
  intro k
  induction k with
  | zero => intro i; exact Nat.le_refl _
  | succ k ih => intro i; unfold ext; have := ih (i + 1); split <;> omega
theorem ext_all (f : Nat → Int) (v : Int) : ∀ (k i j : Nat), j < ext f v k i → f (i + j) = v := by
  intro k
  induction k with
  | zero => intro i j h; simp [ext] at h
  | succ k ih =>
    intro i j h
    unfold ext at h
    by_cases e : f i = v
    · rw [if_pos e] at h
      cases j with
      | zero => exact e
      | succ j => have := ih (i + 1) j (by omega); rw [show i + (j + 1) = i + 1 + j by omega]; exact this
    · rw [if_neg e] at h; omega
theorem ext_stop (f : Nat → Int) (v : Int) : ∀ (k i : Nat), ext f v k i < k → f (i + ext f v k i) ≠ v := by
  intro k
  induction k with
  | zero => intro i h; omega
  | succ k ih =>
    intro i h
    unfold ext at h ⊢
    by_cases e : f i = v
    · rw [if_pos e] at h ⊢
      have := ih (i + 1) (by omega)
      rw [show i + (ext f v k (i + 1) + 1) = i + 1 + ext f v k (i + 1) by omega]
      exact this
    · rw [if_neg e]; exact e
theorem ext_eq {f : Nat → Int} {v : Int} {k i n : Nat} (hn : n ≤ k) (ha : ∀ j, j < n → f (i + j) = v) (hs : n < k → f (i + n) ≠ v) : ext f v k i = n := by
  have h1 := ext_le f v k i
  rcases Nat.lt_trichotomy (ext f v k i) n with h | h | h
  · exact absurd (ha _ h) (ext_stop f v k i (by omega))
  · exact h
  · exact absurd (ext_all f v k i n h) (hs (by omega))

/-- How many blocks from i on belong together, of N. -/
def tog (f : Nat → Int) (N i : Nat) : Nat := ext f (f i) (N - i) i
theorem tog_le (f : Nat → Int) {N i : Nat} (h : i ≤ N) : i + tog f N i ≤ N := by have := ext_le f (f i) (N - i) i; unfold tog; omega
theorem tog_all (f : Nat → Int) {N i j : Nat} (h : i ≤ j) (h' : j < i + tog f N i) : f j = f i := by
  have := ext_all f (f i) (N - i) i (j - i) (by unfold tog at h'; omega)
  rwa [show i + (j - i) = j by omega] at this
theorem tog_stop (f : Nat → Int) {N i : Nat} (h : i + tog f N i < N) : f (i + tog f N i) ≠ f i := ext_stop f (f i) (N - i) i (by unfold tog at h; omega)
theorem tog_pos (f : Nat → Int) {N i : Nat} (h : i < N) : 1 ≤ tog f N i := by
  unfold tog
  obtain ⟨k, hk⟩ : ∃ k, N - i = k + 1 := ⟨N - i - 1, by omega⟩
  rw [hk]
  simp [ext]
theorem tog_eq {f : Nat → Int} {N i n : Nat} (hn : i + n ≤ N) (ha : ∀ j, i ≤ j → j < i + n → f j = f i) (hs : i + n < N → f (i + n) ≠ f i) : tog f N i = n :=
  ext_eq (by omega) (fun j hj => ha _ (by omega) (by omega)) (fun h => hs (by omega))

/-- The parts of a row, from i on, k at most. -/
def segs (f : Nat → Int) (N : Nat) : Nat → Nat → List (Nat × Nat)
  | 0, _ => []
  | k + 1, i => if i < N then (i, tog f N i) :: segs f N k (i + tog f N i) else []
def kind (f : Nat → Int) (runs : Bool) (s : Nat × Nat) : Bool := decide (f s.1 = -1) == runs
/-- The runs, or the groups. -/
def parts (f : Nat → Int) (N : Nat) (runs : Bool) : List (Nat × Nat) := (segs f N N 0).filter (kind f runs)
theorem segs_end {f : Nat → Int} {N k i : Nat} (h : ¬ i < N) : segs f N k i = [] := by cases k with
  | zero => rfl
  | succ k => simp [segs, h]
theorem segs_cons {f : Nat → Int} {N k i : Nat} (h : i < N) (hk : N - i ≤ k) : segs f N k i = (i, tog f N i) :: segs f N (k - 1) (i + tog f N i) := by
  obtain ⟨m, rfl⟩ : ∃ m, k = m + 1 := ⟨k - 1, by omega⟩
  simp [segs, h]
theorem segs_mem {f : Nat → Int} {N : Nat} : ∀ (k i : Nat) (s : Nat × Nat), s ∈ segs f N k i → i ≤ s.1 ∧ s.1 < N ∧ s.2 = tog f N s.1 := by
  intro k
  induction k with
  | zero => intro i s h; simp [segs] at h
  | succ k ih =>
    intro i s h
    unfold segs at h
    split at h
    · rcases List.mem_cons.1 h with rfl | h
      · exact ⟨Nat.le_refl _, by assumption, rfl⟩
      · have := ih _ _ h
        exact ⟨by omega, this.2⟩
    · cases h
theorem parts_mem {f : Nat → Int} {N : Nat} {r : Bool} {s : Nat × Nat} (h : s ∈ parts f N r) : s.1 < N ∧ s.2 = tog f N s.1 ∧ kind f r s = true := by
  obtain ⟨h1, h2⟩ := List.mem_filter.1 h
  have := segs_mem _ _ _ h1
  exact ⟨this.2.1, this.2.2, h2⟩
theorem run_mem {f : Nat → Int} {N : Nat} {s : Nat × Nat} (h : s ∈ parts f N true) : s.1 + s.2 ≤ N ∧ 1 ≤ s.2 ∧ ∀ j, s.1 ≤ j → j < s.1 + s.2 → f j = -1 := by
  obtain ⟨h1, h2, h3⟩ := parts_mem h
  have e : f s.1 = -1 := by simpa [kind] using h3
  have l := tog_le f (i := s.1) (N := N) (by omega)
  have p := tog_pos f (i := s.1) (N := N) h1
  exact ⟨by omega, by omega, fun j a b => by rw [← e]; exact tog_all f (N := N) a (by omega)⟩
theorem segs_len {f : Nat → Int} {N : Nat} : ∀ (k i : Nat), (segs f N k i).length ≤ N - i := by
  intro k
  induction k with
  | zero => intro i; simp [segs]
  | succ k ih =>
    intro i
    unfold segs
    split
    · rename_i h
      have := ih (i + tog f N i)
      have := tog_pos f h
      simp
      omega
    · simp
theorem parts_len (f : Nat → Int) (N : Nat) (r : Bool) : (parts f N r).length ≤ N := by
  have := segs_len (f := f) (N := N) N 0
  exact Nat.le_trans (List.length_filter_le _ _) (by omega)

/-! ### What is marked -/
def mark (f : Nat → Int) (a n : Nat) (v : Int) : Nat → Int := fun j => if a ≤ j ∧ j < a + n then v else f j
theorem mark_in {f : Nat → Int} {a n j : Nat} {v : Int} (h : a ≤ j) (h' : j < a + n) : mark f a n v j = v := by simp [mark, h, h']
theorem mark_out {f : Nat → Int} {a n j : Nat} {v : Int} (h : ¬ (a ≤ j ∧ j < a + n)) : mark f a n v j = f j := by simp [mark, h]

/-- Each block's group stands in a row, up from its first. -/
def Good (f : Nat → Int) (N : Nat) : Prop := ∀ j, j < N → f j = -1 ∨ (0 ≤ f j ∧ f j ≤ j ∧ ∀ i : Nat, f j ≤ i → i ≤ j → f i = f j)
theorem Good.bounds {f : Nat → Int} {N j : Nat} (h : Good f N) (hj : j < N) : -1 ≤ f j ∧ f j ≤ j := by rcases h j hj with e | e <;> omega
theorem Good.first {f : Nat → Int} {N j : Nat} (h : Good f N) (hj : j < N) (hn : f j ≠ -1) : ∃ g : Nat, f j = g ∧ g ≤ j ∧ f g = g ∧ j < g + tog f N g := by
  rcases h j hj with e | ⟨h1, h2, h3⟩
  · exact absurd e hn
  · refine ⟨(f j).toNat, by omega, by omega, ?_, ?_⟩
    · rw [h3 _ (by omega) (by omega)]; omega
    · rcases Nat.lt_or_ge j ((f j).toNat + tog f N (f j).toNat) with h | h
      · exact h
      · exfalso
        refine tog_stop f (i := (f j).toNat) (N := N) (by omega) ?_
        exact (h3 _ (by omega) h).trans (h3 _ (by omega) (by omega)).symm
theorem good_new (N : Nat) : Good (fun _ => -1) N := fun j _ => .inl rfl
theorem good_alloc {f : Nat → Int} {N a n : Nat} (h : Good f N) (hf : ∀ j, a ≤ j → j < a + n → f j = -1) : Good (mark f a n a) N := by
  intro j hj
  by_cases hin : a ≤ j ∧ j < a + n
  · right
    rw [mark_in hin.1 hin.2]
    exact ⟨by omega, by omega, fun i h1 h2 => mark_in (by omega) (by omega)⟩
  · rw [mark_out hin]
    rcases h j hj with e | ⟨h1, h2, h3⟩
    · exact .inl e
    · refine .inr ⟨h1, h2, fun i g1 g2 => ?_⟩
      have e := h3 i g1 g2
      rw [mark_out, e]
      intro hi
      have := hf i hi.1 hi.2
      omega
theorem good_free {f : Nat → Int} {N a : Nat} (h : Good f N) (ha : a < N) (hf : f a = a) : Good (mark f a (tog f N a) (-1)) N := by
  intro j hj
  by_cases hin : a ≤ j ∧ j < a + tog f N a
  · exact .inl (mark_in hin.1 hin.2)
  · rw [mark_out hin]
    rcases h j hj with e | ⟨h1, h2, h3⟩
    · exact .inl e
    · refine .inr ⟨h1, h2, fun i g1 g2 => ?_⟩
      have e := h3 i g1 g2
      rw [mark_out, e]
      intro hi
      have e2 := tog_all f hi.1 hi.2
      obtain ⟨g, k1, k2, k3, k4⟩ := h.first hj (by omega)
      have : g = a := by omega
      subst this
      omega

/-! ### What the calls answer -/
def fit (f : Nat → Int) (N : Nat) (n : Int) : Option (Nat × Nat) := (parts f N true).find? (fun s => decide (n ≤ s.2))
def allocE (f : Nat → Int) (N : Nat) (n : Int) : Int := if n < 1 then 7 else match fit f N n with | none => 5 | some _ => 0
def allocA (f : Nat → Int) (N : Nat) (n : Int) : Int := if n < 1 then 0 else match fit f N n with | none => 0 | some s => s.1
def allocF (f : Nat → Int) (N : Nat) (n : Int) : Nat → Int := if n < 1 then f else match fit f N n with | none => f | some s => mark f s.1 n.toNat s.1
def groupE (f : Nat → Int) (N : Nat) (i : Int) : Int := if 0 ≤ i ∧ i < N then (if f i.toNat = -1 then 8 else 0) else 4
def groupA (f : Nat → Int) (N : Nat) (i : Int) : Int := if groupE f N i = 0 then f i.toNat else 0
def groupN (f : Nat → Int) (N : Nat) (i : Int) : Int := if groupE f N i = 0 then tog f N (f i.toNat).toNat else 0
def freeE (f : Nat → Int) (N : Nat) (i : Int) : Int := if 0 ≤ i ∧ i < N ∧ f i.toNat = i then 0 else 8
def freeF (f : Nat → Int) (N : Nat) (i : Int) : Nat → Int := if freeE f N i = 0 then mark f i.toNat (tog f N i.toNat) (-1) else f
def sumR (l : List (Nat × Nat)) : Nat := (l.map Prod.snd).sum
def maxR (l : List (Nat × Nat)) : Nat := l.foldl (fun m s => max m s.2) 0
def left (f : Nat → Int) (N : Nat) : Nat := sumR (parts f N true)
def longest (f : Nat → Int) (N : Nat) : Nat := maxR (parts f N true)
theorem fit_some {f : Nat → Int} {N : Nat} {n : Int} {s : Nat × Nat} (h : fit f N n = some s) : s ∈ parts f N true ∧ n ≤ s.2 := by
  have h1 := List.find?_some h
  exact ⟨List.mem_of_find?_eq_some h, by simpa using h1⟩
theorem allocF_good {f : Nat → Int} {N : Nat} {n : Int} (h : Good f N) : Good (allocF f N n) N := by
  unfold allocF
  split
  · exact h
  · split
    · exact h
    · rename_i hn _ s e
      obtain ⟨m, l⟩ := fit_some e
      have := run_mem m
      exact good_alloc h (fun j a b => this.2.2 j a (by omega))
theorem freeF_good {f : Nat → Int} {N : Nat} {i : Int} (h : Good f N) : Good (freeF f N i) N := by
  unfold freeF
  split
  · rename_i e
    unfold freeE at e
    split at e
    · rename_i c
      exact good_free h (by omega) (by omega)
    · simp at e
  · exact h
end Go.Proofs.YtbdoekffadmejaaGreatDoor.Bp
