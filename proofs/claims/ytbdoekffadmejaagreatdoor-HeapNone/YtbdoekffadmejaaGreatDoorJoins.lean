/- The parts of a row are apart and all of it; groups freed one by one leave one run. Nothing here speaks of a program. -/
import Derived.Test.YtbdoekffadmejaaGreatDoorCount
namespace Go.Proofs.YtbdoekffadmejaaGreatDoor.Bp
set_option linter.unusedVariables false

theorem segs_left {f : Nat → Int} {N : Nat} : ∀ (k i : Nat) (s : Nat × Nat), s ∈ segs f N k i → s.1 = i ∨ (0 < s.1 ∧ f (s.1 - 1) ≠ f s.1) := by
  intro k
  induction k with
  | zero => intro i s h; simp [segs] at h
  | succ k ih =>
    intro i s h
    unfold segs at h
    split at h
    · rename_i hi
      rcases List.mem_cons.1 h with rfl | h
      · exact .inl rfl
      · have tp := tog_pos f hi
        have m := segs_mem _ _ _ h
        rcases ih _ _ h with e | e
        · right
          refine ⟨by omega, ?_⟩
          have e1 : f (s.1 - 1) = f i := tog_all f (N := N) (by omega) (by omega)
          have e2 := tog_stop f (N := N) (i := i) (by omega)
          rw [e1, e]
          exact fun q => e2 q.symm
        · exact .inr e
    · cases h
theorem segs_cover {f : Nat → Int} {N : Nat} : ∀ (k i : Nat), N - i ≤ k → ∀ j, i ≤ j → j < N → ∃ s ∈ segs f N k i, s.1 ≤ j ∧ j < s.1 + s.2 := by
  intro k
  induction k with
  | zero => intro i h j h1 h2; omega
  | succ k ih =>
    intro i h j h1 h2
    have hi : i < N := by omega
    have tp := tog_pos f hi
    rw [segs_cons hi h]
    by_cases hj : j < i + tog f N i
    · exact ⟨(i, tog f N i), by simp, h1, hj⟩
    · obtain ⟨s, hs, h3⟩ := ih (i + tog f N i) (by omega) j (by omega) h2
      exact ⟨s, by simp [hs], h3⟩
theorem segs_apart {f : Nat → Int} {N : Nat} : ∀ (k i : Nat), List.Pairwise (fun s t : Nat × Nat => s.1 + s.2 ≤ t.1) (segs f N k i) := by
  intro k
  induction k with
  | zero => intro i; simp [segs]
  | succ k ih =>
    intro i
    unfold segs
    split
    · refine List.Pairwise.cons (fun t ht => ?_) (ih _)
      exact (segs_mem _ _ _ ht).1
    · exact List.Pairwise.nil
theorem parts_apart (f : Nat → Int) (N : Nat) (r : Bool) : List.Pairwise (fun s t : Nat × Nat => s.1 + s.2 ≤ t.1) (parts f N r) := (segs_apart N 0).filter _
theorem group_first {f : Nat → Int} {N : Nat} (G : Good f N) {s : Nat × Nat} (h : s ∈ parts f N false) : f s.1 = s.1 := by
  obtain ⟨h1, h2⟩ := List.mem_filter.1 h
  have m := segs_mem _ _ _ h1
  have hn : f s.1 ≠ -1 := by simpa [kind] using h2
  rcases G s.1 m.2.1 with e | ⟨a, b, c⟩
  · exact absurd e hn
  · rcases segs_left _ _ _ h1 with e | ⟨e1, e2⟩
    · omega
    · by_cases q : f s.1 = s.1
      · exact q
      · exact absurd (c (s.1 - 1) (by omega) (by omega)) e2

/-- The row without these groups. -/
def cut (f : Nat → Int) (L : List (Nat × Nat)) : Nat → Int := fun j => if L.any (fun s => decide (s.1 ≤ j ∧ j < s.1 + s.2)) = true then -1 else f j
theorem cut_nil (f : Nat → Int) : cut f [] = f := by funext j; simp [cut]
theorem cut_in {f : Nat → Int} {L : List (Nat × Nat)} {j : Nat} {s : Nat × Nat} (hs : s ∈ L) (h : s.1 ≤ j) (h' : j < s.1 + s.2) : cut f L j = -1 := by
  unfold cut
  rw [if_pos]
  exact List.any_eq_true.2 ⟨s, hs, by simp [h, h']⟩
theorem cut_out {f : Nat → Int} {L : List (Nat × Nat)} {j : Nat} (h : ∀ s ∈ L, ¬ (s.1 ≤ j ∧ j < s.1 + s.2)) : cut f L j = f j := by
  unfold cut
  rw [if_neg]
  intro e
  obtain ⟨s, hs, q⟩ := List.any_eq_true.1 e
  exact h s hs (by simpa using q)
theorem cut_step {f : Nat → Int} {N : Nat} (G : Good f N) {pre post : List (Nat × Nat)} {s : Nat × Nat} (h : pre ++ s :: post = parts f N false) :
    freeE (cut f pre) N s.1 = 0 ∧ freeF (cut f pre) N s.1 = cut f (pre ++ [s]) := by
  have ms : s ∈ parts f N false := by rw [← h]; simp
  have P := parts_apart f N false
  rw [← h, List.pairwise_append] at P
  have ap : ∀ t ∈ pre, t.1 + t.2 ≤ s.1 := fun t ht => P.2.2 t ht s (by simp)
  have fs := group_first G ms
  obtain ⟨m1, m2, m3⟩ := parts_mem ms
  have tl := tog_le f (N := N) (i := s.1) (by omega)
  have tp := tog_pos f m1
  have eq1 : ∀ j, s.1 ≤ j → cut f pre j = f j := fun j hj => cut_out (fun t ht q => by have := ap t ht; omega)
  have e0 : cut f pre s.1 = s.1 := by rw [eq1 _ (Nat.le_refl _)]; exact fs
  have t : tog (cut f pre) N s.1 = s.2 := by
    refine tog_eq (by omega) (fun j a b => ?_) (fun q => ?_)
    · rw [eq1 j a, eq1 _ (Nat.le_refl _)]
      exact tog_all f (N := N) a (by omega)
    · rw [eq1 _ (by omega), eq1 _ (Nat.le_refl _)]
      have := tog_stop f (N := N) (i := s.1) (by omega)
      rwa [← m2] at this
  have e1 : freeE (cut f pre) N s.1 = 0 := by
    unfold freeE
    rw [if_pos]
    rw [Int.toNat_natCast]
    exact ⟨by omega, by omega, e0⟩
  refine ⟨e1, ?_⟩
  unfold freeF
  rw [if_pos e1, Int.toNat_natCast, t]
  funext j
  by_cases q : s.1 ≤ j ∧ j < s.1 + s.2
  · rw [mark_in q.1 q.2, cut_in (s := s) (by simp) q.1 q.2]
  · rw [mark_out q]
    have e : (pre ++ [s]).any (fun s => decide (s.1 ≤ j ∧ j < s.1 + s.2)) = pre.any (fun s => decide (s.1 ≤ j ∧ j < s.1 + s.2)) := by
      rw [List.any_append]
      simp only [List.any_cons, List.any_nil, decide_eq_false q, Bool.or_false]
    unfold cut
    rw [e]
theorem cut_good {f : Nat → Int} {N : Nat} (G : Good f N) (pre post : List (Nat × Nat)) (h : pre ++ post = parts f N false) : Good (cut f pre) N := by
  have : ∀ (n : Nat) (pre post : List (Nat × Nat)), pre.length = n → pre ++ post = parts f N false → Good (cut f pre) N := by
    intro n
    induction n with
    | zero => intro pre post hl h; rw [List.eq_nil_of_length_eq_zero hl, cut_nil]; exact G
    | succ n ih =>
      intro pre post hl h
      rcases List.eq_nil_or_concat pre with e | ⟨q, s, e⟩
      · rw [e] at hl; simp at hl
      · subst e
        have h' : q ++ s :: post = parts f N false := by simpa using h
        have := freeF_good (i := (s.1 : Int)) (ih q (s :: post) (by simpa using hl) h')
        rw [(cut_step G h').2] at this
        simpa using this
  exact this _ pre post rfl h
theorem cut_all {f : Nat → Int} {N : Nat} : ∀ j, j < N → cut f (parts f N false) j = -1 := by
  intro j hj
  by_cases e : f j = -1
  · unfold cut
    split
    · rfl
    · exact e
  · obtain ⟨s, hs, h1, h2⟩ := segs_cover (f := f) (N := N) N 0 (by omega) j (Nat.zero_le _) hj
    have m := segs_mem _ _ _ hs
    have e2 : f j = f s.1 := tog_all f (N := N) h1 (by omega)
    refine cut_in (s := s) (List.mem_filter.2 ⟨hs, ?_⟩) h1 h2
    have : ¬ f s.1 = -1 := by rw [← e2]; exact e
    simp [kind, this]

/-! ### one run -/
def bare : Nat → Int := fun _ => -1
theorem parts_bare {N : Nat} (h : 1 ≤ N) : parts bare N true = [(0, N)] := by
  have t : tog bare N 0 = N := tog_eq (by omega) (fun _ _ _ => rfl) (fun q => by omega)
  unfold parts
  rw [segs_cons (by omega) (by omega), t, segs_end (by omega)]
  simp [kind, bare]
theorem alloc_bare {N : Nat} (h : 1 ≤ N) : allocA bare N N = 0 ∧ allocE bare N N = 0 ∧ left (allocF bare N N) N = 0 := by
  have e : fit bare N N = some (0, N) := by unfold fit; rw [parts_bare h]; simp
  have n1 : ¬ ((N : Int) < 1) := by omega
  refine ⟨by simp only [allocA, e, if_neg n1]; rfl, by simp only [allocE, e, if_neg n1], ?_⟩
  have ef : allocF bare N N = mark bare 0 N ((0 : Nat) : Int) := by simp only [allocF, e, if_neg n1, Int.toNat_natCast]
  have := left_mark (f := bare) (N := N) (a := 0) (n := N) (v := ((0 : Nat) : Int)) (by omega) (fun _ _ _ => rfl) (by omega)
  have l : left bare N = N := by unfold left; rw [parts_bare h]; simp [sumR]
  rw [ef]
  omega
theorem free_group {f : Nat → Int} {N : Nat} (G : Good f N) {i : Int} (h : groupE f N i = 0) : freeE f N (groupA f N i) = 0 := by
  unfold groupA
  rw [if_pos h]
  unfold groupE at h
  split at h
  · rename_i c
    split at h
    · simp at h
    · rename_i d
      obtain ⟨g, k1, k2, k3, k4⟩ := G.first (j := i.toNat) (by omega) d
      unfold freeE
      rw [if_pos]
      rw [k1, Int.toNat_natCast]
      exact ⟨by omega, by omega, k3⟩
  · simp at h
end Go.Proofs.YtbdoekffadmejaaGreatDoor.Bp
