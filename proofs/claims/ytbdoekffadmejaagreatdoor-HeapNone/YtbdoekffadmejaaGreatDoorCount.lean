/- How many blocks are free, and what an allocation and its release leave. Nothing here speaks of a program. -/
import Derived.Test.YtbdoekffadmejaaGreatDoorPure
namespace Go.Proofs.YtbdoekffadmejaaGreatDoor.Bp
set_option linter.unusedVariables false

/-- The free blocks below a place, counted. -/
def cnt (f : Nat → Int) : Nat → Nat
  | 0 => 0
  | n + 1 => cnt f n + (if f n = -1 then 1 else 0)
theorem cnt_same {f : Nat → Int} {i : Nat} {v : Int} : ∀ t, (∀ j, i ≤ j → j < i + t → f j = v) → cnt f (i + t) = cnt f i + (if v = -1 then t else 0) := by
  intro t
  induction t with
  | zero => intro _; simp
  | succ t ih =>
    intro h
    have e := h (i + t) (by omega) (by omega)
    rw [show i + (t + 1) = i + t + 1 by omega, cnt, ih (fun j a b => h j a (by omega)), e]
    split <;> omega
theorem sum_segs {f : Nat → Int} {N : Nat} : ∀ (k i : Nat), i ≤ N → N - i ≤ k → sumR ((segs f N k i).filter (kind f true)) + cnt f i = cnt f N := by
  intro k
  induction k with
  | zero => intro i h1 h2; rw [show i = N by omega]; simp [segs, sumR]
  | succ k ih =>
    intro i h1 h2
    by_cases hi : i < N
    · have tp := tog_pos f hi
      have tl := tog_le f (N := N) h1
      have e := cnt_same (f := f) (i := i) (v := f i) (tog f N i) (fun j a b => tog_all f a b)
      have := ih (i + tog f N i) tl (by omega)
      rw [segs_cons hi h2, List.filter_cons]
      by_cases hf : f i = -1
      · rw [if_pos (by simp [kind, hf])]
        rw [if_pos hf] at e
        simp only [sumR, List.map_cons, List.sum_cons, Nat.add_sub_cancel] at this ⊢
        omega
      · rw [if_neg (by simp [kind, hf])]
        rw [if_neg hf] at e
        simp only [Nat.add_sub_cancel]
        omega
    · rw [segs_end hi, show i = N by omega]
      simp [sumR]
theorem left_cnt (f : Nat → Int) (N : Nat) : left f N = cnt f N := by
  have := sum_segs (f := f) (N := N) N 0 (Nat.zero_le _) (by omega)
  simpa [left, parts, cnt] using this
theorem cnt_mark {f : Nat → Int} {a n : Nat} {v : Int} (hv : v ≠ -1) (hf : ∀ j, a ≤ j → j < a + n → f j = -1) : ∀ m, cnt (mark f a n v) m + min n (m - a) = cnt f m := by
  intro m
  induction m with
  | zero => simp [cnt]
  | succ m ih =>
    simp only [cnt]
    by_cases h : a ≤ m ∧ m < a + n
    · rw [mark_in h.1 h.2, hf m h.1 h.2, if_neg hv]
      simp
      omega
    · rw [mark_out h]
      split <;> omega
theorem left_mark {f : Nat → Int} {N a n : Nat} {v : Int} (hv : v ≠ -1) (hf : ∀ j, a ≤ j → j < a + n → f j = -1) (hN : a + n ≤ N) : left (mark f a n v) N + n = left f N := by
  rw [left_cnt, left_cnt]
  have := cnt_mark hv hf N
  omega
theorem mem_le_max {l : List (Nat × Nat)} {s : Nat × Nat} (h : s ∈ l) : s.2 ≤ maxR l := by
  have : ∀ (l : List (Nat × Nat)) (m : Nat), m ≤ l.foldl (fun m s => max m s.2) m ∧ ∀ s ∈ l, s.2 ≤ l.foldl (fun m s => max m s.2) m := by
    intro l
    induction l with
    | nil => intro m; simp
    | cons x l ih =>
      intro m
      obtain ⟨i1, i2⟩ := ih (max m x.2)
      refine ⟨by simp only [List.foldl_cons]; omega, fun s hs => ?_⟩
      simp only [List.foldl_cons]
      rcases List.mem_cons.1 hs with rfl | hs
      · omega
      · exact i2 s hs
  exact (this l 0).2 s h
theorem max_mem {l : List (Nat × Nat)} (h : 1 ≤ maxR l) : ∃ s ∈ l, s.2 = maxR l := by
  have : ∀ (l : List (Nat × Nat)) (m : Nat), l.foldl (fun m s => max m s.2) m = m ∨ ∃ s ∈ l, s.2 = l.foldl (fun m s => max m s.2) m := by
    intro l
    induction l with
    | nil => intro m; simp
    | cons x l ih =>
      intro m
      simp only [List.foldl_cons]
      rcases ih (max m x.2) with e | ⟨s, hs, e⟩
      · rcases Nat.le_total m x.2 with h | h
        · exact .inr ⟨x, by simp, by rw [e]; omega⟩
        · exact .inl (by rw [e]; omega)
      · exact .inr ⟨s, by simp [hs], e⟩
  rcases this l 0 with e | e
  · unfold maxR at h; omega
  · exact e
theorem longest_le (f : Nat → Int) (N : Nat) : longest f N ≤ N := by
  rcases Nat.eq_zero_or_pos (longest f N) with h | h
  · omega
  · obtain ⟨s, hs, e⟩ := max_mem (l := parts f N true) h
    have := (run_mem hs).1
    unfold longest
    omega
theorem left_le (f : Nat → Int) (N : Nat) : left f N ≤ N := by
  rw [left_cnt]
  induction N with
  | zero => simp [cnt]
  | succ n ih => simp only [cnt]; split <;> omega

/-- What does not fit. -/
theorem alloc_not {f : Nat → Int} {N : Nat} {n : Int} (h : n < 1 ∨ (longest f N : Int) < n) : allocE f N n ≠ 0 ∧ allocA f N n = 0 ∧ allocF f N n = f := by
  by_cases h0 : n < 1
  · simp [allocE, allocA, allocF, h0]
  · have e : fit f N n = none := by
      unfold fit
      rw [List.find?_eq_none]
      intro s hs
      have := mem_le_max hs
      unfold longest at h
      simp only [decide_eq_true_eq, Int.not_le]
      omega
    simp [allocE, allocA, allocF, h0, e]
/-- What fits. -/
theorem alloc_fit {f : Nat → Int} {N n : Nat} (h1 : 1 ≤ n) (h2 : n ≤ longest f N) :
    ∃ a : Nat, allocE f N n = 0 ∧ allocA f N n = a ∧ allocF f N n = mark f a n a ∧ a + n ≤ N ∧ ∀ j, a ≤ j → j < a + n → f j = -1 := by
  obtain ⟨s, hs, e⟩ := max_mem (l := parts f N true) (by unfold longest at h2; omega)
  cases hx : fit f N n with
  | none =>
    unfold fit at hx
    rw [List.find?_eq_none] at hx
    have := hx s hs
    simp only [decide_eq_true_eq, Int.not_le] at this
    unfold longest at h2
    omega
  | some x =>
    obtain ⟨m, l⟩ := fit_some hx
    obtain ⟨r1, r2, r3⟩ := run_mem m
    have n1 : ¬ ((n : Int) < 1) := by omega
    refine ⟨x.1, by simp only [allocE, hx, if_neg n1], by simp only [allocA, hx, if_neg n1], by simp only [allocF, hx, if_neg n1, Int.toNat_natCast], by omega, fun j p q => r3 j p (by omega)⟩
/-- Behind what fits: each of its blocks tells the group. -/
theorem fit_group {f : Nat → Int} {N a n k : Nat} (G : Good f N) (h1 : 1 ≤ n) (hN : a + n ≤ N) (hf : ∀ j, a ≤ j → j < a + n → f j = -1) (hk : a ≤ k) (hk2 : k < a + n) :
    groupE (mark f a n a) N k = 0 ∧ groupA (mark f a n a) N k = a ∧ groupN (mark f a n a) N k = n := by
  have e : mark f a n a k = a := mark_in hk hk2
  have e1 : groupE (mark f a n a) N k = 0 := by
    unfold groupE
    rw [if_pos (by omega), if_neg]
    rw [Int.toNat_natCast, e]
    omega
  have t : tog (mark f a n a) N a = n := by
    refine tog_eq hN (fun j p q => by rw [mark_in p q, mark_in (Nat.le_refl _) (by omega)]) (fun h => ?_)
    rw [mark_out (by omega), mark_in (Nat.le_refl _) (by omega)]
    intro e2
    obtain ⟨g, k1, k2, k3, k4⟩ := G.first (j := a + n) (by omega) (by omega)
    have : g = a := by omega
    subst this
    have := hf g (by omega) (by omega)
    omega
  refine ⟨e1, ?_, ?_⟩
  · unfold groupA; rw [if_pos e1, Int.toNat_natCast, e]
  · unfold groupN; rw [if_pos e1, Int.toNat_natCast, e, Int.toNat_natCast, t]
/-- .. and freed, it is as it was. -/
theorem fit_free {f : Nat → Int} {N a n : Nat} (G : Good f N) (h1 : 1 ≤ n) (hN : a + n ≤ N) (hf : ∀ j, a ≤ j → j < a + n → f j = -1) :
    freeE (mark f a n a) N a = 0 ∧ freeF (mark f a n a) N a = f := by
  have e : mark f a n a a = a := mark_in (Nat.le_refl _) (by omega)
  have e1 : freeE (mark f a n a) N a = 0 := by
    unfold freeE
    rw [if_pos]
    rw [Int.toNat_natCast]
    exact ⟨by omega, by omega, e⟩
  have t : tog (mark f a n a) N a = n := by
    have := (fit_group G h1 hN hf (Nat.le_refl a) (by omega)).2.2
    unfold groupN at this
    rw [if_pos (fit_group G h1 hN hf (Nat.le_refl a) (by omega)).1, Int.toNat_natCast, e, Int.toNat_natCast] at this
    omega
  refine ⟨e1, ?_⟩
  unfold freeF
  rw [if_pos e1, Int.toNat_natCast, t]
  funext j
  by_cases h : a ≤ j ∧ j < a + n
  · rw [mark_in h.1 h.2, hf j h.1 h.2]
  · rw [mark_out h, mark_out h]
end Go.Proofs.YtbdoekffadmejaaGreatDoor.Bp
