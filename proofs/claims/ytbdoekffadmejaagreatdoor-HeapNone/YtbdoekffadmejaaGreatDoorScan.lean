/- The document's own pool, as plain functions: what it goes over whole is what the program's pool finds from one end. Nothing here speaks of a program. -/
import Derived.Test.YtbdoekffadmejaaGreatDoorJoins
namespace Go.Proofs.YtbdoekffadmejaaGreatDoor.Bp
set_option linter.unusedVariables false

/-- The blocks of a group are those whose first it is. -/
theorem first_iff {f : Nat → Int} {N g j : Nat} (G : Good f N) (hg : g < N) (e : f g = g) (hj : j < N) : f j = g ↔ (g ≤ j ∧ j < g + tog f N g) := by
  constructor
  · intro h
    obtain ⟨g', k1, k2, k3, k4⟩ := G.first hj (by omega)
    obtain rfl : g' = g := by omega
    exact ⟨k2, k4⟩
  · intro h
    rw [tog_all f h.1 h.2, e]

/-! ### Free -/
def clr (f : Nat → Int) (g : Int) (k : Nat) : Nat → Int := fun j => if j < k ∧ f j = g then -1 else f j
theorem clr_zero (f : Nat → Int) (g : Int) (j : Nat) : clr f g 0 j = f j := by simp [clr]
theorem clr_at (f : Nat → Int) (g : Int) (k : Nat) : clr f g k k = f k := by simp [clr]
theorem clr_hit {f : Nat → Int} {g : Int} {k : Nat} (h : f k = g) (N : Nat) : ∀ j, j < N → mark (clr f g k) k 1 (-1) j = clr f g (k + 1) j := by
  intro j _
  unfold mark clr
  by_cases e : j = k
  · subst e; simp [h]
  · rw [if_neg (by omega)]
    by_cases l : j < k
    · simp [l, show j < k + 1 by omega]
    · simp [l, show ¬ j < k + 1 by omega]
theorem clr_miss {f : Nat → Int} {g : Int} {k : Nat} (h : f k ≠ g) : clr f g k = clr f g (k + 1) := by
  funext j
  unfold clr
  by_cases e : j = k
  · subst e; simp [h]
  · by_cases l : j < k
    · simp [l, show j < k + 1 by omega]
    · simp [l, show ¬ j < k + 1 by omega]
theorem clr_all {f : Nat → Int} {N g : Nat} (G : Good f N) (hg : g < N) (e : f g = g) : ∀ j, j < N → clr f g N j = mark f g (tog f N g) (-1) j := by
  intro j hj
  have := first_iff G hg e hj
  unfold clr mark
  by_cases h : f j = g
  · rw [if_pos ⟨hj, h⟩, if_pos (this.1 h)]
  · rw [if_neg (fun q => h q.2), if_neg (fun q => h (this.2 q))]

/-! ### Group -/
def cntv (f : Nat → Int) (v : Int) : Nat → Nat
  | 0 => 0
  | k + 1 => cntv f v k + (if f k = v then 1 else 0)
theorem cntv_le (f : Nat → Int) (v : Int) : ∀ k, cntv f v k ≤ k := by
  intro k
  induction k with
  | zero => exact Nat.le_refl _
  | succ k ih => unfold cntv; split <;> omega
theorem cntv_tog {f : Nat → Int} {N g : Nat} (G : Good f N) (hg : g < N) (e : f g = g) : cntv f g N = tog f N g := by
  have key : ∀ k, k ≤ N → cntv f g k = min k (g + tog f N g) - min k g := by
    intro k
    induction k with
    | zero => intro _; simp [cntv]
    | succ k ih =>
      intro hk
      have h1 := ih (by omega)
      have h2 := first_iff G hg e (j := k) (by omega)
      unfold cntv
      rw [h1]
      by_cases h : f k = g
      · have := h2.1 h
        rw [if_pos h]
        omega
      · have : ¬ (g ≤ k ∧ k < g + tog f N g) := fun q => h (h2.2 q)
        rw [if_neg h]
        omega
  have := key N (Nat.le_refl _)
  have := tog_le f (N := N) (i := g) (by omega)
  omega

/-! ### Alloc -/
def fitsAt (f : Nat → Int) (N a : Nat) (n : Int) : Prop := (a : Int) + n ≤ N ∧ ∀ j : Nat, a ≤ j → (j : Int) < a + n → f j = -1
theorem fits_run {f : Nat → Int} {N a : Nat} {n : Int} (h1 : 1 ≤ n) (h : fitsAt f N a n) : ∃ s ∈ parts f N true, s.1 ≤ a ∧ n ≤ s.2 := by
  obtain ⟨hN, hf⟩ := h
  obtain ⟨s, hs, l1, l2⟩ := segs_cover (f := f) (N := N) N 0 (by omega) a (by omega) (by omega)
  obtain ⟨m1, m2, m3⟩ := segs_mem _ _ _ hs
  have fa : f a = -1 := hf a (Nat.le_refl _) (by omega)
  have fs : f s.1 = -1 := by rw [← fa]; exact (tog_all f (N := N) l1 (by omega)).symm
  refine ⟨s, List.mem_filter.2 ⟨hs, by simp [kind, fs]⟩, l1, ?_⟩
  by_cases q : (a : Int) + n ≤ s.1 + s.2
  · omega
  · exfalso
    have st := tog_stop f (N := N) (i := s.1) (by omega)
    rw [← m3] at st
    exact st ((hf _ (by omega) (by omega)).trans fs.symm)
theorem nofit_at {f : Nat → Int} {N : Nat} {n : Int} (h1 : 1 ≤ n) (h : fit f N n = none) (a : Nat) : ¬ fitsAt f N a n := by
  intro q
  obtain ⟨s, hs, _, l⟩ := fits_run h1 q
  have := List.find?_eq_none.1 h s hs
  simp at this
  omega
theorem fit_at {f : Nat → Int} {N : Nat} {n : Int} {s : Nat × Nat} (h : fit f N n = some s) : fitsAt f N s.1 n := by
  obtain ⟨m, l⟩ := fit_some h
  have r := run_mem m
  exact ⟨by omega, fun j a b => r.2.2 j a (by omega)⟩
theorem fit_least {f : Nat → Int} {N : Nat} {n : Int} {s : Nat × Nat} (h1 : 1 ≤ n) (h : fit f N n = some s) (a : Nat) (ha : a < s.1) : ¬ fitsAt f N a n := by
  intro q
  obtain ⟨t, ht, l1, l2⟩ := fits_run h1 q
  obtain ⟨hp, as, bs, e, hn⟩ := List.find?_eq_some_iff_append.1 h
  rw [e] at ht
  rcases List.mem_append.1 ht with ht | ht
  · have := hn t ht
    simp at this
    omega
  · rcases List.mem_cons.1 ht with rfl | ht
    · omega
    · have P := parts_apart f N true
      rw [e] at P
      have := (List.pairwise_cons.1 (List.pairwise_append.1 P).2.1).1 t ht
      omega
theorem fitsAt_dec (f : Nat → Int) (N a : Nat) (n : Int) : fitsAt f N a n ∨ ¬ fitsAt f N a n := Classical.em _

/-! ### Rows -/
theorem tog_last (f : Nat → Int) (N : Nat) : tog f (N + 1) N = 1 := tog_eq (by omega) (fun j a b => by rw [show j = N by omega]) (fun h => by omega)
theorem segs_snoc {f : Nat → Int} {N : Nat} : ∀ (k i : Nat), i ≤ N → N - i ≤ k →
    (i < N → f (N - 1) = f N → ∃ pre a t, segs f N k i = pre ++ [(a, t)] ∧ a + t = N ∧ f a = f N ∧ segs f (N + 1) (k + 1) i = pre ++ [(a, t + 1)]) ∧
    ((i = N ∨ f (N - 1) ≠ f N) → segs f (N + 1) (k + 1) i = segs f N k i ++ [(N, 1)]) := by
  have last : ∀ k, segs f (N + 1) (k + 1) N = [(N, 1)] := by
    intro k
    rw [segs_cons (by omega) (by omega), tog_last, segs_end (by omega)]
  intro k
  induction k with
  | zero =>
    intro i h1 h2
    obtain rfl : i = N := by omega
    exact ⟨fun h => by omega, fun _ => by rw [last]; simp [segs]⟩
  | succ k ih =>
    intro i h1 h2
    by_cases hi : i < N
    · have tp := tog_pos f hi
      have tl := tog_le f (N := N) (i := i) h1
      rw [segs_cons (f := f) (N := N) hi h2, segs_cons (f := f) (N := N + 1) (show i < N + 1 by omega) (by omega)]
      simp only [Nat.add_sub_cancel]
      by_cases ht : i + tog f N i < N
      · have e : tog f (N + 1) i = tog f N i := tog_eq (by omega) (fun j a b => tog_all f a b) (fun _ => tog_stop f ht)
        rw [e]
        obtain ⟨q1, q2⟩ := ih (i + tog f N i) (by omega) (by omega)
        constructor
        · intro _ hf
          obtain ⟨pre, a, t, e1, e2, e3, e4⟩ := q1 ht hf
          exact ⟨(i, tog f N i) :: pre, a, t, by rw [e1]; rfl, e2, e3, by rw [e4]; rfl⟩
        · intro hf
          rw [q2 (by omega)]
          rfl
      · have et : i + tog f N i = N := by omega
        have fl : f (N - 1) = f i := tog_all f (N := N) (by omega) (by omega)
        by_cases q : f N = f i
        · have e : tog f (N + 1) i = tog f N i + 1 := tog_eq (by omega) (fun j a b => by
            by_cases hj : j < i + tog f N i
            · exact tog_all f a hj
            · rw [show j = N by omega, q]) (fun h => by omega)
          constructor
          · intro _ _
            refine ⟨[], i, tog f N i, ?_, et, q.symm, ?_⟩
            · rw [et, segs_end (by omega)]; rfl
            · rw [e, segs_end (by omega)]; rfl
          · intro h
            rcases h with h | h
            · omega
            · exact absurd (fl.trans q.symm) h
        · have e : tog f (N + 1) i = tog f N i := tog_eq (by omega) (fun j a b => tog_all f a b) (fun _ => by rw [et]; exact q)
          constructor
          · intro _ h
            exact absurd (h.symm.trans fl) q
          · intro _
            rw [e, et, last, segs_end (by omega)]
            rfl
    · obtain rfl : i = N := by omega
      exact ⟨fun h => by omega, fun _ => by rw [last, segs_end (by omega)]; rfl⟩
theorem kind_fst (f : Nat → Int) (r : Bool) (a t u : Nat) : kind f r (a, t) = kind f r (a, u) := rfl
theorem kind_eq {f : Nat → Int} {r : Bool} {a b t u : Nat} (h : f a = f b) : kind f r (a, t) = kind f r (b, u) := by simp [kind, h]
theorem parts_skip {f : Nat → Int} {N : Nat} {r : Bool} (h : kind f r (N, 1) = false) : parts f (N + 1) r = parts f N r := by
  unfold parts
  obtain ⟨q1, q2⟩ := segs_snoc (f := f) (N := N) N 0 (by omega) (by omega)
  by_cases c : 0 < N ∧ f (N - 1) = f N
  · obtain ⟨pre, a, t, e1, e2, e3, e4⟩ := q1 c.1 c.2
    rw [e1, e4, List.filter_append, List.filter_append]
    simp [kind_eq (r := r) (t := t) (u := 1) e3, kind_eq (r := r) (t := t + 1) (u := 1) e3, h]
  · rw [q2 (by omega), List.filter_append]
    simp [h]
/-- What the document's scan does at block N: the part that ended there goes on, or one begins. -/
theorem row_step {f : Nat → Int} {N M : Nat} {r : Bool} (G : Good f M) (hN : N < M) (h : kind f r (N, 1) = true) :
    (parts f (N + 1) r = parts f N r ++ [(N, 1)] ∧ (parts f N r = [] ∨ ∃ pre a t, parts f N r = pre ++ [(a, t)] ∧ (a + t ≠ N ∨ (r = false ∧ f N = N)))) ∨
    (∃ pre a t, parts f N r = pre ++ [(a, t)] ∧ a + t = N ∧ parts f (N + 1) r = pre ++ [(a, t + 1)] ∧ (r = true ∨ f N ≠ N)) := by
  obtain ⟨q1, q2⟩ := segs_snoc (f := f) (N := N) N 0 (by omega) (by omega)
  by_cases c : 0 < N ∧ f (N - 1) = f N
  · right
    obtain ⟨pre, a, t, e1, e2, e3, e4⟩ := q1 c.1 c.2
    refine ⟨pre.filter (kind f r), a, t, ?_, e2, ?_, ?_⟩
    · unfold parts
      rw [e1, List.filter_append]
      simp [kind_eq (r := r) (t := t) (u := 1) e3, h]
    · unfold parts
      rw [e4, List.filter_append]
      simp [kind_eq (r := r) (t := t + 1) (u := 1) e3, h]
    · right
      have := (G.bounds (j := N - 1) (by omega)).2
      omega
  · left
    constructor
    · unfold parts
      rw [q2 (by omega), List.filter_append]
      simp [h]
    · rcases List.eq_nil_or_concat (parts f N r) with e | ⟨pre, s, e⟩
      · exact .inl e
      · right
        refine ⟨pre, s.1, s.2, by rw [e]; simp, ?_⟩
        by_cases z : s.1 + s.2 = N
        · right
          have ms : s ∈ parts f N r := by rw [e]; simp
          obtain ⟨m1, m2, m3⟩ := parts_mem ms
          cases r with
          | true =>
            exfalso
            have rm := run_mem ms
            have fN : f N = -1 := by simpa [kind] using h
            exact c ⟨by omega, (rm.2.2 (N - 1) (by omega) (by omega)).trans fN.symm⟩
          | false =>
            refine ⟨rfl, ?_⟩
            have fN : f N ≠ -1 := by simpa [kind] using h
            rcases G N hN with q | ⟨g1, g2, g3⟩
            · exact absurd q fN
            · by_cases w : f N = N
              · exact w
              · exact absurd (g3 (N - 1) (by omega) (by omega)) (fun q => c ⟨by omega, q⟩)
        · exact .inl z
end Go.Proofs.YtbdoekffadmejaaGreatDoor.Bp
