/- What was given back is there again, as plain numbers; two systems beside one another. -/
import Derived.Test.YtcallmfdigfhnaaBpn
import Derived.Deep.CutRange
import Derived.Deep.RegionHeld3
import Derived.Test.YtcallmfdigfhnaaBpl
namespace Go.Proofs.Ytcallmfdigfhnaa
open Go.RowKit
set_option linter.unusedVariables false
set_option linter.unusedSimpArgs false

/-- Was a group of that first taken for one of these? -/
def gone (l : List (Nat × Nat)) (v : Int) : Bool := l.any (fun x => decide (x.1 % 64 = 0 ∧ v = ((x.1 / 64 : Nat) : Int)))
theorem gone_neg (l : List (Nat × Nat)) : gone l (-1) = false := by
  unfold gone
  rw [List.any_eq_false]
  intro x _
  simp only [decide_eq_true_eq]
  omega
theorem gone_snoc (l : List (Nat × Nat)) (x : Nat × Nat) (v : Int) : gone (l ++ [x]) v = (gone l v || decide (x.1 % 64 = 0 ∧ v = ((x.1 / 64 : Nat) : Int))) := by simp [gone]
theorem free_at {f : Nat → Int} {N g : Nat} (G : Good f N) : ∀ j, j < N → freeF f N (g : Int) j = if f j = (g : Int) then -1 else f j := by
  intro j hj
  by_cases h : g < N ∧ f g = g
  · have e : freeE f N (g : Int) = 0 := by unfold freeE; rw [if_pos]; exact ⟨by omega, by omega, by simpa using h.2⟩
    have := clr_all G h.1 h.2 j hj
    unfold freeF
    rw [if_pos e, Int.toNat_natCast, ← this]
    unfold clr
    by_cases q : f j = g
    · rw [if_pos ⟨hj, q⟩, if_pos q]
    · rw [if_neg (fun z => q z.2), if_neg q]
  · have e : freeE f N (g : Int) ≠ 0 := by
      unfold freeE
      rw [if_neg]
      · decide
      · intro z
        exact h ⟨by omega, by simpa using z.2.2⟩
    unfold freeF
    rw [if_neg e, if_neg]
    intro q
    obtain ⟨g', k1, k2, k3, k4⟩ := G.first hj (by omega)
    have : g' = g := by omega
    subst this
    exact h ⟨by omega, k3⟩
theorem frees_at {N : Nat} : ∀ (l : List (Nat × Nat)) (f : Nat → Int), Good f N → ∀ j, j < N → frees N f l j = if gone l (f j) then -1 else f j
  | [], f, G, j, hj => by simp [frees, gone]
  | x :: l, f, G, j, hj => by
    have step : frees N f (x :: l) = frees N (if x.1 % 64 = 0 then freeF f N ((x.1 / 64 : Nat) : Int) else f) l := rfl
    have gc : gone (x :: l) (f j) = (decide (x.1 % 64 = 0 ∧ f j = ((x.1 / 64 : Nat) : Int)) || gone l (f j)) := by simp [gone]
    rw [step, gc]
    by_cases h : x.1 % 64 = 0
    · rw [if_pos h, frees_at l _ (freeF_good G) j hj, free_at G j hj]
      by_cases q : f j = ((x.1 / 64 : Nat) : Int)
      · rw [if_pos q, gone_neg, decide_eq_true (p := x.1 % 64 = 0 ∧ f j = ((x.1 / 64 : Nat) : Int)) ⟨h, q⟩]
        simp
      · rw [if_neg q, decide_eq_false (p := x.1 % 64 = 0 ∧ f j = ((x.1 / 64 : Nat) : Int)) (fun z => q z.2), Bool.false_or]
    · rw [if_neg h, frees_at l f G j hj]
      simp [h]
/-- Without what was laid the row would be g. -/
def Iv (N : Nat) (g f : Nat → Int) (l : List (Nat × Nat)) : Prop := ∀ j, j < N → (if gone l (f j) then -1 else f j) = g j
theorem iv_none (N : Nat) (g : Nat → Int) : Iv N g g [] := fun j _ => by simp [gone]
theorem iv_lay {N M : Nat} {g f : Nat → Int} {S : S0} (h : Iv N g f S.l) (G : Good f N) (n : Int) : Iv N g (layF f N M S.nx n) (layS f N M S n).l := by
  unfold layF layS
  by_cases hn : 1 ≤ n ∧ n ≤ 4096
  · simp only [if_pos hn]
    cases e : room f N M S.nx n.toNat with
    | none => exact h
    | some x =>
      simp only
      intro j hj
      unfold S0.add
      simp only
      rw [gone_snoc]
      simp only
      unfold room at e
      split at e
      · rename_i hl
        simp only [Option.some.injEq] at e
        subst e
        simp only
        have hm : ¬ S.nx % 64 = 0 := by intro q; unfold lft blk at hl; omega
        simpa [hm] using h j hj
      · split at e
        · cases e
        · rename_i s he
          split at e
          · cases e
          · simp only [Option.some.injEq] at e
            subst e
            simp only
            have fa := fit_at he
            have b1 : 1 ≤ blk n.toNat := by unfold blk; omega
            rw [show s.1 * 64 / 64 = s.1 by omega]
            by_cases hin : s.1 ≤ j ∧ j < s.1 + blk n.toNat
            · simp only [mark_in hin.1 hin.2]
              have fj := fa.2 j hin.1 (by omega)
              have := h j hj
              rw [fj, gone_neg] at this
              simp at this
              simp [← this]
            · simp only [mark_out hin]
              have ne : ¬ f j = (s.1 : Int) := by
                intro q
                obtain ⟨g', k1, k2, k3, k4⟩ := G.first hj (by omega)
                have e : g' = s.1 := by omega
                subst e
                have := fa.2 s.1 (Nat.le_refl _) (by omega)
                omega
              simpa [ne] using h j hj
  · simp only [if_neg hn]; exact h
theorem iv_frees {N : Nat} {g f : Nat → Int} {l : List (Nat × Nat)} (h : Iv N g f l) (G : Good f N) : ∀ j, j < N → frees N f l j = g j := fun j hj => (frees_at l f G j hj).trans (h j hj)
theorem Sy.congr {B : Nat} {W : World} {s p a m pb ab N M : Nat} {v : Value} {S : S0} {f g : Nat → Int} {xs : List Int} (h : Sy B W s p a m pb ab N M v S f xs) (e : ∀ j, j < N → f j = g j) (G : Good g N) : Sy B W s p a m pb ab N M v S g xs :=
  ⟨h.sp, h.fit, h.pool.congr e, G, h.arena, h.len, h.ap, h.hB, h.vb⟩

/-! ### Two systems -/
def own5 (s p a m pb ab : Nat) (v : Value) (k : Nat) : Prop := lx s m v pb ab k ∨ k = p ∨ k = a
theorem Sy.lts {B : Nat} {W : World} {s p a m pb ab N M : Nat} {v : Value} {S : S0} {f : Nat → Int} {xs : List Int} (h : Sy B W s p a m pb ab N M v S f xs) : ∀ k, own5 s p a m pb ab v k → k < W.heap.size := by
  rintro k ((q | rfl | rfl) | rfl | rfl)
  · exact h.sp.lt k q
  · exact h.pool.lt.2
  · exact h.arena.lt.2
  · exact h.pool.lt.1
  · exact h.arena.lt.1
theorem Sy.other {B : Nat} {W W' : World} {X : Nat → Prop} {s p a m pb ab N M : Nat} {v : Value} {S : S0} {f : Nat → Int} {xs : List Int} (h : Sy B W s p a m pb ab N M v S f xs) (c : Chg X W W') (hx : ∀ k, own5 s p a m pb ab v k → ¬ X k) : Sy B W' s p a m pb ab N M v S f xs :=
  ⟨h.sp.chg c (fun k q => hx k (.inl (.inl q))), h.fit, h.pool.chg c (hx p (.inr (.inl rfl))) (hx pb (.inl (.inr (.inl rfl)))), h.good, h.arena.chg c (hx a (.inr (.inr rfl))) (hx ab (.inl (.inr (.inr rfl)))), h.len, h.ap, Nat.le_trans h.hB c.size, h.vb⟩
/-- No block of the one is the other's. -/
def Far (s p a m pb ab : Nat) (v : Value) (s' p' a' m' pb' ab' : Nat) (v' : Value) : Prop := ∀ k, own5 s p a m pb ab v k → ¬ own5 s' p' a' m' pb' ab' v' k
theorem Far.symm {s p a m pb ab : Nat} {v : Value} {s' p' a' m' pb' ab' : Nat} {v' : Value} (h : Far s p a m pb ab v s' p' a' m' pb' ab' v') : Far s' p' a' m' pb' ab' v' s p a m pb ab v := fun k q1 q2 => h k q2 q1
/-- .. also when the one has new ones. -/
theorem Far.step {s p a m pb ab : Nat} {v : Value} {s' p' a' m' pb' ab' : Nat} {v' : Value} {m2 : Nat} {v2 : Value} {n : Nat} (h : Far s p a m pb ab v s' p' a' m' pb' ab' v') (hn : ∀ k, own5 s' p' a' m' pb' ab' v' k → k < n) (hm : m2 = m ∨ n ≤ m2) (hv : ∀ k, v2.ownBlock = some k → v.ownBlock = some k ∨ n ≤ k) : Far s p a m2 pb ab v2 s' p' a' m' pb' ab' v' := by
  intro k q1 q2
  have lt := hn k q2
  rcases q1 with ((q | q | q) | q | q) | q | q
  · exact h k (.inl (.inl (.inl q))) q2
  · rcases hm with e | e
    · exact h k (.inl (.inl (.inr (.inl (q.trans e))))) q2
    · omega
  · rcases hv k q with e | e
    · exact h k (.inl (.inl (.inr (.inr e)))) q2
    · omega
  · exact h k (.inl (.inr (.inl q))) q2
  · exact h k (.inl (.inr (.inr q))) q2
  · exact h k (.inr (.inl q)) q2
  · exact h k (.inr (.inr q)) q2
end Go.Proofs.Ytcallmfdigfhnaa
