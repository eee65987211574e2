/- What was laid has words of its own, as plain numbers; and two spaces of one pool and arena in memory. -/
import Derived.Test.YtcallmfdigfhnaaActs
namespace Go.Proofs.Ytcallmfdigfhnaa
open Go.RowKit
set_option linter.unusedVariables false
set_option linter.unusedSimpArgs false

/-- Words that were met lie in blocks that are taken; what is left of a block that is laid in was not met. -/
structure Inv (f : Nat → Int) (g : Nat → Int) (nx : Bool → Nat) : Prop where
  zero : f 0 ≠ -1
  met : ∀ j, g j ≠ 0 → f (j / 64) ≠ -1
  rest : ∀ i j, nx i ≤ j → j < nx i + lft (nx i) → g j = 0
  cur : ∀ i, 0 < lft (nx i) → f (nx i / 64) ≠ -1 ∧ 64 ≤ nx i
  two : ∀ i, 0 < lft (nx i) → 0 < lft (nx (!i)) → nx i / 64 ≠ nx (!i) / 64
def updB {α : Type} (h : Bool → α) (i : Bool) (x : α) : Bool → α := fun k => if k = i then x else h k
theorem updB_same {α : Type} (h : Bool → α) (i : Bool) (x : α) : updB h i x i = x := by simp [updB]
theorem updB_not {α : Type} (h : Bool → α) (i : Bool) (x : α) : updB h i x (!i) = h (!i) := by cases i <;> simp [updB]
theorem bool_cases (P : Bool → Prop) (i : Bool) (h1 : P i) (h2 : P (!i)) : ∀ k, P k := by intro k; cases i <;> cases k <;> assumption
theorem lft_block {nx j : Nat} (h1 : nx ≤ j) (h2 : j < nx + lft nx) : j / 64 = nx / 64 := by unfold lft blk at h2; omega
theorem Inv.lay {f g : Nat → Int} {nx : Bool → Nat} {N M n : Nat} {x : Nat × (Nat → Int)} (h : Inv f g nx) (i : Bool) (hr : room f N M (nx i) n = some x) (h1 : 1 ≤ n) :
    (∀ j, x.1 ≤ j → j < x.1 + n → 64 ≤ j ∧ g j = 0) ∧ Inv x.2 (mark g x.1 n 1) (updB nx i (if n ≤ 64 then x.1 + n else nx i)) := by
  unfold room at hr
  split at hr
  · rename_i hl
    simp only [Option.some.injEq] at hr
    subst hr
    simp only
    have l64 := lft_lt (nx i)
    rw [if_pos (show n ≤ 64 by omega)]
    have cu := h.cur i (by omega)
    have lf : lft (nx i + n) = lft (nx i) - n := by unfold lft blk at *; omega
    refine ⟨fun j a b => ⟨by omega, h.rest i j a (by omega)⟩, ⟨h.zero, ?_, ?_, ?_, ?_⟩⟩
    · intro j hj
      by_cases hin : nx i ≤ j ∧ j < nx i + n
      · rw [lft_block hin.1 (by omega)]; exact cu.1
      · rw [mark_out hin] at hj; exact h.met j hj
    · refine bool_cases _ i ?_ ?_
      · intro j a b
        rw [updB_same] at a b
        rw [lf] at b
        rw [mark_out (by omega)]
        exact h.rest i j (by omega) (by omega)
      · intro j a b
        rw [updB_not] at a b
        have d := h.two i (by omega) (by omega)
        have e := lft_block a b
        rw [mark_out]
        · exact h.rest (!i) j a b
        · intro q
          have := lft_block q.1 (show j < nx i + lft (nx i) by omega)
          omega
    · refine bool_cases _ i ?_ ?_
      · rw [updB_same, lf]
        intro q
        have e : (nx i + n) / 64 = nx i / 64 := lft_block (by omega) (by omega)
        rw [e]
        exact ⟨cu.1, by omega⟩
      · rw [updB_not]; exact h.cur (!i)
    · have main : 0 < lft (nx i + n) → 0 < lft (nx (!i)) → (nx i + n) / 64 ≠ nx (!i) / 64 := by
        intro q1 q2
        rw [lf] at q1
        rw [lft_block (show nx i ≤ nx i + n by omega) (by omega)]
        exact h.two i (by omega) q2
      refine bool_cases _ i ?_ ?_
      · rw [updB_same, updB_not]; exact main
      · rw [Bool.not_not, updB_same, updB_not]; exact fun q1 q2 e => main q2 q1 e.symm
  · rename_i hl
    split at hr
    · cases hr
    · rename_i s hs
      split at hr
      · cases hr
      · rename_i hm
        simp only [Option.some.injEq] at hr
        subst hr
        simp only
        obtain ⟨r1, r2⟩ := fit_some hs
        obtain ⟨r3, r4, r5⟩ := run_mem r1
        have fr : ∀ b, s.1 ≤ b → b < s.1 + blk n → f b = -1 := fun b q1 q2 => r5 b q1 (by omega)
        have bn := blk_le n
        have b1 : 1 ≤ blk n := by unfold blk; omega
        have s0 : s.1 ≠ 0 := fun e => h.zero (by have := fr s.1 (Nat.le_refl _) (by omega); rw [e] at this; exact this)
        have un : ∀ j, s.1 * 64 ≤ j → j < (s.1 + blk n) * 64 → g j = 0 := by
          intro j q1 q2
          by_cases e : g j = 0
          · exact e
          · exact absurd (fr (j / 64) (by omega) (by omega)) (h.met j e)
        have tk : ∀ b, f b ≠ -1 → mark f s.1 (blk n) s.1 b ≠ -1 ∧ ¬ (s.1 ≤ b ∧ b < s.1 + blk n) := by
          intro b hb
          have : ¬ (s.1 ≤ b ∧ b < s.1 + blk n) := fun q => hb (fr b q.1 q.2)
          exact ⟨by rw [mark_out this]; exact hb, this⟩
        have out : ∀ b j, f b ≠ -1 → j / 64 = b → mark g (s.1 * 64) n 1 j = g j := by
          intro b j hb hj
          refine mark_out ?_
          have := (tk b hb).2
          omega
        have nrest : ∀ k j, nx k ≤ j → j < nx k + lft (nx k) → mark g (s.1 * 64) n 1 j = 0 := by
          intro k j q1 q2
          have c := h.cur k (by omega)
          rw [out (nx k / 64) j c.1 (lft_block q1 q2)]
          exact h.rest k j q1 q2
        have ncur : ∀ k, 0 < lft (nx k) → mark f s.1 (blk n) s.1 (nx k / 64) ≠ -1 ∧ 64 ≤ nx k := fun k q => ⟨(tk _ (h.cur k q).1).1, (h.cur k q).2⟩
        refine ⟨fun j a b => ⟨by omega, un j a (by omega)⟩, ⟨(tk 0 h.zero).1, ?_, ?_, ?_, ?_⟩⟩
        · intro j hj
          by_cases hin : s.1 * 64 ≤ j ∧ j < s.1 * 64 + n
          · rw [mark_in (by omega) (by omega)]; omega
          · rw [mark_out hin] at hj; exact (tk _ (h.met j hj)).1
        · refine bool_cases _ i ?_ ?_
          · rw [updB_same]
            intro j a b
            by_cases h64 : n ≤ 64
            · rw [if_pos h64] at a b
              have e : lft (s.1 * 64 + n) = 64 - n := by unfold lft blk; omega
              have e1 : blk n = 1 := by unfold blk; omega
              rw [e] at b
              rw [mark_out (by omega)]
              exact un j (by omega) (by omega)
            · rw [if_neg h64] at a b
              exact nrest i j a b
          · rw [updB_not]; exact nrest (!i)
        · refine bool_cases _ i ?_ ?_
          · rw [updB_same]
            by_cases h64 : n ≤ 64
            · rw [if_pos h64]
              intro q
              have e : lft (s.1 * 64 + n) = 64 - n := by unfold lft blk; omega
              rw [e] at q
              rw [show (s.1 * 64 + n) / 64 = s.1 by omega, mark_in (Nat.le_refl _) (by omega)]
              exact ⟨by omega, by omega⟩
            · rw [if_neg h64]; exact ncur i
          · rw [updB_not]; exact ncur (!i)
        · have main : 0 < lft (if n ≤ 64 then s.1 * 64 + n else nx i) → 0 < lft (nx (!i)) → (if n ≤ 64 then s.1 * 64 + n else nx i) / 64 ≠ nx (!i) / 64 := by
            by_cases h64 : n ≤ 64
            · rw [if_pos h64]
              intro q1 q2
              have e : lft (s.1 * 64 + n) = 64 - n := by unfold lft blk; omega
              rw [e] at q1
              rw [show (s.1 * 64 + n) / 64 = s.1 by omega]
              have := (tk _ (h.cur (!i) q2).1).2
              omega
            · rw [if_neg h64]
              exact h.two i
          refine bool_cases _ i ?_ ?_
          · rw [updB_same, updB_not]; exact main
          · rw [Bool.not_not, updB_same, updB_not]; exact fun q1 q2 e => main q2 q1 e.symm
theorem inv_first (N : Nat) (h : 1 ≤ N) : Inv (f1 N) (fun _ => 0) (fun _ => 0) := by
  have e : f1 N 0 ≠ -1 := by
    unfold f1
    obtain ⟨a1, a2, a3⟩ := alloc_of_fits (f := fun _ => -1) (N := N) (a := 0) (n := 1) (by omega) ⟨by omega, fun j _ _ => rfl⟩ (fun a' h => by omega)
    rw [a3, mark_in (by omega) (by simp)]
    decide
  exact ⟨e, fun j q => absurd rfl q, fun i j _ _ => rfl, fun i q => by simp [lft, blk] at q, fun i q => by simp [lft, blk] at q⟩

/-! ### Two spaces -/
structure Tw (B : Nat) (W : World) (s m : Bool → Nat) (v : Bool → Value) (S : Bool → S0) (p a pb ab N M : Nat) (f : Nat → Int) (xs : List Int) : Prop where
  sy : ∀ i, Sy B W (s i) p a (m i) pb ab N M (v i) (S i) f xs
  ap : ∀ k, ft (s false) (m false) (v false) k → ¬ ft (s true) (m true) (v true) k
section
variable {B : Nat} {W W' : World} {s m : Bool → Nat} {v : Bool → Value} {S : Bool → S0} {p a pb ab N M : Nat} {f : Nat → Int} {xs : List Int}
theorem Tw.later (h : Tw B W s m v S p a pb ab N M f xs) (b : Below W.heap.size W W') : Tw B W' s m v S p a pb ab N M f xs := ⟨fun i => (h.sy i).later b, h.ap⟩
theorem Tw.apart (h : Tw B W s m v S p a pb ab N M f xs) (i : Bool) : ∀ k, ft (s i) (m i) (v i) k → ¬ ft (s (!i)) (m (!i)) (v (!i)) k := by
  cases i
  · exact h.ap
  · exact fun k q1 q2 => h.ap k q2 q1
/-- The other space stays. -/
theorem Tw.one (h : Tw B W s m v S p a pb ab N M f xs) (i : Bool) {v' : Value} {S' : S0} {f' : Nat → Int} {xs' : List Int} (Y : Sy B W' (s i) p a (m i) pb ab N M v' S' f' xs') (old : ∀ k, v'.ownBlock = some k → (v i).ownBlock = some k ∨ W.heap.size ≤ k) (c : Chg (lx (s i) (m i) (v i) pb ab) W W') :
    Tw B W' s m (updB v i v') (updB S i S') p a pb ab N M f' xs' := by
  have ot := h.sy (!i)
  have O : Sy B W' (s (!i)) p a (m (!i)) pb ab N M (v (!i)) (S (!i)) f' xs' := by
    refine ⟨ot.sp.chg c ?_, ot.fit, Y.pool, Y.good, Y.arena, Y.len, ot.ap, Y.hB, ot.vb⟩
    rintro k q (q2 | rfl | rfl)
    · exact h.apart i k q2 q
    · exact (ot.ap.ft _ q).2.1 rfl
    · exact (ot.ap.ft _ q).2.2.2 rfl
  refine ⟨?_, ?_⟩
  · refine bool_cases _ i ?_ ?_
    · rw [updB_same, updB_same]; exact Y
    · rw [updB_not, updB_not]; exact O
  · have main : ∀ k, ft (s i) (m i) v' k → ¬ ft (s (!i)) (m (!i)) (v (!i)) k := by
      rintro k (q | q | q) q2
      · exact h.apart i k (.inl q) q2
      · exact h.apart i k (.inr (.inl q)) q2
      · rcases old k q with e | e
        · exact h.apart i k (.inr (.inr e)) q2
        · have := ot.sp.lt k q2; omega
    cases i
    · intro k; simpa [updB] using main k
    · intro k q1 q2; exact main k (by simpa [updB] using q2) (by simpa [updB] using q1)
theorem Tw.lay (h : Tw B W s m v S p a pb ab N M f xs) (i : Bool) (hl : (S i).l.length ≤ 1000) (n : Int) :
    Calls Try.prog 13 #[.pointer (some ⟨s i, 0, none⟩), .int .i64 n] W fun e w' =>
      e = .returned (.tuple #[.int .i64 (layA f N M (S i).nx n), .int .i64 (layE f N M (S i).nx n)]) ∧
      ∃ v', Tw B w' s m (updB v i v') (updB S i (layS f N M (S i) n)) p a pb ab N M (layF f N M (S i).nx n) (layW f N M (S i).nx n xs) ∧ Chg (lx (s i) (m i) (v i) pb ab) W w' := by
  refine ((h.sy i).lay hl n).mono ?_
  rintro e w' ⟨rfl, v', Y, old, c⟩
  exact ⟨rfl, v', h.one i Y old c, c⟩
/-- The arena is written by another. -/
theorem Tw.words (h : Tw B W s m v S p a pb ab N M f xs) {xs' : List Int} (hA : Ar.Has 72 W' a ab xs') (hl : xs'.length = M) (g : W.grownBy W' (some ab)) : Tw B W' s m v S p a pb ab N M f xs' := by
  refine ⟨fun i => ?_, h.ap⟩
  have y := h.sy i
  have c := Chg.one (X := fun k => k = ab) g rfl
  exact ⟨y.sp.chg c (fun k q => (y.ap.ft k q).2.2.2), y.fit, y.pool.chg c y.ap.pab y.ap.pbab, y.good, hA, hl, y.ap, Nat.le_trans y.hB g.size, y.vb⟩
end
def nt (b : Bool) : Nat := if b then 1 else 0
theorem Wd.tw {w0 W : World} {q p pb a ab y yb c N M : Nat} {f : Nat → Int} {ws : List Int} {s m x : Nat → Nat} (h : Wd w0 W q p pb a ab y yb c N f ws M s m x 2) (G : Good f N) (hl : ws.length = M) : Tw W.heap.size W (fun b => s (nt b)) (fun b => m (nt b)) (fun _ => nilS) (fun _ => S0.none) p a pb ab N M f ws := by
  have o := h.ord (by omega)
  refine ⟨fun i => h.sy G hl (nt i) (by cases i <;> simp [nt]), ?_⟩
  rintro k (q1 | q1 | q1) (q2 | q2 | q2)
  all_goals first | (simp [Value.ownBlock] at q1; done) | (simp [Value.ownBlock] at q2; done) | (simp only [nt] at q1 q2; simp at q1 q2; omega)
end Go.Proofs.Ytcallmfdigfhnaa
