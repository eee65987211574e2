/- Spaces of one pool, as plain numbers: what is laid has words of its own, whatever is laid and given back. Nothing here speaks of a program. -/
import Derived.Test.YtbdoekffadmejaaGreatDoorBpa
namespace Go.Proofs.YtbdoekffadmejaaGreatDoor.Bp

set_option linter.unusedVariables false
set_option linter.unusedSimpArgs false

/-- Two things have no word in common. -/
def dis (x y : Nat × Nat) : Prop := x.1 + x.2 ≤ y.1 ∨ y.1 + y.2 ≤ x.1
theorem dis.symm {x y : Nat × Nat} (h : dis x y) : dis y x := by unfold dis at *; omega
def sizes (l : List (Nat × Nat)) : Nat := (l.map Prod.snd).sum
/-- What may be laid: in one block, or from a block's beginning on. -/
structure Pc (x : Nat × Nat) : Prop where
  pos : 1 ≤ x.2
  most : x.2 ≤ 4096
  far : 64 ≤ x.1
  big : 64 < x.2 → x.1 % 64 = 0
  small : x.2 ≤ 64 → x.1 % 64 + x.2 ≤ 64
/-- Spaces of a pool's row f with N blocks. -/
structure Sys {κ : Type} (f : Nat → Int) (N : Nat) (S : κ → S0) : Prop where
  good : Good f N
  zero : f 0 ≠ -1
  pc : ∀ k, ∀ x ∈ (S k).l, Pc x
  first : ∀ k, ∀ x ∈ (S k).l, ∃ y ∈ (S k).l, y.1 = x.1 / 64 * 64
  grp : ∀ k, ∀ x ∈ (S k).l, x.1 % 64 = 0 → x.1 / 64 + blk x.2 ≤ N ∧ ∀ b, b < N → (f b = ((x.1 / 64 : Nat) : Int) ↔ (x.1 / 64 ≤ b ∧ b < x.1 / 64 + blk x.2))
  row : ∀ k, (S k).l.Pairwise dis
  apart : ∀ k k', k ≠ k' → ∀ x ∈ (S k).l, ∀ y ∈ (S k').l, dis x y
  cur : ∀ k, 0 < lft (S k).nx → ∃ y ∈ (S k).l, y.1 = (S k).nx / 64 * 64 ∧ y.2 ≤ 64
  rest : ∀ k, 0 < lft (S k).nx → ∀ k', ∀ y ∈ (S k').l, dis y ((S k).nx, lft (S k).nx)
  two : ∀ k k', k ≠ k' → 0 < lft (S k).nx → 0 < lft (S k').nx → (S k).nx / 64 ≠ (S k').nx / 64
  us : ∀ k, (S k).us = sizes (S k).l
theorem dis_eq {x y : Nat × Nat} (h : dis x y) (hx : 1 ≤ x.2) (hy : 1 ≤ y.2) : x.1 ≠ y.1 := by unfold dis at h; omega
section
variable {κ : Type} {f : Nat → Int} {N : Nat} {S : κ → S0}
/-- Each word of what is laid is of a block that is taken, by the first thing of its block. -/
theorem Sys.owned (h : Sys f N S) {k : κ} {x : Nat × Nat} (hx : x ∈ (S k).l) {j : Nat} (h1 : x.1 ≤ j) (h2 : j < x.1 + x.2) : ∃ y ∈ (S k).l, y.1 % 64 = 0 ∧ y.1 = x.1 / 64 * 64 ∧ j / 64 < N ∧ f (j / 64) = ((y.1 / 64 : Nat) : Int) := by
  have p := h.pc k x hx
  by_cases hb : x.1 % 64 = 0
  · obtain ⟨g1, g2⟩ := h.grp k x hx hb
    have bb := blk_le x.2
    have bt : j / 64 < x.1 / 64 + blk x.2 := by omega
    exact ⟨x, hx, hb, by omega, by omega, (g2 _ (by omega)).2 ⟨by omega, bt⟩⟩
  · obtain ⟨y, hy, e⟩ := h.first k x hx
    have p3 := p.small (Classical.byContradiction fun q => absurd (p.big (by omega)) hb)
    have pp := p.pos
    have hy0 : y.1 % 64 = 0 := by omega
    obtain ⟨g1, g2⟩ := h.grp k y hy hy0
    have yp := (h.pc k y hy).pos
    have b1 : 1 ≤ blk y.2 := by unfold blk; omega
    have e2 : j / 64 = y.1 / 64 := by omega
    rw [e2]
    exact ⟨y, hy, hy0, e, by omega, (g2 _ (by omega)).2 ⟨by omega, by omega⟩⟩
theorem Sys.inside (h : Sys f N S) {k : κ} {x : Nat × Nat} (hx : x ∈ (S k).l) : x.1 + x.2 ≤ N * 64 := by
  have p := h.pc k x hx
  obtain ⟨y, _, _, _, h1, _⟩ := h.owned hx (j := x.1 + x.2 - 1) (by have := p.pos; omega) (by have := p.pos; omega)
  omega
theorem Sys.taken (h : Sys f N S) {k : κ} {x : Nat × Nat} (hx : x ∈ (S k).l) {j : Nat} (h1 : x.1 ≤ j) (h2 : j < x.1 + x.2) : f (j / 64) ≠ -1 := by
  obtain ⟨y, _, _, _, _, e⟩ := h.owned hx h1 h2
  rw [e]; omega
theorem Sys.curTaken (h : Sys f N S) {k : κ} (hk : 0 < lft (S k).nx) : f ((S k).nx / 64) ≠ -1 ∧ 64 ≤ (S k).nx ∧ (S k).nx / 64 < N := by
  obtain ⟨y, hy, e, h64⟩ := h.cur k hk
  have p := h.pc k y hy
  have := p.pos
  have t := h.taken hy (j := y.1) (Nat.le_refl _) (by omega)
  have i := h.inside hy
  have : y.1 / 64 = (S k).nx / 64 := by omega
  rw [this] at t
  have := p.far
  exact ⟨t, by omega, by omega⟩
theorem Sys.nodup (h : Sys f N S) (k : κ) {x y : Nat × Nat} (hx : x ∈ (S k).l) (hy : y ∈ (S k).l) : x = y ∨ dis x y := by
  have := h.row k
  rw [List.pairwise_iff_getElem] at this
  obtain ⟨i, hi, rfl⟩ := List.getElem_of_mem hx
  obtain ⟨j, hj, rfl⟩ := List.getElem_of_mem hy
  rcases Nat.lt_trichotomy i j with q | q | q
  · exact .inr (this i j hi hj q)
  · left; simp only [q]
  · exact .inr (this j i hj hi q).symm
/-- The same address: the same thing. -/
theorem Sys.same (h : Sys f N S) {k k' : κ} {x y : Nat × Nat} (hx : x ∈ (S k).l) (hy : y ∈ (S k').l) (e : x.1 = y.1) : k = k' ∧ x = y := by
  have px := (h.pc k x hx).pos
  have py := (h.pc k' y hy).pos
  by_cases q : k = k'
  · subst q
    rcases h.nodup k hx hy with r | r
    · exact ⟨rfl, r⟩
    · exact absurd e (dis_eq r px py)
  · exact absurd e (dis_eq (h.apart k k' q x hx y hy) px py)
end
theorem sizes_snoc (l : List (Nat × Nat)) (x : Nat × Nat) : sizes (l ++ [x]) = sizes l + x.2 := by simp [sizes]
theorem lft_in {nx j : Nat} (h1 : nx ≤ j) (h2 : j < nx + lft nx) : j / 64 = nx / 64 := by unfold lft blk at h2; omega
theorem lft_end {nx : Nat} (h : 0 < lft nx) : nx + lft nx = nx / 64 * 64 + 64 ∧ nx % 64 ≠ 0 := by unfold lft blk at *; omega
def updK {κ : Type} [DecidableEq κ] {α : Type} (h : κ → α) (i : κ) (x : α) : κ → α := fun k => if k = i then x else h k
section
variable {κ : Type} [DecidableEq κ] {α : Type} (h : κ → α)
theorem updK_same (i : κ) (x : α) : updK h i x i = x := by simp [updK]
theorem updK_ne {i k : κ} (e : k ≠ i) (x : α) : updK h i x k = h k := by simp [updK, e]
end
section
variable {κ : Type} [DecidableEq κ] {f : Nat → Int} {N : Nat} {S : κ → S0}
/-- What is laid next is new, and all is as it must be. -/
theorem Sys.lay (h : Sys f N S) (i : κ) {n : Nat} {x : Nat × (Nat → Int)} (hr : room f N (N * 64) (S i).nx n = some x) (h1 : 1 ≤ n) (h2 : n ≤ 4096) :
    Sys x.2 N (updK S i ((S i).add x.1 n)) ∧ (∀ k, ∀ y ∈ (S k).l, dis y (x.1, n)) ∧ 64 ≤ x.1 ∧ x.1 + n ≤ N * 64 := by
  have key : ∀ (S' : S0), S' = (S i).add x.1 n → S'.l = (S i).l ++ [(x.1, n)] ∧ S'.nx = (if n ≤ 64 then x.1 + n else (S i).nx) ∧ S'.us = (S i).us + n := by
    rintro S' rfl
    exact ⟨rfl, rfl, rfl⟩
  obtain ⟨kl, kn, ku⟩ := key _ rfl
  generalize (S i).add x.1 n = S' at *
  -- what is asked of f' and of the new thing
  have fin : ∀ (f' : Nat → Int) (a : Nat), Good f' N → f' 0 ≠ -1 → Pc (a, n) → a + n ≤ N * 64 → (∀ k, ∀ y ∈ (S k).l, dis y (a, n)) →
      (∀ k, ∀ y ∈ (S k).l, y.1 % 64 = 0 → ∀ b, b < N → (f' b = ((y.1 / 64 : Nat) : Int) ↔ f b = ((y.1 / 64 : Nat) : Int))) →
      ((∃ y ∈ (S i).l, y.1 = a / 64 * 64) ∨ a % 64 = 0) →
      (a % 64 = 0 → a / 64 + blk n ≤ N ∧ ∀ b, b < N → (f' b = ((a / 64 : Nat) : Int) ↔ (a / 64 ≤ b ∧ b < a / 64 + blk n))) →
      (∀ k, k ≠ i → 0 < lft (S k).nx → dis (a, n) ((S k).nx, lft (S k).nx)) →
      (64 < n → 0 < lft (S i).nx → dis (a, n) ((S i).nx, lft (S i).nx)) →
      (n ≤ 64 → 0 < lft (a + n) → (∃ y ∈ (S i).l ++ [(a, n)], y.1 = (a + n) / 64 * 64 ∧ y.2 ≤ 64) ∧ (∀ k, ∀ y ∈ (S k).l, dis y (a + n, lft (a + n))) ∧ ∀ k, k ≠ i → 0 < lft (S k).nx → (S k).nx / 64 ≠ (a + n) / 64) →
      a = x.1 → Sys f' N (updK S i S') := by
    intro f' a G0 z0 pa ha dd gold hfirst hgrp hr1 hr2 hcur ea
    subst ea
    refine ⟨G0, z0, ?_, ?_, ?_, ?_, ?_, ?_, ?_, ?_, ?_⟩
    · intro k y hy
      by_cases q : k = i
      · subst q; rw [updK_same, kl] at hy
        rcases List.mem_append.1 hy with r | r
        · exact h.pc k y r
        · simp only [List.mem_singleton] at r; subst r; exact pa
      · rw [updK_ne S q] at hy; exact h.pc k y hy
    · intro k y hy
      by_cases q : k = i
      · subst q; rw [updK_same, kl] at hy ⊢
        rcases List.mem_append.1 hy with r | r
        · obtain ⟨z, hz, e⟩ := h.first k y r; exact ⟨z, List.mem_append_left _ hz, e⟩
        · simp only [List.mem_singleton] at r; subst r
          rcases hfirst with ⟨z, hz, e⟩ | e
          · exact ⟨z, List.mem_append_left _ hz, e⟩
          · exact ⟨(x.1, n), List.mem_append_right _ (by simp), by simp only; omega⟩
      · rw [updK_ne S q] at hy ⊢; exact h.first k y hy
    · intro k y hy h0
      by_cases q : k = i
      · subst q; rw [updK_same, kl] at hy
        rcases List.mem_append.1 hy with r | r
        · obtain ⟨g1, g2⟩ := h.grp k y r h0; exact ⟨g1, fun b hb => (gold k y r h0 b hb).trans (g2 b hb)⟩
        · simp only [List.mem_singleton] at r; subst r; exact hgrp h0
      · rw [updK_ne S q] at hy
        obtain ⟨g1, g2⟩ := h.grp k y hy h0; exact ⟨g1, fun b hb => (gold k y hy h0 b hb).trans (g2 b hb)⟩
    · intro k
      by_cases q : k = i
      · subst q; rw [updK_same, kl]
        rw [List.pairwise_append]
        exact ⟨h.row k, by simp, fun y hy z hz => by simp only [List.mem_singleton] at hz; subst hz; exact dd k y hy⟩
      · rw [updK_ne S q]; exact h.row k
    · intro k k' hk y hy z hz
      by_cases q : k = i
      · have q' : k' ≠ i := fun e => hk (q.trans e.symm)
        rw [updK_ne S q'] at hz
        subst q; rw [updK_same, kl] at hy
        rcases List.mem_append.1 hy with r | r
        · exact h.apart k k' hk y r z hz
        · simp only [List.mem_singleton] at r; subst r; exact (dd k' z hz).symm
      · rw [updK_ne S q] at hy
        by_cases q' : k' = i
        · subst q'; rw [updK_same, kl] at hz
          rcases List.mem_append.1 hz with r | r
          · exact h.apart k k' hk y hy z r
          · simp only [List.mem_singleton] at r; subst r; exact dd k y hy
        · rw [updK_ne S q'] at hz; exact h.apart k k' hk y hy z hz
    · intro k hk
      by_cases q : k = i
      · subst q; rw [updK_same, kn] at hk; rw [updK_same, kn, kl]
        split at hk
        · rename_i h64
          rw [if_pos h64]
          exact (hcur h64 hk).1
        · rename_i h64
          rw [if_neg h64]
          obtain ⟨y, hy, e⟩ := h.cur k hk
          exact ⟨y, List.mem_append_left _ hy, e⟩
      · rw [updK_ne S q] at hk ⊢; exact h.cur k hk
    · intro k hk k' y hy
      have old : ∀ k', y ∈ (updK S i S' k').l → (∃ k'', y ∈ (S k'').l) ∨ y = (x.1, n) := by
        intro k' hy
        by_cases q : k' = i
        · subst q; rw [updK_same, kl] at hy
          rcases List.mem_append.1 hy with r | r
          · exact .inl ⟨k', r⟩
          · simp only [List.mem_singleton] at r; exact .inr r
        · rw [updK_ne S q] at hy; exact .inl ⟨k', hy⟩
      by_cases q : k = i
      · subst q; rw [updK_same, kn] at hk ⊢
        split at hk
        · rename_i h64
          rw [if_pos h64]
          rcases old k' hy with ⟨k'', r⟩ | r
          · exact (hcur h64 hk).2.1 k'' y r
          · subst r; exact .inl (Nat.le_refl _)
        · rename_i h64
          rw [if_neg h64]
          rcases old k' hy with ⟨k'', r⟩ | r
          · exact h.rest k hk k'' y r
          · subst r; exact hr2 (by omega) hk
      · rw [updK_ne S q] at hk ⊢
        rcases old k' hy with ⟨k'', r⟩ | r
        · exact h.rest k hk k'' y r
        · subst r; exact hr1 k q hk
    · intro k k' hk l1 l2
      by_cases q : k = i
      · have q' : k' ≠ i := fun e => hk (q.trans e.symm)
        rw [updK_ne S q'] at l2 ⊢
        subst q; rw [updK_same, kn] at l1 ⊢
        split at l1
        · rename_i h64
          rw [if_pos h64]; exact fun e => (hcur h64 l1).2.2 k' q' l2 e.symm
        · rename_i h64
          rw [if_neg h64]; exact h.two k k' hk l1 l2
      · rw [updK_ne S q] at l1 ⊢
        by_cases q' : k' = i
        · subst q'; rw [updK_same, kn] at l2 ⊢
          split at l2
          · rename_i h64
            rw [if_pos h64]; exact (hcur h64 l2).2.2 k q l1
          · rename_i h64
            rw [if_neg h64]; exact h.two k k' hk l1 l2
        · rw [updK_ne S q'] at l2 ⊢; exact h.two k k' hk l1 l2
    · intro k
      by_cases q : k = i
      · subst q; rw [updK_same, ku, kl, sizes_snoc, h.us k]
      · rw [updK_ne S q]; exact h.us k
  unfold room at hr
  split at hr
  · rename_i hl
    simp only [Option.some.injEq] at hr
    subst hr
    simp only at *
    have l0 : 0 < lft (S i).nx := by omega
    have le := lft_end l0
    have l64 := lft_lt (S i).nx
    obtain ⟨t1, t2, t3⟩ := h.curTaken l0
    obtain ⟨y0, hy0, e0, s0⟩ := h.cur i l0
    have ra : ∀ k, ∀ y ∈ (S k).l, dis y ((S i).nx, n) := by
      intro k y hy
      have := h.rest i l0 k y hy
      unfold dis at *; simp only at *; omega
    refine ⟨fin f (S i).nx h.good h.zero ⟨h1, h2, t2, fun q => by simp only at q; omega, fun _ => by simp only; omega⟩ (by omega) ra (fun k y _ _ b _ => Iff.rfl) (.inl ⟨y0, hy0, e0⟩) (fun q => absurd q le.2) ?_ (fun q => by omega) ?_ rfl, ra, t2, by omega⟩
    · intro k hk hl'
      have d := h.two k i hk hl' l0
      have le' := lft_end hl'
      unfold dis; simp only; omega
    · intro h64 hl'
      have le2 := lft_end hl'
      have lf : lft ((S i).nx + n) = lft (S i).nx - n := by unfold lft blk at *; omega
      have e2 : ((S i).nx + n) / 64 = (S i).nx / 64 := by omega
      refine ⟨⟨y0, List.mem_append_left _ hy0, by rw [e2]; exact e0, s0⟩, fun k y hy => ?_, fun k hk hlk => by rw [e2]; exact h.two k i hk hlk l0⟩
      have := h.rest i l0 k y hy
      rw [lf]
      unfold dis at *; simp only at *; omega
  · rename_i hl
    split at hr
    · cases hr
    · rename_i s hs
      split at hr
      · cases hr
      · rename_i hm
        simp only [Option.some.injEq] at hr
        subst hr
        simp only at *
        obtain ⟨r1, r2⟩ := fit_some hs
        obtain ⟨r3, r4, r5⟩ := run_mem r1
        have bn := blk_le n
        have bt := blk_lt n
        have fr : ∀ b, s.1 ≤ b → b < s.1 + blk n → f b = -1 := fun b q1 q2 => r5 b q1 (by omega)
        have b1 : 1 ≤ blk n := by omega
        have sN : s.1 + blk n ≤ N := by omega
        have s0 : s.1 ≠ 0 := fun e => h.zero (by have := fr s.1 (Nat.le_refl _) (by omega); rw [e] at this; exact this)
        have G' : Good (mark f s.1 (blk n) s.1) N := good_alloc h.good (fun j a b => fr j a b)
        have tk : ∀ b, f b ≠ -1 → mark f s.1 (blk n) s.1 b = f b ∧ ¬ (s.1 ≤ b ∧ b < s.1 + blk n) := by
          intro b hb
          have : ¬ (s.1 ≤ b ∧ b < s.1 + blk n) := fun q => hb (fr b q.1 q.2)
          exact ⟨mark_out this, this⟩
        have dd : ∀ k, ∀ y ∈ (S k).l, dis y (s.1 * 64, n) := by
          intro k y hy
          have py := (h.pc k y hy).pos
          have a1 := (tk _ (h.taken hy (j := y.1) (Nat.le_refl _) (by omega))).2
          by_cases q : y.1 + y.2 ≤ s.1 * 64
          · exact .inl q
          · by_cases q2 : s.1 * 64 + n ≤ y.1
            · exact .inr q2
            · exfalso
              by_cases q3 : y.1 ≤ s.1 * 64
              · have := (tk _ (h.taken hy (j := s.1 * 64) q3 (by omega))).2
                omega
              · omega
        have rr : ∀ k, 0 < lft (S k).nx → dis (s.1 * 64, n) ((S k).nx, lft (S k).nx) := by
          intro k hk
          have a1 := (tk _ (h.curTaken hk).1).2
          have le' := lft_end hk
          unfold dis; simp only; omega
        refine ⟨fin _ (s.1 * 64) G' (by rw [(tk 0 h.zero).1]; exact h.zero) ⟨h1, h2, by simp only; omega, fun _ => by simp only; omega, fun _ => by simp only; omega⟩ (by omega) dd ?_ (.inr (by omega)) ?_ (fun k hk hlk => rr k hlk) (fun _ hlk => rr i hlk) ?_ rfl, dd, by omega, by omega⟩
        · intro k y hy h0 b hb
          by_cases q : s.1 ≤ b ∧ b < s.1 + blk n
          · rw [mark_in q.1 q.2, fr b q.1 q.2]
            have py := (h.pc k y hy).pos
            have a1 := (tk _ (h.taken hy (j := y.1) (Nat.le_refl _) (by omega))).2
            constructor
            · intro e; omega
            · intro e; omega
          · rw [mark_out q]
        · intro _
          rw [show s.1 * 64 / 64 = s.1 by omega]
          refine ⟨sN, fun b hb => ?_⟩
          by_cases q : s.1 ≤ b ∧ b < s.1 + blk n
          · rw [mark_in q.1 q.2]; exact ⟨fun _ => q, fun _ => rfl⟩
          · rw [mark_out q]
            refine ⟨fun e => ?_, fun e => absurd e q⟩
            exfalso
            have := fr s.1 (Nat.le_refl _) (by omega)
            rcases h.good b hb with e' | ⟨_, e1, e2⟩
            · omega
            · have := e2 s.1 (by omega) (by omega); omega
        · intro h64 hl'
          have le2 := lft_end hl'
          have e2 : (s.1 * 64 + n) / 64 = s.1 := by omega
          refine ⟨⟨(s.1 * 64, n), List.mem_append_right _ (by simp), by simp only; rw [e2], h64⟩, fun k y hy => ?_, fun k hk hlk => ?_⟩
          · have py := (h.pc k y hy).pos
            have d := dd k y hy
            rcases d with d | d
            · left; simp only at *; omega
            · simp only at d
              have a1 := (tk _ (h.taken hy (j := y.1) (Nat.le_refl _) (by omega))).2
              right; simp only; omega
          · rw [e2]
            have a1 := (tk _ (h.curTaken hlk).1).2
            omega
end
end Go.Proofs.YtbdoekffadmejaaGreatDoor.Bp
