/- A space with its pool and arena, call by call; what must come at any rate. -/
import Derived.Test.YtbdoekffadmejaaGreatDoorBpf
namespace Go.Proofs.YtbdoekffadmejaaGreatDoor.Bp
open Go.RowKit
set_option linter.unusedVariables false
set_option linter.unusedSimpArgs false

/-- A space with its pool and its arena; its list lies at or beyond B. -/
structure Sy (B : Nat) (W : World) (s p a m pb ab N M : Nat) (v : Value) (S : S0) (f : Nat → Int) (xs : List Int) : Prop where
  sp : Sp W s p a m v S
  fit : Fit S M
  pool : Has 182 W p pb f N
  good : Good f N
  arena : Ar.Has 169 W a ab xs
  len : xs.length = M
  ap : Ap s m v p pb a ab
  hB : B ≤ W.heap.size
  vb : ∀ k, v.ownBlock = some k → B ≤ k
section
variable {B : Nat} {W W' : World} {s p a m pb ab N M : Nat} {v : Value} {S : S0} {f : Nat → Int} {xs : List Int}
theorem Sy.later (h : Sy B W s p a m pb ab N M v S f xs) (b : Below W.heap.size W W') : Sy B W' s p a m pb ab N M v S f xs :=
  ⟨h.sp.later b, h.fit, h.pool.later b, h.good, h.arena.chg (Chg.later (X := fun _ => False) b) (by simp) (by simp), h.len, h.ap, Nat.le_trans h.hB b.size, h.vb⟩
theorem Sy.lay (h : Sy B W s p a m pb ab N M v S f xs) (hl : S.l.length ≤ 1000) (n : Int) :
    Calls Tryz.prog 119 #[.pointer (some ⟨s, 0, none⟩), .int .i64 n] W fun e w' =>
      e = .returned (.tuple #[.int .i64 (layA f N M S.nx n), .int .i64 (layE f N M S.nx n)]) ∧
      ∃ v', Sy B w' s p a m pb ab N M v' (layS f N M S n) (layF f N M S.nx n) (layW f N M S.nx n xs) ∧ (∀ k, v'.ownBlock = some k → v.ownBlock = some k ∨ W.heap.size ≤ k) ∧ Chg (lx s m v pb ab) W w' := by
  have L := lay_any h.sp (h.len.symm ▸ h.fit) hl h.pool h.good h.arena h.ap n
  rw [h.len] at L
  refine L.mono ?_
  rintro e w' ⟨rfl, v', L⟩
  refine ⟨rfl, v', ⟨L.sp, fit_lay h.fit n, L.pool, good_lay h.good n, L.arena, len_lay h.len h.fit.nx, h.ap.laid L h.pool.lt.1 h.pool.lt.2 h.arena.lt.1 h.arena.lt.2, Nat.le_trans h.hB L.chg.size, fun k e => ?_⟩, L.old, L.chg⟩
  rcases L.old k e with q | q
  · exact h.vb k q
  · have := h.hB; omega
theorem Sy.below {n : Nat} {w : World} (h : Sy B W s p a m pb ab N M v S f xs) (c : Chg (lx s m v pb ab) W W') (b : Below n w W) (hn : n ≤ B ∧ n ≤ s ∧ n ≤ m ∧ n ≤ pb ∧ n ≤ ab) : Below n w W' := by
  refine Chg.below b c (by have := h.hB; omega) ?_
  rintro k ((e | e | e) | e | e)
  · omega
  · omega
  · have := h.vb k e; omega
  · omega
  · omega
/-- What lies below and is none of its blocks stays. -/
theorem Sy.stays (h : Sy B W s p a m pb ab N M v S f xs) (c : Chg (lx s m v pb ab) W W') {k : Nat} (hk : k < B) (h1 : k ≠ s) (h2 : k ≠ m) (h3 : k ≠ pb) (h4 : k ≠ ab) : W'.heap[k]? = W.heap[k]? := by
  refine c.block k (by have := h.hB; omega) ?_
  rintro ((e | e | e) | e | e)
  · exact h1 e
  · exact h2 e
  · have := h.vb k e; omega
  · exact h3 e
  · exact h4 e
end
end Go.Proofs.YtbdoekffadmejaaGreatDoor.Bp
