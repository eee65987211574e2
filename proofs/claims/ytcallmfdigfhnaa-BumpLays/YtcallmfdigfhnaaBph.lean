/- A space with its pool and arena, call by call; what must come at any rate. -/
import Derived.Test.YtcallmfdigfhnaaBpg
namespace Go.Proofs.Ytcallmfdigfhnaa
open Go.RowKit
set_option linter.unusedVariables false
set_option linter.unusedSimpArgs false

/-- A space with its pool and its arena; its list lies at or beyond B. -/
structure Sy (B : Nat) (W : World) (s p a m pb ab N M : Nat) (v : Value) (S : S0) (f : Nat → Int) (xs : List Int) : Prop where
  sp : Sp W s p a m v S
  fit : Fit S M
  pool : Has 85 W p pb f N
  good : Good f N
  arena : Ar.Has 72 W a ab xs
  len : xs.length = M
  ap : Ap s m v p pb a ab
  hB : B ≤ W.heap.size
  vb : ∀ k, v.ownBlock = some k → B ≤ k
section
variable {B : Nat} {W W' : World} {s p a m pb ab N M : Nat} {v : Value} {S : S0} {f : Nat → Int} {xs : List Int}
theorem Sy.later (h : Sy B W s p a m pb ab N M v S f xs) (b : Below W.heap.size W W') : Sy B W' s p a m pb ab N M v S f xs :=
  ⟨h.sp.later b, h.fit, h.pool.later b, h.good, h.arena.chg (Chg.later (X := fun _ => False) b) (by simp) (by simp), h.len, h.ap, Nat.le_trans h.hB b.size, h.vb⟩
theorem Sy.lay (h : Sy B W s p a m pb ab N M v S f xs) (hl : S.l.length ≤ 1000) (n : Int) :
    Calls Try.prog 13 #[.pointer (some ⟨s, 0, none⟩), .int .i64 n] W fun e w' =>
      e = .returned (.tuple #[.int .i64 (layA f N M S.nx n), .int .i64 (layE f N M S.nx n)]) ∧
      ∃ v', Sy B w' s p a m pb ab N M v' (layS f N M S n) (layF f N M S.nx n) (layW f N M S.nx n xs) ∧ (∀ k, v'.ownBlock = some k → v.ownBlock = some k ∨ W.heap.size ≤ k) ∧ Chg (lx s m v pb ab) W w' := by
  have L := lay_any h.sp (h.len.symm ▸ h.fit) hl h.pool h.good h.arena h.ap n
  rw [h.len] at L
  refine L.mono ?_
  rintro e w' ⟨rfl, v', L⟩
  refine ⟨rfl, v', ⟨L.sp, fit_lay h.fit n, L.pool, good_lay h.good n, L.arena, len_lay h.len h.fit.nx, h.ap.laid L h.pool.lt.1 h.pool.lt.2 h.arena.lt.1 h.arena.lt.2, Nat.le_trans h.hB L.chg.size, fun k e => ?_⟩, L.old, L.chg⟩
  rcases L.old k e with q | q
  · exact h.vb k q
  · have := h.hB; omega
theorem Sy.below {n : Nat} {w : World} (h : Sy B W s p a m pb ab N M v S f xs) (c : Chg (lx s m v pb ab) W W') (b : Below n w W) (hn : n ≤ B ∧ n ≤ s ∧ n ≤ m ∧ n ≤ pb ∧ n ≤ ab) : Below n w W' := by
  refine Chg.below b c (by have := h.hB; omega) ?_
  rintro k ((e | e | e) | e | e)
  · omega
  · omega
  · have := h.vb k e; omega
  · omega
  · omega
/-- What lies below and is none of its blocks stays. -/
theorem Sy.stays (h : Sy B W s p a m pb ab N M v S f xs) (c : Chg (lx s m v pb ab) W W') {k : Nat} (hk : k < B) (h1 : k ≠ s) (h2 : k ≠ m) (h3 : k ≠ pb) (h4 : k ≠ ab) : W'.heap[k]? = W.heap[k]? := by
  refine c.block k (by have := h.hB; omega) ?_
  rintro ((e | e | e) | e | e)
  · exact h1 e
  · exact h2 e
  · have := h.vb k e; omega
  · exact h3 e
  · exact h4 e
end
/-- The first space of two that were made. -/
theorem Wd.sy {w0 W : World} {q p pb a ab y yb c N M : Nat} {f : Nat → Int} {ws : List Int} {s m x : Nat → Nat} (h : Wd w0 W q p pb a ab y yb c N f ws M s m x 2) (G : Good f N) (hl : ws.length = M) (i : Nat) (hi : i < 2) : Sy W.heap.size W (s i) p a (m i) pb ab N M nilS S0.none f ws := by
  have u := h.up
  have t := h.hi i hi
  refine ⟨h.sps i hi, Fit.none _, h.pool, G, h.arena, hl, ⟨?_, h.ap.1, h.ap.2.1, h.ap.2.2.1, h.ap.2.2.2.1⟩, Nat.le_refl _, fun k e => by simp [Value.ownBlock] at e⟩
  rintro k (rfl | rfl | e)
  · omega
  · omega
  · simp [Value.ownBlock] at e
theorem Wd.c2 {w0 W : World} {q p pb a ab y yb c N M : Nat} {f : Nat → Int} {ws : List Int} {s m x : Nat → Nat} (h : Wd w0 W q p pb a ab y yb c N f ws M s m x 2) {W' : World} (e : W'.heap[q]? = W.heap[q]?) :
    W'.cell? ⟨q, 2, none⟩ = some (.pointer (some ⟨s 0, 0, none⟩)) := by rw [Joins.cell_of_block (e.trans h.box)]; simp [spt, pt]
/-! ### awake -/
def wk1 : S0 := layS (f1 4) 4 256 S0.none 3
def wf1 : Nat → Int := layF (f1 4) 4 256 S0.none.nx 3
def wk2 : S0 := layS wf1 4 256 wk1 60
def wf2 : Nat → Int := layF wf1 4 256 wk1.nx 60
def wk3 : S0 := layS wf2 4 256 wk2 2
def wf3 : Nat → Int := layF wf2 4 256 wk2.nx 2
def wk4 : S0 := layS wf3 4 256 wk3 70
theorem wakeA : layA (f1 4) 4 256 S0.none.nx 3 = 64 ∧ layA wf1 4 256 wk1.nx 60 = 67 ∧ layA wf2 4 256 wk2.nx 2 = 128 ∧ layE wf3 4 256 wk3.nx 70 = 5 ∧ (wk4.bl : Int) = 2 ∧ hasL wk4.l 67 = true ∧ wk1.l.length = 1 ∧ wk2.l.length = 2 ∧ wk3.l.length = 3 := by decide +kernel
set_option maxRecDepth 100000 in
set_option maxHeartbeats 2000000 in
theorem awake_any (w : World) : Calls Try.prog 9 #[] w fun e w' => e = .returned (.bool true) ∧ Below w.heap.size w w' := by
  obtain ⟨a1, a2, a3, a4, a5, a6, a7, a8, a9⟩ := wakeA
  have MD := made_any w 4 256 (by decide) (by decide) (by decide) (by decide)
  go_enter Try.func9, Try.ntmps9
  go_wp2_with (first
    | (go_at_call 8; refine MD.mono ?_; rintro e w1 ⟨q, p, pb, a, ab, y, yb, c, s, m, x, rfl, D⟩; have HD := Hid.mk D; have Y1 := D.sy (f1_good 4) (by simp) 0 (by omega); have hh := D.hi 0 (by omega); have uu := D.up; have lo := D.lo; have lq := D.ltq; have k2 := D.c2 rfl; have L1 := Y1.lay (by simp [S0.none]) 3; rw [a1] at L1; have HY1 := Hid.mk Y1; have HB1 := Hid.mk D.bel; unfold pt; clear D MD Y1)
    | (go_at_call_of 13 (Value.int IntKind.i64 3); refine L1.mono ?_; rintro e w2 ⟨rfl, v2, Y2', O2, C2⟩; have Y2 : Sy _ w2 (s 0) p a (m 0) pb ab 4 256 v2 wk1 wf1 _ := Y2'; clear Y2'; have E2 := HY1.out.stays C2 lq (by omega) (by omega) (by omega) (by omega); have k3 := HD.out.c2 E2; have L2 := Y2.lay (show wk1.l.length ≤ 1000 by omega) 60; rw [a2] at L2; have HY2 := Hid.mk Y2; clear L1 Y2 k2)
    | (go_at_call_of 13 (Value.int IntKind.i64 60); refine L2.mono ?_; rintro e w3 ⟨rfl, v3, Y3', O3, C3⟩; have Y3 : Sy _ w3 (s 0) p a (m 0) pb ab 4 256 v3 wk2 wf2 _ := Y3'; clear Y3'; have E3 := (HY2.out.stays C3 lq (by omega) (by omega) (by omega) (by omega)).trans E2; have k4 := HD.out.c2 E3; have L3 := Y3.lay (show wk2.l.length ≤ 1000 by omega) 2; rw [a3] at L3; have HY3 := Hid.mk Y3; clear L2 Y3 k3)
    | (go_at_call_of 13 (Value.int IntKind.i64 2); refine L3.mono ?_; rintro e w4 ⟨rfl, v4, Y4', O4, C4⟩; have Y4 : Sy _ w4 (s 0) p a (m 0) pb ab 4 256 v4 wk3 wf3 _ := Y4'; clear Y4'; have E4 := (HY3.out.stays C4 lq (by omega) (by omega) (by omega) (by omega)).trans E3; have k5 := HD.out.c2 E4; have L4 := Y4.lay (show wk3.l.length ≤ 1000 by omega) 70; rw [a4] at L4; have HY4 := Hid.mk Y4; clear L3 Y4 k4)
    | (go_at_call_of 13 (Value.int IntKind.i64 70); refine L4.mono ?_; rintro e w5 ⟨rfl, v5, Y5', O5, C5⟩; have Y5 : Sy _ w5 (s 0) p a (m 0) pb ab 4 256 v5 wk4 _ _ := Y5'; clear Y5'; have E5 := (HY4.out.stays C5 lq (by omega) (by omega) (by omega) (by omega)).trans E4; have k6 := HD.out.c2 E5; have BL := blocks_any Y5.sp; rw [a5] at BL; have HA := has_any Y5.sp 67 (by unfold isI; omega); rw [show ((67 : Int)).toNat = 67 from rfl, a6] at HA; clear L4 Y5 k5)
    | (go_at_call 15; refine BL.mono ?_; rintro e w6 ⟨rfl, hw⟩; rw [hw]; clear hw)
    | (go_at_call 24; refine HA.mono ?_; rintro e w6 ⟨rfl, hw⟩; rw [hw]; clear hw))
  go_ret
  have nn : w.heap.size ≤ w1.heap.size ∧ w.heap.size ≤ s 0 ∧ w.heap.size ≤ m 0 ∧ w.heap.size ≤ pb ∧ w.heap.size ≤ ab := by omega
  exact ⟨rfl, HY4.out.below C5 (HY3.out.below C4 (HY2.out.below C3 (HY1.out.below C2 HB1.out nn) nn) nn) nn⟩
end Go.Proofs.Ytcallmfdigfhnaa
