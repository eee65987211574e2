/- The document's own Lay, in a new group. -/
import Derived.Test.YtcallmfdigfhnaaBpq
namespace Go.Proofs.Ytcallmfdigfhnaa
open Go.RowKit
set_option linter.unusedVariables false
set_option linter.unusedSimpArgs false

set_option maxRecDepth 100000 in
set_option maxHeartbeats 4000000 in
/-- No group can be had. -/
theorem rlay_full {w : World} {x y yb M N c : Nat} {r : Nat → Value} {S : S0} {f : Nat → Int} (h : Rs w x y M r S) (hnx : S.nx ≤ 1048576) (hR : Ref w y yb f N c) (G : Good f N) (hx : ∀ k, k = x ∨ ow r k → k ≠ yb) (n : Nat) (h1 : lft S.nx < n) (h2 : n ≤ 4096) (hM : M ≤ 524288) (ht : took f N M (blk n) = none) :
    Calls Try.prog 28 #[.pointer (some ⟨x, 0, none⟩), .int .i64 (n : Int)] w fun e w' => e = .returned (.tuple #[.int .i64 0, .int .i64 5]) ∧ Rs w' x y M r S ∧ Ref w' y yb f N c ∧ w.grownBy w' (some yb) := by
  have l64 := lft_lt S.nx
  have HS := Hid.mk h
  unfold Rs at h
  obtain ⟨en, hen⟩ : ∃ en, S.nx + lft S.nx = en := ⟨_, rfl⟩
  rw [hen] at h
  obtain ⟨c0, c1, c2, c3, c4, c5, c6, c7⟩ := h.cells
  have hb : 1 ≤ blk n ∧ blk n ≤ 64 := by unfold blk; omega
  have RA := ralloc_any (hR.later (w' := w.drew) ⟨rfl, rfl, rfl, Nat.le_refl _, fun _ _ => rfl⟩) G ((blk n : Nat) : Int) (by omega)
  have td : ((n : Int) + 63).tdiv 64 = ((blk n : Nat) : Int) := by unfold blk; rw [Int.tdiv_eq_ediv_of_nonneg (by omega)]; omega
  have hN := hR.len
  obtain ⟨X, hX⟩ : ∃ X, S.nx = X := ⟨_, rfl⟩
  rw [hX] at hen c6 hnx h1 l64
  have y1 : (en : Int) - X < n := by omega
  have y2 : (en : Int) ≤ 2000000 := by omega
  have y3 : (X : Int) ≤ en := by omega
  have y5 : decide ((n : Int) < 1) = false := by simp; omega
  have y6 : decide ((4096 : Int) < n) = false := by simp; omega
  have n1 : ¬ (((blk n : Nat) : Int) < 1) := by omega
  have K : ∀ {w' : World}, w.grownBy w' (some yb) → Rs w' x y M r S := fun g => by
    have := Rh.kept (X := fun k => k = yb) HS.out (Chg.one g rfl) (fun k q => hx k q)
    exact this
  have HK := Hid.mk (show ∀ w' : World, w.grownBy w' (some yb) → Rs w' x y M r S from fun w' g => K g)
  have HR := Hid.mk hR
  have HG := Hid.mk G
  unfold took at ht
  cases hf : fit f N ((blk n : Nat) : Int) with
  | none =>
    have e1 : allocA f N ((blk n : Nat) : Int) = 0 := by simp [allocA, hf]
    have e2 : allocE f N ((blk n : Nat) : Int) = 5 := by simp only [allocE, hf, if_neg n1]
    have e3 : allocF f N ((blk n : Nat) : Int) = f := by simp [allocF, hf]
    rw [e1, e2, e3] at RA
    have b2 : ((blk n : Nat) : Int) ≤ 64 := by omega
    generalize blk n = b at *
    clear h K hR G hf e1 e2 e3 ht hX
    go_enter Try.func28, Try.ntmps28
    go_wp2
    go_region
    go_wp2_with (go_at_call 27; refine RA.mono ?_; rintro e w1 ⟨rfl, R1, G1⟩)
    go_ret2
    have G2 : w.grownBy w1 (some yb) := ⟨G1.os, G1.tape, G1.output, G1.size, G1.block⟩
    exact ⟨rfl, HK.out _ G2, R1, G2⟩
  | some s =>
    rw [hf] at ht
    simp only at ht
    have hm : M < (s.1 + blk n) * 64 := by
      by_cases q : M < (s.1 + blk n) * 64
      · exact q
      · rw [if_neg q] at ht; cases ht
    have e1 : allocA f N ((blk n : Nat) : Int) = s.1 := by simp only [allocA, hf, if_neg n1]
    have e2 : allocE f N ((blk n : Nat) : Int) = 0 := by simp only [allocE, hf, if_neg n1]
    have e3 : allocF f N ((blk n : Nat) : Int) = mark f s.1 (blk n) s.1 := by simp only [allocF, hf, if_neg n1, Int.toNat_natCast]
    rw [e1, e2, e3] at RA
    obtain ⟨r1, r2⟩ := fit_some hf
    obtain ⟨r3, r4, r5⟩ := run_mem r1
    have FF := fit_free G hb.1 (show s.1 + blk n ≤ N by omega) (fun j q1 q2 => r5 j q1 (by omega))
    have GG : Good (mark f s.1 (blk n) s.1) N := good_alloc G (fun j q1 q2 => r5 j q1 (by omega))
    have sb : s.1 + blk n ≤ N := by omega
    obtain ⟨i, hi⟩ : ∃ i, s.1 = i := ⟨_, rfl⟩
    rw [hi] at RA FF GG hm sb
    have HFF := Hid.mk FF
    have HGG := Hid.mk GG
    have b2 : ((blk n : Nat) : Int) ≤ 64 := by omega
    generalize blk n = b at *
    have hm' : (M : Int) < 64 * ((i : Int) + b) := by omega
    clear h K hR G hf e1 e2 e3 ht hX r1 r2 r3 r4 r5 hi FF GG
    go_enter Try.func28, Try.ntmps28
    go_wp2
    go_region
    go_wp2_with (first
      | (go_at_call 27; refine RA.mono ?_; rintro e w1 ⟨rfl, R1, G1⟩; have G2 : w.grownBy w1 (some yb) := ⟨G1.os, G1.tape, G1.output, G1.size, G1.block⟩; have S1 := HK.out _ G2; obtain ⟨d0, d1, d2, d3, d4, d5, d6, d7⟩ := S1.cells; have FR := rfree_any R1 HGG.out (i : Int); rw [HFF.out.1, HFF.out.2] at FR; clear S1 RA)
      | (go_at_call 48; refine FR.mono ?_; rintro e w2 ⟨rfl, R2, G3⟩))
    go_ret2
    exact ⟨rfl, HK.out _ (grown_trans G2 G3), R2, grown_trans G2 G3⟩
end Go.Proofs.Ytcallmfdigfhnaa
