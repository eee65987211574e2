/- Package bump: Lay, for whatever number. -/
import Derived.Test.YtbdoekffadmejaaGreatDoorBpd
namespace Go.Proofs.YtbdoekffadmejaaGreatDoor.Bp
open Go.RowKit
set_option linter.unusedVariables false
set_option linter.unusedSimpArgs false

/-- A space's blocks are none of its pool's and its arena's. -/
structure Ap (s m : Nat) (v : Value) (p pb a ab : Nat) : Prop where
  ft : ∀ k, ft s m v k → k ≠ p ∧ k ≠ pb ∧ k ≠ a ∧ k ≠ ab
  pa : p ≠ a
  pab : p ≠ ab
  pba : pb ≠ a
  pbab : pb ≠ ab
def lx (s m : Nat) (v : Value) (pb ab k : Nat) : Prop := ft s m v k ∨ k = pb ∨ k = ab
/-- What Lay leaves. -/
structure Laid (w w' : World) (s p a m pb ab N : Nat) (v v' : Value) (S : S0) (f : Nat → Int) (xs : List Int) : Prop where
  sp : Sp w' s p a m v' S
  old : ∀ k, v'.ownBlock = some k → v.ownBlock = some k ∨ w.heap.size ≤ k
  pool : Has 182 w' p pb f N
  arena : Ar.Has 169 w' a ab xs
  chg : Chg (lx s m v pb ab) w w'
theorem Ap.laid {w w' : World} {s p a m pb ab N : Nat} {v v' : Value} {S : S0} {f : Nat → Int} {xs : List Int} (h : Ap s m v p pb a ab) (L : Laid w w' s p a m pb ab N v v' S f xs) (hp : p < w.heap.size) (hpb : pb < w.heap.size) (ha : a < w.heap.size) (hab : ab < w.heap.size) : Ap s m v' p pb a ab := by
  refine ⟨?_, h.pa, h.pab, h.pba, h.pbab⟩
  rintro k (rfl | rfl | e)
  · exact h.ft _ (.inl rfl)
  · exact h.ft _ (.inr (.inl rfl))
  · rcases L.old k e with q | q
    · exact h.ft k (.inr (.inr q))
    · omega
set_option maxHeartbeats 1000000 in
theorem lay_any {w : World} {s p a m pb ab N : Nat} {v : Value} {S : S0} {f : Nat → Int} {xs : List Int} (h : Sp w s p a m v S) (F : Fit S xs.length) (hl : S.l.length ≤ 1000) (hP : Has 182 w p pb f N) (G : Good f N) (hA : Ar.Has 169 w a ab xs) (A : Ap s m v p pb a ab) (n : Int) :
    Calls Tryz.prog 119 #[.pointer (some ⟨s, 0, none⟩), .int .i64 n] w fun e w' =>
      e = .returned (.tuple #[.int .i64 (layA f N xs.length S.nx n), .int .i64 (layE f N xs.length S.nx n)]) ∧
      ∃ v', Laid w w' s p a m pb ab N v v' (layS f N xs.length S n) (layF f N xs.length S.nx n) (layW f N xs.length S.nx n xs) := by
  by_cases hn : 1 ≤ n ∧ n ≤ 4096
  · obtain ⟨k, rfl⟩ : ∃ k : Nat, n = k := ⟨n.toNat, by omega⟩
    have h1 : 1 ≤ k := by omega
    have h2 : k ≤ 4096 := by omega
    unfold layA layE layS layF layW
    simp only [if_pos hn, Int.toNat_natCast]
    have hM := hA.len
    have hnx : S.nx ≤ 1048576 := by have := F.nx; have := blk_le S.nx; omega
    have RM := room_any h hP G hA (fun j q => (A.ft j q).2.1) A.pba.symm A.pbab.symm hnx k h1 h2
    have HS := Hid.mk h
    have HA := Hid.mk hA
    have HAp := Hid.mk A
    have us := F.us
    have bl := F.bl
    have n0 : decide ((k : Int) < 1) = false := by simp; omega
    have n1 : decide ((4096 : Int) < k) = false := by simp; omega
    cases hr : room f N xs.length S.nx k with
    | none =>
      rw [hr] at RM
      simp only [oA, oE, oF] at RM ⊢
      clear hr h hA A hP G F hn
      go_enter Tryz.func119, Tryz.ntmps119
      go_wp2_with (go_at_call 163; refine RM.mono ?_; rintro e w1 ⟨rfl, H1, G1⟩)
      go_ret2
      have c := Chg.one (X := fun j => j = pb) G1 rfl
      exact ⟨rfl, v, HS.out.chg c (fun j q => (HAp.out.ft j q).2.1), fun j q => .inl q, H1, HA.out.chg c HAp.out.pba.symm HAp.out.pbab.symm, Chg.one G1 (.inr (.inl rfl))⟩
    | some x =>
      obtain ⟨i, f'⟩ := x
      have ri := room_in hr F.nx
      rw [hr] at RM
      simp only [oA, oE, oF] at RM ri ⊢
      have hi : i + k ≤ xs.length := ri.1
      clear hr h hA A hP G F hn ri
      go_enter Tryz.func119, Tryz.ntmps119
      go_wp2_with (first
        | (go_at_call 163; refine RM.mono ?_; rintro e w1 ⟨rfl, H1, G1⟩; have c1 := Hid.mk (Chg.one (X := lx s m v pb ab) G1 (.inr (.inl rfl))); have cc := Chg.one (X := fun j => j = pb) G1 rfl; have S1 := HS.out.chg cc (fun j q => (HAp.out.ft j q).2.1); have k1 := S1.c1; have HS1 := Hid.mk S1; have HP1 := Hid.mk H1; have CL := Ar.clear_in (HA.out.chg cc HAp.out.pba.symm HAp.out.pbab.symm) i k hi (by omega); clear S1 H1 cc RM)
        | (go_at_call 129; refine CL.mono ?_; rintro e w2 ⟨rfl, H2, G2⟩; have c2 := Hid.mk (Chg.one (X := lx s m v pb ab) G2 (.inr (.inr rfl))); have cc := Chg.one (X := fun j => j = ab) G2 rfl; have S2 := HS1.out.chg cc (fun j q => (HAp.out.ft j q).2.2.2); have HP2 := Hid.mk (HP1.out.chg cc HAp.out.pab HAp.out.pbab); have HA2 := Hid.mk H2; have NT := note_any S2 hl i k (by omega) (by omega) (by omega) (by omega); clear CL H2 cc S2)
        | (go_at_call 164; refine NT.mono ?_; rintro e w3 ⟨⟨u, rfl⟩, ⟨v', S3, old3⟩, C3⟩))
      go_ret2
      have sz1 := c1.out.size
      have sz2 := c2.out.size
      refine ⟨rfl, v', S3, fun j q => ?_, HP2.out.chg C3 (fun q => (HAp.out.ft _ q).1 rfl) (fun q => (HAp.out.ft _ q).2.1 rfl), HA2.out.chg C3 (fun q => (HAp.out.ft _ q).2.2.1 rfl) (fun q => (HAp.out.ft _ q).2.2.2 rfl), c1.out.trans (c2.out.trans (C3.mono (fun j _ q => .inl q)))⟩
      rcases old3 j q with q | q
      · exact .inl q
      · exact .inr (by omega)
  · unfold layA layE layS layF layW
    simp only [if_neg hn]
    have HH := Hid.mk (show Laid w w s p a m pb ab N v v S f xs from ⟨h, fun j q => .inl q, hP, hA, Chg.refl _ _⟩)
    clear h F hP G hA A
    by_cases h0 : n < 1
    · go_enter Tryz.func119, Tryz.ntmps119
      go_wp2
      go_ret2
      exact ⟨rfl, v, HH.out⟩
    · have h1 : 4096 < n := by omega
      have h2 : 1 ≤ n := by omega
      go_enter Tryz.func119, Tryz.ntmps119
      go_wp2
      go_ret2
      exact ⟨rfl, v, HH.out⟩
theorem fit_lay {f : Nat → Int} {N M : Nat} {S : S0} (F : Fit S M) (n : Int) : Fit (layS f N M S n) M := by
  unfold layS
  split
  · split
    · exact F
    · rename_i x e; exact F.add e (by omega)
  · exact F
theorem good_lay {f : Nat → Int} {N M nx : Nat} (G : Good f N) (n : Int) : Good (layF f N M nx n) N := by
  unfold layF
  split
  · split
    · exact G
    · rename_i x e; exact room_good G e
  · exact G
theorem len_lay {f : Nat → Int} {N M nx : Nat} {n : Int} {xs : List Int} (hM : xs.length = M) (hb : blk nx * 64 ≤ M) : (layW f N M nx n xs).length = M := by
  unfold layW
  split
  · split
    · exact hM
    · rename_i x e
      have := (room_in e hb).1
      rw [length_splice _ _ _ (by simp; omega)]
      exact hM
  · exact hM
theorem lay_len {f : Nat → Int} {N M : Nat} {S : S0} (n : Int) : (layS f N M S n).l.length ≤ S.l.length + 1 := by
  unfold layS
  split
  · split
    · omega
    · simp [S0.add]
  · omega
end Go.Proofs.YtbdoekffadmejaaGreatDoor.Bp
