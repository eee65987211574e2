/- Package bump: how much is left, where there is room, what begins where. -/
import Derived.Test.YtbdoekffadmejaaGreatDoorBpb
namespace Go.Proofs.YtbdoekffadmejaaGreatDoor.Bp
open Go.RowKit
set_option linter.unusedVariables false
set_option linter.unusedSimpArgs false

theorem left_space {w : World} {s p a m : Nat} {v : Value} {S : S0} (h : Sp w s p a m v S) (hb : S.nx ≤ 1048576) :
    Calls Tryz.prog 181 #[.pointer (some ⟨s, 0, none⟩)] w fun e w' => e = .returned (.int .i64 (lft S.nx : Int)) ∧ Below w.heap.size w w' := by
  have c := h.c4
  have C := fun W => blocksOf_any W S.nx (by omega)
  have b1 : (blk S.nx : Int) ≤ 1048576 := by unfold blk; omega
  have e1 : (blk S.nx : Int) * 64 - S.nx = (lft S.nx : Int) := by have := blk_le S.nx; unfold lft; omega
  have b2 : (lft S.nx : Int) < 64 := by have := lft_lt S.nx; omega
  obtain ⟨x, hx⟩ : ∃ x, blk S.nx = x := ⟨_, rfl⟩
  obtain ⟨y, hy⟩ : ∃ y, lft S.nx = y := ⟨_, rfl⟩
  obtain ⟨n, hn⟩ : ∃ n, S.nx = n := ⟨_, rfl⟩
  rw [hx] at C b1 e1
  rw [hy] at e1 b2 ⊢
  rw [hn] at C c e1 hb
  clear hx hy hn h
  go_enter Tryz.func181, Tryz.ntmps181
  go_wp2
  go_quiet ((go_at_call 183; exact Calls.quiet_of_same (C _)))
  go_wp2
  go_ret
  exact ⟨rfl, below_drewN (Below.refl _ _) _⟩
/-- A new group, where the pool has one that the arena has too. -/
def took (f : Nat → Int) (N M b : Nat) : Option (Nat × (Nat → Int)) :=
  match fit f N b with
  | .none => .none
  | some x => if M < (x.1 + b) * 64 then .none else some (x.1 * 64, mark f x.1 b x.1)
def oA (o : Option (Nat × (Nat → Int))) : Int := match o with | .none => 0 | some x => x.1
def oE (o : Option (Nat × (Nat → Int))) : Int := match o with | .none => 5 | some _ => 0
def oF (f : Nat → Int) (o : Option (Nat × (Nat → Int))) : Nat → Int := match o with | .none => f | some x => x.2
set_option maxHeartbeats 1000000 in
theorem take_any {w : World} {s p a m pb ab N : Nat} {v : Value} {S : S0} {f : Nat → Int} {xs : List Int} (h : Sp w s p a m v S) (hP : Has 182 w p pb f N) (G : Good f N) (hA : Ar.Has 169 w a ab xs)
    (hs : ∀ k, ft s m v k → k ≠ pb) (ha : a ≠ pb) (hab : ab ≠ pb) (b : Nat) (hb : 1 ≤ b) (hb2 : b ≤ 64) :
    Calls Tryz.prog 182 #[.pointer (some ⟨s, 0, none⟩), .int .i64 (b : Int)] w fun e w' =>
      e = .returned (.tuple #[.int .i64 (oA (took f N xs.length b)), .int .i64 (oE (took f N xs.length b))]) ∧ Has 182 w' p pb (oF f (took f N xs.length b)) N ∧ w.grownBy w' (some pb) := by
  have c0 := h.c0
  have AL := alloc_any hP (b : Int) (by omega)
  have Hh := Hid.mk h
  have HA := Hid.mk hA
  have HG := Hid.mk G
  have n1 : ¬ ((b : Int) < 1) := by omega
  have hN := hP.len
  have hM := hA.len
  unfold took oA oE oF
  cases hx : fit f N (b : Int) with
  | none =>
    have e1 : allocA f N (b : Int) = 0 := by simp [allocA, hx]
    have e2 : allocE f N (b : Int) = 5 := by simp only [allocE, hx, if_neg n1]
    have e3 : allocF f N (b : Int) = f := by simp [allocF, hx]
    rw [e1, e2, e3] at AL
    simp only
    clear hx e1 e2 e3 hP hA G h
    go_enter Tryz.func182, Tryz.ntmps182
    go_wp2_with (go_at_call 91; refine AL.mono ?_; rintro e w1 ⟨rfl, H1, G1⟩)
    go_ret2
    exact ⟨rfl, H1, G1⟩
  | some x =>
    have e1 : allocA f N (b : Int) = x.1 := by simp only [allocA, hx, if_neg n1]
    have e2 : allocE f N (b : Int) = 0 := by simp only [allocE, hx, if_neg n1]
    have e3 : allocF f N (b : Int) = mark f x.1 b x.1 := by simp only [allocF, hx, if_neg n1, Int.toNat_natCast]
    rw [e1, e2, e3] at AL
    obtain ⟨r1, r2⟩ := fit_some hx
    obtain ⟨r3, r4, r5⟩ := run_mem r1
    have FF := fit_free G hb (show x.1 + b ≤ N by omega) (fun j q1 q2 => r5 j q1 (by omega))
    have GG : Good (mark f x.1 b x.1) N := good_alloc G (fun j q1 q2 => r5 j q1 (by omega))
    have hxb : x.1 + b ≤ N := by omega
    simp only
    obtain ⟨i, hi⟩ : ∃ i, x.1 = i := ⟨_, rfl⟩
    rw [hi] at AL FF GG hxb ⊢
    have HFF := Hid.mk FF
    have HGG := Hid.mk GG
    clear hx e1 e2 e3 hP hA G h r1 r2 r3 r4 r5 hi FF GG
    by_cases hm : xs.length < (i + b) * 64
    · rw [if_pos hm]
      simp only
      have hm' : (xs.length : Int) < ((i : Int) + b) * 64 := by omega
      clear hm
      go_enter Tryz.func182, Tryz.ntmps182
      go_wp2_with (first
        | (go_at_call 91; refine AL.mono ?_; rintro e w1 ⟨rfl, H1, G1⟩; have S1 := Hh.out.chg (Chg.one (X := fun k => k = pb) G1 rfl) hs; have k0 := S1.c0; have k1 := S1.c1; have LN := Ar.len_any (HA.out.chg (Chg.one (X := fun k => k = pb) G1 rfl) ha hab); have FR := free_any H1 HGG.out (i : Int); rw [HFF.out.1, HFF.out.2] at FR; clear S1 AL c0)
        | (go_at_call 195; refine LN.mono ?_; rintro e w2 ⟨rfl, hw⟩; rw [hw]; clear hw)
        | (go_at_call 136; refine FR.mono ?_; rintro e w3 ⟨rfl, H3, G3⟩))
      go_ret2
      exact ⟨rfl, H3, grown_trans G1 G3⟩
    · rw [if_neg hm]
      simp only
      have hm' : ((i : Int) + b) * 64 ≤ (xs.length : Int) := by omega
      clear hm
      go_enter Tryz.func182, Tryz.ntmps182
      go_wp2_with (first
        | (go_at_call 91; refine AL.mono ?_; rintro e w1 ⟨rfl, H1, G1⟩; have S1 := Hh.out.chg (Chg.one (X := fun k => k = pb) G1 rfl) hs; have k0 := S1.c0; have k1 := S1.c1; have LN := Ar.len_any (HA.out.chg (Chg.one (X := fun k => k = pb) G1 rfl) ha hab); clear S1 AL c0)
        | (go_at_call 195; refine LN.mono ?_; rintro e w2 ⟨rfl, hw⟩; rw [hw]; clear hw))
      go_ret2
      exact ⟨by simp, H1, G1⟩
theorem room_took (f : Nat → Int) (N M nx n : Nat) : room f N M nx n = if n ≤ lft nx then some (nx, f) else took f N M (blk n) := rfl
set_option maxHeartbeats 1000000 in
theorem room_any {w : World} {s p a m pb ab N : Nat} {v : Value} {S : S0} {f : Nat → Int} {xs : List Int} (h : Sp w s p a m v S) (hP : Has 182 w p pb f N) (G : Good f N) (hA : Ar.Has 169 w a ab xs)
    (hs : ∀ k, ft s m v k → k ≠ pb) (ha : a ≠ pb) (hab : ab ≠ pb) (hnx : S.nx ≤ 1048576) (n : Nat) (h1 : 1 ≤ n) (h2 : n ≤ 4096) :
    Calls Tryz.prog 163 #[.pointer (some ⟨s, 0, none⟩), .int .i64 (n : Int)] w fun e w' =>
      e = .returned (.tuple #[.int .i64 (oA (room f N xs.length S.nx n)), .int .i64 (oE (room f N xs.length S.nx n))]) ∧ Has 182 w' p pb (oF f (room f N xs.length S.nx n)) N ∧ w.grownBy w' (some pb) := by
  have LF := left_space h hnx
  have Hh := Hid.mk h
  have HP := Hid.mk hP
  have HA := Hid.mk hA
  have HG := Hid.mk G
  have hlf := lft_lt S.nx
  rw [room_took]
  by_cases hl : n ≤ lft S.nx
  · rw [if_pos hl]
    simp only [oA, oE, oF]
    obtain ⟨L, hL⟩ : ∃ L, lft S.nx = L := ⟨_, rfl⟩
    obtain ⟨X, hX⟩ : ∃ X, S.nx = X := ⟨_, rfl⟩
    rw [hL] at LF hl hlf
    have HX := Hid.mk hX
    rw [hX]
    clear hL h hP hA G hX
    have hl' : (n : Int) ≤ L := by omega
    go_enter Tryz.func163, Tryz.ntmps163
    go_wp2_with (go_at_call 181; refine LF.mono ?_; rintro e w1 ⟨rfl, B1⟩; have k4 := (Hh.out.later B1).c4; rw [HX.out] at k4)
    go_ret2
    exact ⟨rfl, HP.out.later B1, grown_below _ B1⟩
  · rw [if_neg hl]
    obtain ⟨L, hL⟩ : ∃ L, lft S.nx = L := ⟨_, rfl⟩
    rw [hL] at LF hl hlf
    have hl' : (L : Int) < n := by omega
    have BO := fun W => blocksOf_any W n (by omega)
    have b1 : 1 ≤ blk n ∧ blk n ≤ 64 := by unfold blk; omega
    obtain ⟨B, hB⟩ : ∃ B, blk n = B := ⟨_, rfl⟩
    rw [hB] at BO b1 ⊢
    have TK := fun (W : World) (q : Below w.heap.size w W) => take_any (Hh.out.later q) (HP.out.later q) HG.out (HA.out.later q) hs ha hab B b1.1 b1.2
    have HTK := Hid.mk TK
    clear hL h hP hA G hl hB TK
    go_enter Tryz.func163, Tryz.ntmps163
    go_wp2_with (first
      | (go_at_call 181; refine LF.mono ?_; rintro e w1 ⟨rfl, B1⟩)
      | (go_at_call 183; refine (BO _).mono ?_; rintro e w2 ⟨rfl, hw⟩; rw [hw]; clear hw; have T2 := HTK.out w1 B1)
      | (go_at_call 182; refine T2.mono ?_; clear T2; rintro e w3 ⟨rfl, H3, G3⟩))
    go_ret2
    exact ⟨rfl, H3, grown_trans (grown_below _ B1) G3⟩
end Go.Proofs.YtbdoekffadmejaaGreatDoor.Bp
