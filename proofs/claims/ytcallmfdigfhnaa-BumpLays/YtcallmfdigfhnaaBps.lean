/- The document's own Lay, in a new group. -/
import Derived.Test.YtcallmfdigfhnaaBpr
namespace Go.Proofs.Ytcallmfdigfhnaa
open Go.RowKit
set_option linter.unusedVariables false
set_option linter.unusedSimpArgs false

set_option maxRecDepth 100000 in
set_option maxHeartbeats 4000000 in
theorem rlay_new {w : World} {x y yb M N c i : Nat} {r : Nat → Value} {S : S0} {f : Nat → Int} (h : Rs w x y M r S) (hl : S.l.length ≤ 1000) (hbl : S.bl ≤ 1000000) (hnx : S.nx ≤ 1048576) (hR : Ref w y yb f N c) (G : Good f N) (hx : ∀ k, k = x ∨ ow r k → k ≠ y ∧ k ≠ yb) (n : Nat) (h1 : lft S.nx < n) (h2 : n ≤ 4096) (hM : M ≤ 524288) (ht : took f N M (blk n) = some (i * 64, mark f i (blk n) i)) :
    Calls Try.prog 28 #[.pointer (some ⟨x, 0, none⟩), .int .i64 (n : Int)] w fun e w' => e = .returned (.tuple #[.int .i64 ((i * 64 : Nat) : Int), .int .i64 0]) ∧ ∃ w1 r', w.grownBy w1 (some yb) ∧ Rh w1 w' x y M r r' (lsI (S.add (i * 64) n).l) (S.add (i * 64) n).bl (S.add (i * 64) n).nx ((S.add (i * 64) n).nx + lft (S.add (i * 64) n).nx) ∧ Ref w' y yb (mark f i (blk n) i) N c := by
  have l64 := lft_lt S.nx
  have HS := Hid.mk h
  unfold Rs at h
  obtain ⟨en, hen⟩ : ∃ en, S.nx + lft S.nx = en := ⟨_, rfl⟩
  rw [hen] at h
  obtain ⟨c0, c1, c2, c3, c4, c5, c6, c7⟩ := h.cells
  have hb : 1 ≤ blk n ∧ blk n ≤ 64 := by unfold blk; omega
  have RA := ralloc_any (hR.later (w' := w.drew) ⟨rfl, rfl, rfl, Nat.le_refl _, fun _ _ => rfl⟩) G ((blk n : Nat) : Int) (by omega)
  have td : ((n : Int) + 63).tdiv 64 = ((blk n : Nat) : Int) := by unfold blk; rw [Int.tdiv_eq_ediv_of_nonneg (by omega)]; omega
  have hN := hR.len
  have n1 : ¬ (((blk n : Nat) : Int) < 1) := by omega
  obtain ⟨X, hX⟩ : ∃ X, S.nx = X := ⟨_, rfl⟩
  have HE : Hid (lsI (S.add (i * 64) n).l = updL3 (updL3 (updL3 (lsI S.l) 0 (i : Int)) 1 (64 * (i : Int))) 2 (n : Int) ∧ (S.add (i * 64) n).bl = S.bl + blk n ∧ (S.add (i * 64) n).nx = (if n ≤ 64 then i * 64 + n else X) ∧ ((if n ≤ 64 then i * 64 + n else X) + lft (if n ≤ 64 then i * 64 + n else X)) = (if n ≤ 64 then i * 64 + 64 else en)) := ⟨by
    refine ⟨?_, by simp [S0.add], by simp [S0.add, hX], ?_⟩
    · funext j
      match j with
      | 0 => simp [updL3, lsI, S0.add, grp_snoc]
      | 1 => simp [updL3, lsI, S0.add, fsI_snoc]; omega
      | 2 => simp [updL3, lsI, S0.add, nsI_snoc]
      | j + 3 => simp [updL3, lsI, S0.add]
    · split
      · unfold lft blk; omega
      · rw [← hX]; exact hen⟩
  obtain ⟨s, hf, hsi⟩ : ∃ s, fit f N ((blk n : Nat) : Int) = some s ∧ s.1 = i ∧ (i + blk n) * 64 ≤ M := by
    unfold took at ht
    cases hf : fit f N ((blk n : Nat) : Int) with
    | none => rw [hf] at ht; cases ht
    | some s =>
      rw [hf] at ht
      simp only at ht
      split at ht
      · cases ht
      · simp only [Option.some.injEq, Prod.mk.injEq] at ht
        exact ⟨s, rfl, by omega, by omega⟩
  have e1 : allocA f N ((blk n : Nat) : Int) = i := by simp only [allocA, hf, if_neg n1, hsi.1]
  have e2 : allocE f N ((blk n : Nat) : Int) = 0 := by simp only [allocE, hf, if_neg n1]
  have e3 : allocF f N ((blk n : Nat) : Int) = mark f i (blk n) i := by simp only [allocF, hf, if_neg n1, Int.toNat_natCast, hsi.1]
  rw [e1, e2, e3] at RA
  have im := hsi.2
  have HK := Hid.mk (show ∀ w' : World, w.grownBy w' (some yb) → Rs w' x y M r S from fun w' g => Rh.kept (X := fun k => k = yb) HS.out (Chg.one g rfl) (fun k q => (hx k q).2))
  rw [hX] at c6 hnx h1 l64
  have y1 : (en : Int) - X < n := by rw [hX] at hen; omega
  have y2 : (en : Int) ≤ 2000000 := by rw [hX] at hen; omega
  have y3 : (X : Int) ≤ en := by rw [hX] at hen; omega
  have y5 : decide ((n : Int) < 1) = false := by simp; omega
  have y6 : decide ((4096 : Int) < n) = false := by simp; omega
  have b2 : ((blk n : Nat) : Int) ≤ 64 := by omega
  have Hlen : Hid (((lsI S.l 0).length ≤ 1000 ∧ (lsI S.l 1).length ≤ 1000) ∧ (lsI S.l 2).length ≤ 1000) := ⟨by have := grp_len S.l; simp [lsI, fsI, nsI]; omega⟩
  have HXX := Hid.mk (And.intro hX hen)
  obtain ⟨i0, hi0, hz0, hz1, hz2⟩ := info_parts info3
  generalize blk n = b at *
  have hm' : 64 * ((i : Int) + b) ≤ (M : Int) := by omega
  have i9 : (i : Int) ≤ 10000 := by omega
  clear h hR G hf e1 e2 e3 ht hX hen hsi s HS im
  go_enter Try.func28, Try.ntmps28
  go_wp2
  go_region
  go_upto_region 13 with (first
    | (go_at_call 27; refine RA.mono ?_; rintro e w1 ⟨rfl, R1, G1⟩; have HG2 : Hid (w.grownBy w1 (some yb)) := ⟨⟨G1.os, G1.tape, G1.output, G1.size, G1.block⟩⟩; have S1 := HK.out _ HG2.out; unfold Rs at S1; rw [HXX.out.2, HXX.out.1] at S1; obtain ⟨d0, d1, d2, d3, d4', d5, d6, d7⟩ := S1.cells; have HS1 := Hid.mk S1; have HR1 := Hid.mk R1; clear S1 RA R1 G1)
    | (at_builtin; refine wpList_append_lies _ rfl (.tmp 64) (.tmp 66) 42 rfl 0 3 i0 (.int .i64 0) 1 8 Try.underlying42 hi0 hz0 hz1 hz2 rfl (by decide) (r 0) _ _ rfl ((HS1.out.row 0 (by omega)).kept (g3 _ _) (Classical.em _)) ⟨_, 0, none⟩ 1 1 [.int .i64 (i : Int)] rfl rfl (news_one (nb4 _ _)) (by simp [Value.oneCell']) (by decide) (by unfold maxLen; have := Hlen.out; omega) (by have := Hlen.out; omega) (Nat.zero_le _) _ rfl ?_; intro q0 cap0 w3 ho0 hg0 hat0 hlt0; have e0 := HS1.out.far (i := 0) (by omega) hg0; have a0 : w3.cell? ⟨x, 2, none⟩ = some (r 0) := (World.cell?_of_block (w := w1) (a := ⟨x, 2, none⟩) e0).trans d2; have a0f : w3.frozen? ⟨x, 2, none⟩ = false := (World.frozen?_of_block (w := w1) (a := ⟨x, 2, none⟩) e0).trans (HS1.out.zf 2); have R3 := HS1.out.more0 hg0 hat0 rfl ho0; clear ho0 hg0 hat0 hlt0))
  clear a0 a0f d0 d1 d2 d3 d4' d5 d6 d7 c0 c1 c2 c3 c4 c5 c6 c7
  by_cases h64 : n ≤ 64
  · have y4 : (n : Int) ≤ 64 := by omega
    have R4 := R3.set (nx' := X) (bl' := S.bl + b) (en' := en) 3 (.int .i64 ((S.bl : Int) + b)) (by simp [updV3])
    have R5 := R4.set (nx' := i * 64) (bl' := S.bl + b) (en' := en) 6 (.int .i64 (64 * (i : Int))) (by simp [updV3]; omega)
    have R6 := R5.set (nx' := i * 64) (bl' := S.bl + b) (en' := i * 64 + 64) 7 (.int .i64 (64 * (i : Int) + 64)) (by simp [updV3]; omega)
    have R7 := R6.set (nx' := i * 64 + n) (bl' := S.bl + b) (en' := i * 64 + 64) 6 (.int .i64 (64 * (i : Int) + n)) (by simp [updV3]; omega)
    obtain ⟨s0, s1, s2, s3, s4, s5, s6, s7⟩ := R3.cells
    have sa := R3.zf 3
    have sb := R3.zf 6
    have sc := R3.zf 7
    clear s0 s1 s2 s4 s5
    obtain ⟨t0, t1, t2, t3, t4, t5, t6, t7⟩ := R4.cells
    have ta := R4.zf 3
    have tb := R4.zf 6
    have tc := R4.zf 7
    clear t0 t1 t2 t4 t5
    obtain ⟨u0, u1, u2, u3, u4, u5, u6, u7⟩ := R5.cells
    have ua := R5.zf 3
    have ub := R5.zf 6
    have uc := R5.zf 7
    clear u0 u1 u2 u4 u5
    obtain ⟨v0, v1, v2, v3, v4, v5, v6, v7⟩ := R6.cells
    have va := R6.zf 3
    have vb := R6.zf 6
    have vc := R6.zf 7
    clear v0 v1 v2 v4 v5
    have HR2 := Hid.mk R7
    have HRow1 := Hid.mk (show (((((w3.setCell ⟨x, 2, none⟩ (.slice (some ⟨q0, 0, none⟩) ((lsI S.l 0).length + 1) cap0)).setCell ⟨x, 3, none⟩ (.int .i64 ((S.bl : Int) + b))).setCell ⟨x, 6, none⟩ (.int .i64 (64 * (i : Int)))).setCell ⟨x, 7, none⟩ (.int .i64 (64 * (i : Int) + 64))).setCell ⟨x, 6, none⟩ (.int .i64 (64 * (i : Int) + n))).ownsRow 0 3 1 (r 1) (lsI S.l 1).length (ints (lsI S.l 1)) from R7.row 1 (by omega))
    have d4 : (((((w3.setCell ⟨x, 2, none⟩ (.slice (some ⟨q0, 0, none⟩) ((lsI S.l 0).length + 1) cap0)).setCell ⟨x, 3, none⟩ (.int .i64 ((S.bl : Int) + b))).setCell ⟨x, 6, none⟩ (.int .i64 (64 * (i : Int)))).setCell ⟨x, 7, none⟩ (.int .i64 (64 * (i : Int) + 64))).setCell ⟨x, 6, none⟩ (.int .i64 (64 * (i : Int) + n))).cell? ⟨x, 4, none⟩ = some (r 1) := R7.cells.2.2.2.2.1
    clear R4 R5 R6 R7 R3
    go_upto_region 20 with (fail)
    generalize ((((w3.setCell ⟨x, 2, none⟩ (.slice (some ⟨q0, 0, none⟩) ((lsI S.l 0).length + 1) cap0)).setCell ⟨x, 3, none⟩ (.int .i64 ((S.bl : Int) + b))).setCell ⟨x, 6, none⟩ (.int .i64 (64 * (i : Int)))).setCell ⟨x, 7, none⟩ (.int .i64 (64 * (i : Int) + 64))).setCell ⟨x, 6, none⟩ (.int .i64 (64 * (i : Int) + n)) = W2 at *
    clear sa sb sc s3 s6 s7 ta tb tc t3 t6 t7 ua ub uc u3 u6 u7 va vb vc v3 v6 v7
    go_wp2_with (first
      | (at_builtin; refine wpList_append_lies _ rfl (.tmp 104) (.tmp 106) 42 rfl 0 3 i0 (.int .i64 0) 1 8 Try.underlying42 hi0 hz0 hz1 hz2 rfl (by decide) (r 1) _ _ rfl (HRow1.out.kept (g3 _ _) (Classical.em _)) ⟨_, 0, none⟩ 1 1 [.int .i64 (64 * (i : Int))] rfl rfl (news_one (nb4 _ _)) (by simp [Value.oneCell']) (by decide) (by unfold maxLen; have := Hlen.out; omega) (by have := Hlen.out; omega) (Nat.zero_le _) _ rfl ?_; intro q1 cap1 w5 ho1 hg1 hat1 hlt1; have e1 := HR2.out.far (i := 1) (by omega) hg1; have a4 : w5.cell? ⟨x, 4, none⟩ = some (r 1) := (World.cell?_of_block (w := W2) (a := ⟨x, 4, none⟩) e1).trans d4; have a5 : w5.frozen? ⟨x, 4, none⟩ = false := (World.frozen?_of_block (w := W2) (a := ⟨x, 4, none⟩) e1).trans (HR2.out.zf 4); have R3 := HR2.out.more1 hg1 hat1 rfl ho1; have HR3 := Hid.mk R3; have f5 : (w5.setCell ⟨x, 4, none⟩ (.slice (some ⟨q1, 0, none⟩) ((lsI S.l 1).length + 1) cap1)).cell? ⟨x, 5, none⟩ = some (r 2) := R3.cells.2.2.2.2.2.1; have f8 := R3.zf 5; have HW2 := Hid.mk (show (w5.setCell ⟨x, 4, none⟩ (.slice (some ⟨q1, 0, none⟩) ((lsI S.l 1).length + 1) cap1)).ownsRow 0 3 1 (r 2) (lsI S.l 2).length (ints (lsI S.l 2)) from R3.row 2 (by omega)); clear R3 ho1 hg1 hat1 hlt1)
      | (at_builtin; refine wpList_append_lies _ rfl (.tmp 114) (.tmp 116) 42 rfl 0 3 i0 (.int .i64 0) 1 8 Try.underlying42 hi0 hz0 hz1 hz2 rfl (by decide) (r 2) _ _ rfl (HW2.out.kept (g3 _ _) (Classical.em _)) ⟨_, 0, none⟩ 1 1 [.int .i64 (n : Int)] rfl rfl (news_one (nb5 _ _ _ _)) (by simp [Value.oneCell']) (by decide) (by unfold maxLen; have := Hlen.out; omega) (by have := Hlen.out; omega) (Nat.zero_le _) _ rfl ?_; intro q2 cap2 w6 ho2 hg2 hat2 hlt2; have e2 := HR3.out.far (i := 2) (by omega) hg2; have b5 : w6.cell? ⟨x, 5, none⟩ = some (r 2) := (World.cell?_of_block (w := _) (a := ⟨x, 5, none⟩) e2).trans f5; have b6 : w6.frozen? ⟨x, 5, none⟩ = false := (World.frozen?_of_block (w := _) (a := ⟨x, 5, none⟩) e2).trans f8; have HR4 := Hid.mk (HR3.out.more2 hg2 hat2 rfl ho2); clear ho2 hg2 hat2 hlt2))
    go_ret2
    obtain ⟨r4, h4⟩ : ∃ r4, Rh w1 _ x y M r r4 _ _ _ _ := ⟨_, HR4.out⟩
    obtain ⟨L4, E1, E2, E3⟩ := HE.out
    refine ⟨by simp; omega, w1, r4, HG2.out, ?_, ?_⟩
    · rw [L4, E1, E2, E3]
      rw [if_pos (by omega), if_pos (by omega)]
      exact h4
    · exact HR1.out.chg h4.chg (fun q => by rcases q with q | q; (· exact (hx _ (.inl q)).1 rfl); (· exact (hx _ (.inr q)).1 rfl)) (fun q => by rcases q with q | q; (· exact (hx _ (.inl q)).2 rfl); (· exact (hx _ (.inr q)).2 rfl))
  · have y4 : (64 : Int) < n := by omega
    have R4 := R3.set (nx' := X) (bl' := S.bl + b) (en' := en) 3 (.int .i64 ((S.bl : Int) + b)) (by simp [updV3])
    obtain ⟨s0, s1, s2, s3, s4, s5, s6, s7⟩ := R3.cells
    have sa := R3.zf 3
    have sb := R3.zf 6
    have sc := R3.zf 7
    clear s0 s1 s2 s4 s5
    have HR2 := Hid.mk R4
    have HRow1 := Hid.mk (show ((w3.setCell ⟨x, 2, none⟩ (.slice (some ⟨q0, 0, none⟩) ((lsI S.l 0).length + 1) cap0)).setCell ⟨x, 3, none⟩ (.int .i64 ((S.bl : Int) + b))).ownsRow 0 3 1 (r 1) (lsI S.l 1).length (ints (lsI S.l 1)) from R4.row 1 (by omega))
    have d4 : ((w3.setCell ⟨x, 2, none⟩ (.slice (some ⟨q0, 0, none⟩) ((lsI S.l 0).length + 1) cap0)).setCell ⟨x, 3, none⟩ (.int .i64 ((S.bl : Int) + b))).cell? ⟨x, 4, none⟩ = some (r 1) := R4.cells.2.2.2.2.1
    clear R4 R3
    go_upto_region 20 with (fail)
    generalize (w3.setCell ⟨x, 2, none⟩ (.slice (some ⟨q0, 0, none⟩) ((lsI S.l 0).length + 1) cap0)).setCell ⟨x, 3, none⟩ (.int .i64 ((S.bl : Int) + b)) = W2 at *
    clear sa sb sc s3 s6 s7
    go_wp2_with (first
      | (at_builtin; refine wpList_append_lies _ rfl (.tmp 104) (.tmp 106) 42 rfl 0 3 i0 (.int .i64 0) 1 8 Try.underlying42 hi0 hz0 hz1 hz2 rfl (by decide) (r 1) _ _ rfl (HRow1.out.kept (g3 _ _) (Classical.em _)) ⟨_, 0, none⟩ 1 1 [.int .i64 (64 * (i : Int))] rfl rfl (news_one (nb4 _ _)) (by simp [Value.oneCell']) (by decide) (by unfold maxLen; have := Hlen.out; omega) (by have := Hlen.out; omega) (Nat.zero_le _) _ rfl ?_; intro q1 cap1 w5 ho1 hg1 hat1 hlt1; have e1 := HR2.out.far (i := 1) (by omega) hg1; have a4 : w5.cell? ⟨x, 4, none⟩ = some (r 1) := (World.cell?_of_block (w := W2) (a := ⟨x, 4, none⟩) e1).trans d4; have a5 : w5.frozen? ⟨x, 4, none⟩ = false := (World.frozen?_of_block (w := W2) (a := ⟨x, 4, none⟩) e1).trans (HR2.out.zf 4); have R3 := HR2.out.more1 hg1 hat1 rfl ho1; have HR3 := Hid.mk R3; have f5 : (w5.setCell ⟨x, 4, none⟩ (.slice (some ⟨q1, 0, none⟩) ((lsI S.l 1).length + 1) cap1)).cell? ⟨x, 5, none⟩ = some (r 2) := R3.cells.2.2.2.2.2.1; have f8 := R3.zf 5; have HW2 := Hid.mk (show (w5.setCell ⟨x, 4, none⟩ (.slice (some ⟨q1, 0, none⟩) ((lsI S.l 1).length + 1) cap1)).ownsRow 0 3 1 (r 2) (lsI S.l 2).length (ints (lsI S.l 2)) from R3.row 2 (by omega)); clear R3 ho1 hg1 hat1 hlt1)
      | (at_builtin; refine wpList_append_lies _ rfl (.tmp 114) (.tmp 116) 42 rfl 0 3 i0 (.int .i64 0) 1 8 Try.underlying42 hi0 hz0 hz1 hz2 rfl (by decide) (r 2) _ _ rfl (HW2.out.kept (g3 _ _) (Classical.em _)) ⟨_, 0, none⟩ 1 1 [.int .i64 (n : Int)] rfl rfl (news_one (nb5 _ _ _ _)) (by simp [Value.oneCell']) (by decide) (by unfold maxLen; have := Hlen.out; omega) (by have := Hlen.out; omega) (Nat.zero_le _) _ rfl ?_; intro q2 cap2 w6 ho2 hg2 hat2 hlt2; have e2 := HR3.out.far (i := 2) (by omega) hg2; have b5 : w6.cell? ⟨x, 5, none⟩ = some (r 2) := (World.cell?_of_block (w := _) (a := ⟨x, 5, none⟩) e2).trans f5; have b6 : w6.frozen? ⟨x, 5, none⟩ = false := (World.frozen?_of_block (w := _) (a := ⟨x, 5, none⟩) e2).trans f8; have HR4 := Hid.mk (HR3.out.more2 hg2 hat2 rfl ho2); clear ho2 hg2 hat2 hlt2))
    go_ret2
    obtain ⟨r4, h4⟩ : ∃ r4, Rh w1 _ x y M r r4 _ _ _ _ := ⟨_, HR4.out⟩
    obtain ⟨L4, E1, E2, E3⟩ := HE.out
    refine ⟨by simp; omega, w1, r4, HG2.out, ?_, ?_⟩
    · rw [L4, E1, E2, E3]
      rw [if_neg (by omega), if_neg (by omega)]
      exact h4
    · exact HR1.out.chg h4.chg (fun q => by rcases q with q | q; (· exact (hx _ (.inl q)).1 rfl); (· exact (hx _ (.inr q)).1 rfl)) (fun q => by rcases q with q | q; (· exact (hx _ (.inl q)).2 rfl); (· exact (hx _ (.inr q)).2 rfl))
end Go.Proofs.Ytcallmfdigfhnaa
