/- Package bump: what was laid is noted. -/
import Derived.Test.YtbdoekffadmejaaGreatDoorBpc
import Derived.Test.YtbdoekffadmejaaGreatDoorPush
import Derived.Deep.RegionHeld3
import Derived.Deep.CutRange
import Derived.Deep.RegionLaw
namespace Go.Proofs.YtbdoekffadmejaaGreatDoor.Bp
open Go.RowKit
set_option linter.unusedVariables false
set_option linter.unusedSimpArgs false

theorem info80 : (Tryz.prog.info? 179).map (fun i => (i.zero, i.size, i.bytes)) = some (some (.agg #[.int .i64 0, .int .i64 0]), 2, 16) := by kernel_rfl
/-- A space while something is noted in it. -/
structure Nt (w0 W : World) (s p a m z : Nat) (v v' : Value) (l ml : List (Nat × Nat)) (nx us bl i n : Nat) : Prop where
  box : W.heap[s]? = some (.cells #[.pointer (some ⟨p, 0, none⟩), .pointer (some ⟨a, 0, none⟩), v', .map (some m), .int .i64 (nx : Int), .int .i64 (us : Int), .int .i64 (bl : Int)] 165 (0, 0))
  row : W.ownsRow 0 179 2 v' l.length (pcs l)
  map : ∃ n g, n ≤ ml.length ∧ VM 3 W m n g ∧ ∀ b : Nat, b < 288230376151711744 → (g (.int .i64 (b : Int))).getD (.int .u64 0) = .int .u64 (mask ml b : Int)
  bx : W.heap[z]? = some (.cells #[.int .i64 (i : Int), .int .i64 (n : Int)] 179 (0, 0))
  sm : s ≠ m
  sv : v'.ownBlock ≠ some s
  mv : v'.ownBlock ≠ some m
  zs : z ≠ s
  zm : z ≠ m
  zv : v'.ownBlock ≠ some z
  old : ∀ k, v'.ownBlock = some k → v.ownBlock = some k ∨ w0.heap.size ≤ k
  chg : Chg (ft s m v) w0 W
section
variable {w0 W W' : World} {s p a m z : Nat} {v v' : Value} {l ml : List (Nat × Nat)} {nx us bl i n : Nat}
theorem Nt.cells (h : Nt w0 W s p a m z v v' l ml nx us bl i n) : W.cell? ⟨s, 3, none⟩ = some (.map (some m)) ∧ W.cell? ⟨s, 4, none⟩ = some (.int .i64 (nx : Int)) ∧ W.cell? ⟨s, 5, none⟩ = some (.int .i64 (us : Int)) ∧ W.cell? ⟨s, 6, none⟩ = some (.int .i64 (bl : Int)) ∧ W.cell? ⟨z, 0, none⟩ = some (.int .i64 (i : Int)) ∧ W.cell? ⟨z, 1, none⟩ = some (.int .i64 (n : Int)) := by
  refine ⟨?_, ?_, ?_, ?_, ?_, ?_⟩
  · rw [Joins.cell_of_block h.box]; rfl
  · rw [Joins.cell_of_block h.box]; rfl
  · rw [Joins.cell_of_block h.box]; rfl
  · rw [Joins.cell_of_block h.box]; rfl
  · rw [Joins.cell_of_block h.bx]; rfl
  · rw [Joins.cell_of_block h.bx]; rfl
theorem Nt.zf (h : Nt w0 W s p a m z v v' l ml nx us bl i n) (j : Nat) : W.frozen? ⟨s, j, none⟩ = false := Joins.unfrozen_of_block h.box j
theorem Nt.lts (h : Nt w0 W s p a m z v v' l ml nx us bl i n) : s < W.heap.size := (Array.getElem?_eq_some_iff.1 h.box).1
theorem Nt.drew (h : Nt w0 W s p a m z v v' l ml nx us bl i n) : Nt w0 W.drew s p a m z v v' l ml nx us bl i n := by
  obtain ⟨n1, g, q1, q2, q3⟩ := h.map
  exact ⟨h.box, ownsRow_same h.row (fun _ _ => rfl), ⟨n1, g, q1, q2.of_block rfl, q3⟩, h.bx, h.sm, h.sv, h.mv, h.zs, h.zm, h.zv, h.old, ⟨h.chg.os, h.chg.tape, h.chg.output, h.chg.size, h.chg.block⟩⟩
theorem Nt.set (h : Nt w0 W s p a m z v v' l ml nx us bl i n) (hs : s < w0.heap.size ∨ True) {nx' us' bl' : Nat} (j : Nat) (x : Value) (hx : (#[.pointer (some ⟨p, 0, none⟩), .pointer (some ⟨a, 0, none⟩), v', .map (some m), .int .i64 (nx : Int), .int .i64 (us : Int), .int .i64 (bl : Int)] : Array Value).setIfInBounds j x = #[.pointer (some ⟨p, 0, none⟩), .pointer (some ⟨a, 0, none⟩), v', .map (some m), .int .i64 (nx' : Int), .int .i64 (us' : Int), .int .i64 (bl' : Int)]) :
    Nt w0 (W.setCell ⟨s, j, none⟩ x) s p a m z v v' l ml nx' us' bl' i n := by
  have far : ∀ k, k ≠ s → (W.setCell ⟨s, j, none⟩ x).heap[k]? = W.heap[k]? := fun k hk => Below.heap_setCell _ _ _ _ hk
  obtain ⟨n1, g, q1, q2, q3⟩ := h.map
  refine ⟨?_, ownsRow_same h.row (fun b e => far b (fun q => h.sv (q ▸ e))), ⟨n1, g, q1, q2.of_block (far m (fun q => h.sm q.symm)), q3⟩, (far z h.zs).trans h.bx, h.sm, h.sv, h.mv, h.zs, h.zm, h.zv, h.old, ?_⟩
  · rw [Joins.block_setCell h.box, hx]
  · refine h.chg.trans ⟨rfl, rfl, rfl, by simp, fun k hk hx => far k (fun q => hx (.inl q))⟩
theorem Nt.put (h : Nt w0 W s p a m z v v' l ml nx us bl i n) (G : W.grownBy W' (some m)) {n1 : Nat} {g : Lit → Option Value} (x : Nat × Nat) (q1 : n1 ≤ ml.length + 1) (q2 : VM 3 W' m n1 g) (q3 : ∀ b : Nat, b < 288230376151711744 → (g (.int .i64 (b : Int))).getD (.int .u64 0) = .int .u64 (mask (ml ++ [x]) b : Int)) :
    Nt w0 W' s p a m z v v' l (ml ++ [x]) nx us bl i n := by
  have far : ∀ k, k < W.heap.size → k ≠ m → W'.heap[k]? = W.heap[k]? := fun k hk hm => G.block k hk (by simpa using hm)
  refine ⟨(far s h.lts h.sm).trans h.box, ownsRow_same h.row (fun b e => far b (h.row.lt b e).2 (fun q => h.mv (q ▸ e))), ⟨n1, g, by simpa using q1, q2, q3⟩, (far z (Array.getElem?_eq_some_iff.1 h.bx).1 h.zm).trans h.bx, h.sm, h.sv, h.mv, h.zs, h.zm, h.zv, h.old, h.chg.trans (Chg.one G (.inr (.inl rfl)))⟩
theorem Nt.space {S : S0} (h : Nt w0 W s p a m z v v' (S.l ++ [(i, n)]) (S.l ++ [(i, n)]) nx us bl i n) (h1 : nx = (S.add i n).nx) (h2 : us = (S.add i n).us) (h3 : bl = (S.add i n).bl) : Sp W s p a m v' (S.add i n) := by
  subst h1 h2 h3
  exact ⟨h.box, h.row, h.map, h.sm, h.sv, h.mv⟩
end
theorem Nt.first {w W w1 : World} {s p a m z i n : Nat} {v v' : Value} {S : S0} (h : Sp w s p a m v S) (hz : z = w.heap.size) (B : w.grownBy W none) (hW : W.heap[z]? = some (.cells #[.int .i64 (i : Int), .int .i64 (n : Int)] 179 (0, 0))) (G : W.grownBy w1 v.ownBlock) (hat : v.ownBlock = v'.ownBlock ∨ ∃ q, v'.ownBlock = some q ∧ w.heap.size < q)
    (hown : w1.ownsRow 0 179 2 v' (S.l.length + 1) (pcs S.l ++ [.int .i64 (i : Int), .int .i64 (n : Int)])) : Nt w (w1.setCell ⟨s, 2, none⟩ v') s p a m z v v' (S.l ++ [(i, n)]) S.l S.nx S.us S.bl i n := by
  subst hz
  have sl := h.lt s (.inl rfl)
  have ml := h.lt m (.inr (.inl rfl))
  have old : ∀ k, k < w.heap.size → v.ownBlock ≠ some k → w1.heap[k]? = w.heap[k]? := fun k hk hv =>
    (G.block k (Nat.lt_of_lt_of_le hk B.size) (fun e => hv e.symm)).trans (B.block k hk (by simp))
  have far : ∀ k, k ≠ s → (w1.setCell ⟨s, 2, none⟩ v').heap[k]? = w1.heap[k]? := fun k hk => Below.heap_setCell _ _ _ _ hk
  have vz : v.ownBlock ≠ some w.heap.size := fun e => by have := (h.row.lt _ e).2; omega
  have ns : v'.ownBlock ≠ some s := by rcases hat with e | ⟨q, e, hq⟩; (· rw [← e]; exact h.sv); (· rw [e]; simp; omega)
  have nm : v'.ownBlock ≠ some m := by rcases hat with e | ⟨q, e, hq⟩; (· rw [← e]; exact h.mv); (· rw [e]; simp; omega)
  have nz : v'.ownBlock ≠ some w.heap.size := by rcases hat with e | ⟨q, e, hq⟩; (· rw [← e]; exact vz); (· rw [e]; simp; omega)
  obtain ⟨n1, g, q1, q2, q3⟩ := h.map
  refine ⟨?_, ?_, ⟨n1, g, q1, q2.of_block ((far m (fun q => h.sm q.symm)).trans (old m ml h.mv)), q3⟩, ?_, h.sm, ns, nm, by omega, by omega, nz, ?_, ?_⟩
  · rw [Joins.block_setCell ((old s sl h.sv).trans h.box)]; rfl
  · rw [pcs_snoc, List.length_append]; exact ownsRow_same hown (fun b e => far b (fun q => ns (q ▸ e)))
  · exact (far _ (by omega)).trans ((G.block _ (Array.getElem?_eq_some_iff.1 hW).1 (fun e => vz e.symm)).trans hW)
  · intro k hk
    rcases hat with e | ⟨q, e, hq⟩
    · exact .inl (e.trans hk)
    · rw [e] at hk; cases hk; exact .inr (by omega)
  · exact ⟨G.os.trans B.os, G.tape.trans B.tape, G.output.trans B.output, by have := B.size; have := G.size; simp; omega, fun k hk hx => (far k (fun q => hx (.inl q))).trans (old k hk (fun e => hx (.inr (.inr e))))⟩
theorem far_s {w W w1 : World} {s p a m : Nat} {v : Value} {S : S0} (h : Sp w s p a m v S) (B : w.grownBy W none) (G : W.grownBy w1 v.ownBlock) : w1.cell? ⟨s, 2, none⟩ = some v ∧ w1.frozen? ⟨s, 2, none⟩ = false := by
  have sl := h.lt s (.inl rfl)
  have e : w1.heap[s]? = w.heap[s]? := (G.block s (Nat.lt_of_lt_of_le sl B.size) (fun e => h.sv e.symm)).trans (B.block s sl (by simp))
  exact ⟨by rw [Joins.cell_of_block (e.trans h.box)]; rfl, Joins.unfrozen_of_block (e.trans h.box) 2⟩
set_option maxRecDepth 100000 in
set_option maxHeartbeats 4000000 in
theorem note_any {w : World} {s p a m : Nat} {v : Value} {S : S0} (h : Sp w s p a m v S) (hl : S.l.length ≤ 1000) (i n : Nat) (hi : i ≤ 1048576) (hn : n ≤ 4096) (hus : S.us ≤ 1099511627776) (hbl : S.bl ≤ 1099511627776) :
    Calls Tryz.prog 164 #[.pointer (some ⟨s, 0, none⟩), .agg #[.int .i64 (i : Int), .int .i64 (n : Int)]] w fun e w' =>
      (∃ u, e = .returned u) ∧ (∃ v', Sp w' s p a m v' (S.add i n) ∧ ∀ k, v'.ownBlock = some k → v.ownBlock = some k ∨ w.heap.size ≤ k) ∧ Chg (ft s m v) w w' := by
  have c2 := h.c2
  have z2 := h.z 2
  have sl := h.lt s (.inl rfl)
  have c2a : ∀ o, (w.alloc o).cell? ⟨s, 2, none⟩ = some v := fun o => Lib.cell?_alloc_some _ c2
  have c2b : ∀ o o', ((w.alloc o).alloc o').cell? ⟨s, 2, none⟩ = some v := fun o o' => Lib.cell?_alloc_some _ (c2a o)
  have R := Hid.mk h.row
  have Hh := Hid.mk h
  obtain ⟨i0, hi0, hz0, hz1, hz2⟩ := info_parts info80
  clear h
  go_enter Tryz.func164, Tryz.ntmps164
  go_upto_region 1 with fail
  go_cut [] from 4 to 13 (fun wx => ∃ v', Nt w wx s p a m w.heap.size v v' (S.l ++ [(i, n)]) S.l S.nx S.us S.bl i n)
  case first =>
    go_region_law (refine step_append_lies _ (by rfl) _ _ _ (by rfl) 0 179 i0 _ 2 16 Tryz.underlying162 hi0 hz0 hz1 hz2 rfl (by decide) v _ _ (by rfl) (R.out.kept (g2 _ _ _) (Classical.em _)) ⟨_, 0, none⟩ 1 1 [.int .i64 (i : Int), .int .i64 (n : Int)] (by rfl) rfl (World.news_of_block (nb3 _ _ _)) (by simp [Value.oneCell']) (by decide) (by unfold maxLen; omega) (by omega) (Nat.zero_le _) _ rfl ?_; intro q1 cap1 w1 hown1 hgrow1 hat1 hlt1; obtain ⟨d2, y2⟩ := far_s Hh.out (g2 _ _ _) hgrow1)
    all_goals go_wp2
    all_goals go_meet
    all_goals exact ⟨_, Nt.first Hh.out rfl (g2 _ _ _) (nb2 _ _ _) hgrow1 (by rcases hat1 with q | q; (· exact .inl q); (· exact .inr ⟨_, rfl, by rw [q]; simp; omega⟩)) hown1⟩
  case rest =>
    obtain ⟨v', N1⟩ := hcut
    generalize hz : w.heap.size = z at *
    obtain ⟨k3, k4, k5, k6, x0, x1⟩ := N1.cells
    obtain ⟨n0, g, q1, q2, q3⟩ := N1.drew.map
    have e1 : (i : Int).tdiv 64 = ((i / 64 : Nat) : Int) := by rw [Int.tdiv_eq_ediv_of_nonneg (by omega)]; omega
    have e2 : (i : Int).tmod 64 = ((i % 64 : Nat) : Int) := by rw [Int.tmod_eq_emod_of_nonneg (by omega)]; omega
    have kI := keyI (n := ((i / 64 : Nat) : Int)) (by unfold isI; omega)
    have L := q2.look lawI (t := 163) Tryz.underlying163 (zero41 wc.drew) kI
    rw [q3 (i / 64) (by omega)] at L
    have ml := mask_lt S.l (i / 64)
    obtain ⟨d, hd⟩ : ∃ d, i / 64 = d := ⟨_, rfl⟩
    obtain ⟨r, hr⟩ : ∃ r, i % 64 = r := ⟨_, rfl⟩
    have hr64 : r < 64 := by omega
    have hdb : (d : Int) ≤ 200000000 := by omega
    rw [hd] at e1 L kI
    rw [hr] at e2
    obtain ⟨M, hM⟩ : ∃ M, mask S.l d = M := ⟨_, rfl⟩
    rw [hM] at L
    rw [hd, hM] at ml
    have rI : (r : Int).toNat = r := by omega
    have horP : ∀ P : Nat, P < 18446744073709551616 → bits .or .u64 (M : Int) (IntKind.u64.wrap (P : Int)) = ((M ||| P : Nat) : Int) := by
      intro P hP
      rw [IntKind.wrap_u64, Int.emod_eq_of_lt (by omega) (by omega), u64_or_nat _ _ ml hP]
    have hor : bits .or .u64 (M : Int) (IntKind.u64.wrap (2 ^ r)) = ((M ||| 2 ^ r : Nat) : Int) := by
      rw [show (2 : Int) ^ r = ((2 ^ r : Nat) : Int) by simp]
      exact horP _ (Nat.pow_lt_pow_right (by omega) hr64 : 2 ^ r < 2 ^ 64)
    clear horP
    obtain ⟨w2, hst, vm2, gr2⟩ := q2.store lawI (t := 163) Tryz.underlying163 (show n0 < maxLen by unfold maxLen; omega) kI (val := .int .u64 ((M ||| 2 ^ r : Nat) : Int))
    have N2 : Nt w w2 s p a m z v v' (S.l ++ [(i, n)]) (S.l ++ [(i, n)]) S.nx S.us S.bl i n := by
      refine N1.drew.put gr2 (i, n) (by omega) vm2 (fun b hb => ?_)
      rw [mask_snoc]
      by_cases hq : i / 64 = b
      · subst hq
        rw [if_pos rfl]
        simp only
        rw [hr, hd, hM, upd_same _ (by exact lawI.key kI)]
        rfl
      · rw [if_neg hq, upd_other _ (by intro e; simp only [Lit.int.injEq, true_and] at e; omega), q3 b hb]
    have HN1 := Hid.mk N1
    have HN2 := Hid.mk N2
    obtain ⟨j3, j4, j5, j6, y0, y1⟩ := N2.cells
    have f4 := N2.zf 4
    have f5 := N2.zf 5
    have f6 := N2.zf 6
    have m5 := (N2.set (.inr trivial) (us' := S.us + n) (nx' := S.nx) (bl' := S.bl) 5 (.int .i64 ((S.us : Int) + n)) (by simp)).drew
    have HM5 := Hid.mk m5
    obtain ⟨i3, i4, i5, i6, u0, u1⟩ := m5.cells
    have g4 := m5.zf 4
    have g6 := m5.zf 6
    clear N1 q1 q2 q3 vm2 gr2 N2 m5
    go_wp2
    go_region
    go_wp2
    go_region
    have hz2 := hz
    generalize (w2.setCell ⟨s, 5, none⟩ (.int .i64 ((S.us : Int) + n))).drew = W5 at *
    clear hst L HN1 HN2 j3 j4 j5 j6 y0 y1 f4 f5 f6 k3 k4 k5 k6 x0 x1 hor
    have BG := begins_any W5 i (by omega)
    have BO := fun W => blocksOf_any W n (by omega)
    have hbk : blk n ≤ 64 := by unfold blk; omega
    by_cases hr0 : i % 64 = 0
    · rw [decide_eq_true hr0] at BG
      have N6 := (HM5.out.set (.inr trivial) (us' := S.us + n) (nx' := S.nx) (bl' := S.bl + blk n) 6 (.int .i64 ((S.bl : Int) + blk n)) (by simp)).drew
      have a1 : (S.add i n).bl = S.bl + blk n := by simp [S0.add, hr0]
      have HA1 := Hid.mk a1
      clear a1
      generalize blk n = b at *
      obtain ⟨t3, t4, t5, t6, t0, t1⟩ := N6.cells
      have l4 := N6.zf 4
      have HN6 := Hid.mk N6
      clear N6
      go_wp2_with (go_at_call 135; refine BG.mono ?_; rintro e w' ⟨rfl, hw⟩; rw [hw]; clear hw)
      go_region_with (go_at_call 183; refine (BO _).mono ?_; rintro e w' ⟨rfl, hw⟩; rw [hw]; clear hw)
      all_goals by_cases hn64 : n ≤ 64
      all_goals (first
        | (have q4 : (n : Int) ≤ 64 := by omega
           have a2 : (S.add i n).nx = i + n := by simp [S0.add, hn64]
           have N7 := HN6.out.set (.inr trivial) (us' := S.us + n) (nx' := i + n) (bl' := S.bl + b) 4 (.int .i64 ((i : Int) + n)) (by simp)
           have HN7 := Hid.mk N7
           clear N7
           go_wp2
           go_end0
           exact ⟨⟨_, rfl⟩, ⟨v', HN7.out.space a2.symm rfl HA1.out.symm, HN7.out.old⟩, HN7.out.chg⟩)
        | (have q4 : (64 : Int) < n := by omega
           have a2 : (S.add i n).nx = S.nx := by simp [S0.add, hn64]
           go_wp2
           go_end0
           exact ⟨⟨_, rfl⟩, ⟨v', HN6.out.space a2.symm rfl HA1.out.symm, HN6.out.old⟩, HN6.out.chg⟩))
    · rw [decide_eq_false hr0] at BG
      have a1 : (S.add i n).bl = S.bl := by simp [S0.add, hr0]
      by_cases hn64 : n ≤ 64
      · have q4 : (n : Int) ≤ 64 := by omega
        have a2 : (S.add i n).nx = i + n := by simp [S0.add, hn64]
        have N7 := HM5.out.set (.inr trivial) (us' := S.us + n) (nx' := i + n) (bl' := S.bl) 4 (.int .i64 ((i : Int) + n)) (by simp)
        have HN7 := Hid.mk N7
        clear N7
        go_wp2_with (go_at_call 135; refine BG.mono ?_; rintro e w' ⟨rfl, hw⟩; rw [hw]; clear hw)
        go_end0
        exact ⟨⟨_, rfl⟩, ⟨v', HN7.out.space a2.symm rfl a1.symm, HN7.out.old⟩, HN7.out.chg⟩
      · have q4 : (64 : Int) < n := by omega
        have a2 : (S.add i n).nx = S.nx := by simp [S0.add, hn64]
        go_wp2_with (go_at_call 135; refine BG.mono ?_; rintro e w' ⟨rfl, hw⟩; rw [hw]; clear hw)
        go_end0
        exact ⟨⟨_, rfl⟩, ⟨v', HM5.out.space a2.symm rfl a1.symm, HM5.out.old⟩, HM5.out.chg⟩
end Go.Proofs.YtbdoekffadmejaaGreatDoor.Bp
