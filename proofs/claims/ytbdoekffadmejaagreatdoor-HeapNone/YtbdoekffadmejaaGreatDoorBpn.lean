/- Package bump: Each, Free. -/
import Derived.Test.YtbdoekffadmejaaGreatDoorBpm
import Derived.Sort.CutIn
import Derived.Deep.RegionHeld3
namespace Go.Proofs.YtbdoekffadmejaaGreatDoor.Bp
open Go.RowKit Go.Shelf
set_option linter.unusedVariables false
set_option linter.unusedSimpArgs false
attribute [local go_sem] Oper.semAt_some

theorem told_any {w : World} {s p a m : Nat} {v : Value} {S : S0} (h : Sp w s p a m v S) (hl : S.l.length ≤ 1000) :
    Calls Tryz.prog 140 #[.pointer (some ⟨s, 0, none⟩)] w fun e w' => ∃ ga cap, v = .slice ga S.l.length cap ∧ e = .returned (.slice ga S.l.length S.l.length) ∧ Below w.heap.size w w' := by
  obtain ⟨ga, cap, rfl, hc⟩ := h.form
  have c := h.c2
  generalize S.l.length = n at *
  clear h
  cases ga with
  | none =>
    go_enter Tryz.func140, Tryz.ntmps140
    go_wp2
    go_quiet (fail)
    go_wp2
    go_ret
    exact ⟨_, _, rfl, by first | rfl | simp, below_drewN (Below.refl _ _) _⟩
  | some ad =>
    go_enter Tryz.func140, Tryz.ntmps140
    go_wp2
    go_quiet (fail)
    go_wp2
    go_ret
    exact ⟨_, _, rfl, by first | rfl | simp, below_drewN (Below.refl _ _) _⟩
theorem pcs_get : ∀ (l : List (Nat × Nat)) (i : Nat) (h : i < l.length), (pcs l)[i * 2]? = some (.int .i64 ((l[i]'h).1 : Int)) ∧ (pcs l)[i * 2 + 1]? = some (.int .i64 ((l[i]'h).2 : Int))
  | [], _, h => absurd h (Nat.not_lt_zero _)
  | t :: r, 0, _ => ⟨rfl, rfl⟩
  | t :: r, i + 1, h => by
    have ih := pcs_get r i (by simpa using h)
    have e : ∀ j, (pcs (t :: r))[(i + 1) * 2 + j]? = (pcs r)[i * 2 + j]? := fun j => by
      rw [show (i + 1) * 2 + j = (i * 2 + j) + 2 by omega]
      simp [pcs]
    exact ⟨(e 0).trans ih.1, (e 1).trans ih.2⟩
theorem Ls.of {w w' : World} {Bs : Nat} {ga : Option Addr} {cap : Nat} {l : List (Nat × Nat)} (h : w.ownsRow 0 179 2 (.slice ga l.length cap) l.length (pcs l)) (k : Below w.heap.size w w') (hB : w'.heap[Bs]? = some (.cells #[.slice ga l.length l.length] 162 (0, 0))) (hl : l.length ≤ 1000) : Ls w' Bs ga l.length l := by
  refine ⟨hB, Nat.le_refl _, fun i hi => ?_, by omega⟩
  rcases h.2 with ⟨_, h0⟩ | ⟨g, cap', cur, hv, hb, hg, X⟩
  · omega
  · simp only [Value.slice.injEq, true_and] at hv
    obtain ⟨rfl, rfl⟩ := hv
    obtain ⟨c0, c1⟩ := pcs_get l i hi
    have cell : ∀ j, j < l.length * 2 → cur[j]? = (pcs l)[j]? := by
      intro j hj
      have := h.cellAt j (by omega)
      rw [Joins.cell_of_block hg] at this
      exact this
    exact ⟨g, cur, rfl, (k.block g (Array.getElem?_eq_some_iff.1 hg).1).trans hg, (cell _ (by omega)).trans c0, (cell _ (by omega)).trans c1⟩
theorem each_any {w : World} {s p a m : Nat} {v : Value} {S : S0} (h : Sp w s p a m v S) (hl : S.l.length ≤ 1000) :
    Calls Tryz.prog 85 #[.pointer (some ⟨s, 0, none⟩)] w fun e w' => ∃ Bs ga, e = .returned (.func (.func 141) #[] #[.pointer (some ⟨Bs, 0, none⟩)]) ∧ w.heap.size ≤ Bs ∧ Ls w' Bs ga S.l.length S.l ∧ (∀ g o, ga = some ⟨g, o, none⟩ → v.ownBlock = some g) ∧ Below w.heap.size w w' := by
  have T := told_any h hl
  have R := Hid.mk h.row
  clear h
  go_enter Tryz.func85, Tryz.ntmps85
  go_wp2_with (go_at_call 140; refine T.mono ?_; rintro e w1 ⟨ga, cap, hv, rfl, B⟩)
  go_ret
  have B2 := (Below.refl _ w1).alloc (Nat.le_refl _) (.cells #[.slice ga S.l.length S.l.length] 162)
  refine ⟨w1.heap.size, ga, by simp, B.size, Ls.of (w := w) (hv ▸ R.out) (B.trans (B2.mono B.size)) (heap_alloc_new _ _) hl, ?_, B.trans (B2.mono B.size)⟩
  rintro g o rfl
  rw [hv]
  have := R.out
  rw [hv] at this
  rcases this.2 with ⟨e, _⟩ | ⟨g', cap', cur, e, _⟩
  · simp at e
  · simp only [Value.slice.injEq, Option.some.injEq, Addr.mk.injEq] at e
    obtain ⟨⟨rfl, rfl, _⟩, _⟩ := e
    simp [Value.ownBlock]
/-- What is left of a pool's row when these are given back. -/
def frees (N : Nat) (f : Nat → Int) (l : List (Nat × Nat)) : Nat → Int := l.foldl (fun f x => if x.1 % 64 = 0 then freeF f N ((x.1 / 64 : Nat) : Int) else f) f
theorem frees_snoc (N : Nat) (f : Nat → Int) (l : List (Nat × Nat)) (x : Nat × Nat) : frees N f (l ++ [x]) = if x.1 % 64 = 0 then freeF (frees N f l) N ((x.1 / 64 : Nat) : Int) else frees N f l := by simp [frees]
theorem frees_good {N : Nat} : ∀ (l : List (Nat × Nat)) (f : Nat → Int), Good f N → Good (frees N f l) N
  | [], _, h => h
  | x :: l, f, h => by
    unfold frees
    simp only [List.foldl_cons]
    refine frees_good l _ ?_
    split
    · exact freeF_good h
    · exact h
theorem seven {w w' : World} {s p a m : Nat} {v : Value} {S : S0} (h : Sp w s p a m v S) (e : w'.heap[s]? = w.heap[s]?) :
    w'.cell? ⟨s, 0, none⟩ = some (.pointer (some ⟨p, 0, none⟩)) ∧ w'.cell? ⟨s, 1, none⟩ = some (.pointer (some ⟨a, 0, none⟩)) ∧ w'.cell? ⟨s, 2, none⟩ = some v ∧ w'.cell? ⟨s, 3, none⟩ = some (.map (some m)) ∧ w'.cell? ⟨s, 4, none⟩ = some (.int .i64 (S.nx : Int)) ∧ w'.cell? ⟨s, 5, none⟩ = some (.int .i64 (S.us : Int)) ∧ w'.cell? ⟨s, 6, none⟩ = some (.int .i64 (S.bl : Int)) := by
  refine ⟨?_, ?_, ?_, ?_, ?_, ?_, ?_⟩
  all_goals (rw [Joins.cell_of_block (e.trans h.box)]; rfl)
theorem sevenz {w w' : World} {s p a m : Nat} {v : Value} {S : S0} (h : Sp w s p a m v S) (e : w'.heap[s]? = w.heap[s]?) :
    w'.frozen? ⟨s, 0, none⟩ = false ∧ w'.frozen? ⟨s, 1, none⟩ = false ∧ w'.frozen? ⟨s, 2, none⟩ = false ∧ w'.frozen? ⟨s, 3, none⟩ = false ∧ w'.frozen? ⟨s, 4, none⟩ = false ∧ w'.frozen? ⟨s, 5, none⟩ = false ∧ w'.frozen? ⟨s, 6, none⟩ = false :=
  ⟨Joins.unfrozen_of_block (e.trans h.box) _, Joins.unfrozen_of_block (e.trans h.box) _, Joins.unfrozen_of_block (e.trans h.box) _, Joins.unfrozen_of_block (e.trans h.box) _, Joins.unfrozen_of_block (e.trans h.box) _, Joins.unfrozen_of_block (e.trans h.box) _, Joins.unfrozen_of_block (e.trans h.box) _⟩
theorem set7 {W' W8 : World} {s p a m m' : Nat} {v : Value} {S : S0} (slt : s < W'.heap.size) (h : Sp W' s p a m v S) (hm : W'.drew.heap.size ≤ m') (V : VM 3 W8 m' 0 (fun _ => none)) (B : Below W'.drew.heap.size W'.drew W8) :
    W'.heap.size ≤ m' ∧ VM 3 (((((((W8.setCell ⟨s, 0, none⟩ (.pointer (some ⟨p, 0, none⟩))).setCell ⟨s, 1, none⟩ (.pointer (some ⟨a, 0, none⟩))).setCell ⟨s, 2, none⟩ (.slice none 0 0)).setCell ⟨s, 3, none⟩ (.map (some m'))).setCell ⟨s, 4, none⟩ (.int .i64 0)).setCell ⟨s, 5, none⟩ (.int .i64 0)).setCell ⟨s, 6, none⟩ (.int .i64 0)) m' 0 (fun _ => none) ∧
      (((((((W8.setCell ⟨s, 0, none⟩ (.pointer (some ⟨p, 0, none⟩))).setCell ⟨s, 1, none⟩ (.pointer (some ⟨a, 0, none⟩))).setCell ⟨s, 2, none⟩ (.slice none 0 0)).setCell ⟨s, 3, none⟩ (.map (some m'))).setCell ⟨s, 4, none⟩ (.int .i64 0)).setCell ⟨s, 5, none⟩ (.int .i64 0)).setCell ⟨s, 6, none⟩ (.int .i64 0)).heap[s]? = some (.cells (cellsS p a m') 165 (0, 0)) ∧
      W'.grownBy (((((((W8.setCell ⟨s, 0, none⟩ (.pointer (some ⟨p, 0, none⟩))).setCell ⟨s, 1, none⟩ (.pointer (some ⟨a, 0, none⟩))).setCell ⟨s, 2, none⟩ (.slice none 0 0)).setCell ⟨s, 3, none⟩ (.map (some m'))).setCell ⟨s, 4, none⟩ (.int .i64 0)).setCell ⟨s, 5, none⟩ (.int .i64 0)).setCell ⟨s, 6, none⟩ (.int .i64 0)) (some s) := by
  have hm2 : W'.heap.size ≤ m' := hm
  have far : ∀ (W : World) (i : Nat) (x : Value) (k : Nat), k ≠ s → (W.setCell ⟨s, i, none⟩ x).heap[k]? = W.heap[k]? := fun W i x k hk => Below.heap_setCell _ _ _ _ hk
  have G0 : W'.grownBy W8 (some s) := ⟨B.os, B.tape, B.output, B.size, fun k hk _ => B.block k hk⟩
  refine ⟨hm2, V.of_block ?_, ?_, grown_trans G0 (grown_trans (grown_set _ _ _ _) (grown_trans (grown_set _ _ _ _) (grown_trans (grown_set _ _ _ _) (grown_trans (grown_set _ _ _ _) (grown_trans (grown_set _ _ _ _) (grown_trans (grown_set _ _ _ _) (grown_set _ _ _ _)))))))⟩
  · have : m' ≠ s := by omega
    rw [far _ _ _ _ this, far _ _ _ _ this, far _ _ _ _ this, far _ _ _ _ this, far _ _ _ _ this, far _ _ _ _ this, far _ _ _ _ this]
  · have b0 := (B.block s slt).trans h.box
    exact (Joins.block_setCell (Joins.block_setCell (Joins.block_setCell (Joins.block_setCell (Joins.block_setCell (Joins.block_setCell (Joins.block_setCell b0 _) _) _) _) _) _) _).trans (by simp)
theorem set7c {W' W8 : World} {s p a m m' b : Nat} {v : Value} {S : S0} (slt : s < W'.heap.size) (h : Sp W' s p a m v S) (B : Below W'.drew.heap.size W'.drew W8) (hb : b ≠ s) (c : W8.cell? ⟨b, 0, none⟩ = some (.pointer (some ⟨s, 0, none⟩))) :
    (((((((W8.setCell ⟨s, 0, none⟩ (.pointer (some ⟨p, 0, none⟩))).setCell ⟨s, 1, none⟩ (.pointer (some ⟨a, 0, none⟩))).setCell ⟨s, 2, none⟩ (.slice none 0 0)).setCell ⟨s, 3, none⟩ (.map (some m'))).setCell ⟨s, 4, none⟩ (.int .i64 0)).setCell ⟨s, 5, none⟩ (.int .i64 0)).setCell ⟨s, 6, none⟩ (.int .i64 0)).cell? ⟨b, 0, none⟩ = some (.pointer (some ⟨s, 0, none⟩)) ∧ (((((((W8.setCell ⟨s, 0, none⟩ (.pointer (some ⟨p, 0, none⟩))).setCell ⟨s, 1, none⟩ (.pointer (some ⟨a, 0, none⟩))).setCell ⟨s, 2, none⟩ (.slice none 0 0)).setCell ⟨s, 3, none⟩ (.map (some m'))).setCell ⟨s, 4, none⟩ (.int .i64 0)).setCell ⟨s, 5, none⟩ (.int .i64 0)).setCell ⟨s, 6, none⟩ (.int .i64 0)).cell? ⟨s, 0, none⟩ = some (.pointer (some ⟨p, 0, none⟩)) ∧ (((((((W8.setCell ⟨s, 0, none⟩ (.pointer (some ⟨p, 0, none⟩))).setCell ⟨s, 1, none⟩ (.pointer (some ⟨a, 0, none⟩))).setCell ⟨s, 2, none⟩ (.slice none 0 0)).setCell ⟨s, 3, none⟩ (.map (some m'))).setCell ⟨s, 4, none⟩ (.int .i64 0)).setCell ⟨s, 5, none⟩ (.int .i64 0)).setCell ⟨s, 6, none⟩ (.int .i64 0)).cell? ⟨s, 1, none⟩ = some (.pointer (some ⟨a, 0, none⟩)) := by
  have far : ∀ (W : World) (i : Nat) (x : Value) (k : Nat), k ≠ s → (W.setCell ⟨s, i, none⟩ x).heap[k]? = W.heap[k]? := fun W i x k hk => Below.heap_setCell _ _ _ _ hk
  have b0 := (B.block s slt).trans h.box
  have b7 := Joins.block_setCell (i := 6) (Joins.block_setCell (i := 5) (Joins.block_setCell (i := 4) (Joins.block_setCell (i := 3) (Joins.block_setCell (i := 2) (Joins.block_setCell (i := 1) (Joins.block_setCell (i := 0) b0 (.pointer (some ⟨p, 0, none⟩))) (.pointer (some ⟨a, 0, none⟩))) (.slice none 0 0)) (.map (some m'))) (.int .i64 0)) (.int .i64 0)) (.int .i64 0)
  refine ⟨?_, by rw [Joins.cell_of_block b7]; simp, by rw [Joins.cell_of_block b7]; simp⟩
  refine (World.cell?_of_block (w := W8) (a := ⟨b, 0, none⟩) ?_).trans c
  simp only
  rw [far _ _ _ _ hb, far _ _ _ _ hb, far _ _ _ _ hb, far _ _ _ _ hb, far _ _ _ _ hb, far _ _ _ _ hb, far _ _ _ _ hb]
set_option maxRecDepth 100000 in
set_option maxHeartbeats 4000000 in
theorem free_space {B : Nat} {W : World} {s p a m pb ab N M : Nat} {v : Value} {S : S0} {f : Nat → Int} {xs : List Int} (h : Sy B W s p a m pb ab N M v S f xs) (hl : S.l.length ≤ 1000) :
    Calls Tryz.prog 82 #[.pointer (some ⟨s, 0, none⟩)] W fun e w' => e = .returned (.int .i64 0) ∧ ∃ m', W.heap.size ≤ m' ∧ Sy B w' s p a m' pb ab N M nilS S0.none (frees N f S.l) xs ∧ Chg (fun k => k = s ∨ k = pb) W w' := by
  refine (callsIn_wide (n := 3)).1 ?_
  refine callsIn_of_wp_marks Tryz.func82 rfl trivial ?_ rfl
  simp only [Tryz.ntmps82, List.size_toArray, List.length_cons, List.length_nil, Nat.reduceAdd, Nat.reduceSub, Array.replicate_succ, Array.replicate_zero, List.push_toArray, List.append_toArray, List.nil_append, List.cons_append]
  have A0 := (Below.refl _ W).alloc (Nat.le_refl _) (.cells #[.pointer (some ⟨s, 0, none⟩)] 100)
  have h1 := h.later A0
  have bc := box_cell W (.pointer (some ⟨s, 0, none⟩)) 100
  have bc1 := bc.1
  have EA := each_any h1.sp hl
  have Hh := Hid.mk h
  have HS1 := Hid.mk h1
  have HA0 := Hid.mk A0
  clear h h1 A0
  gi_wp2_with (refine ⟨trivial, ?_⟩; gi_at_call 85; refine (callsIn_wide.2 EA).mono ?_; rintro e w1 ⟨Bs, ga, rfl, hBs, L1, hga, B1⟩)
  have hs0 := HS1.out
  have sl1 := hs0.sp.lt s (.inl rfl)
  simp only [World.size_alloc] at hBs sl1 B1
  have W1 : (W.alloc (.cells #[.pointer (some ⟨s, 0, none⟩)] 100)).heap.size = W.heap.size + 1 := World.size_alloc _ _
  have Y1 := Hid.mk (hs0.later (W' := w1) (by rw [W1]; exact B1))
  have HW1 := Hid.mk W1
  have szw : W.heap.size + 1 ≤ w1.heap.size := by have := B1.size; rw [HW1.out] at this; exact this
  have kb : w1.cell? ⟨W.heap.size, 0, none⟩ = some (.pointer (some ⟨s, 0, none⟩)) := (B1.cell (p := ⟨W.heap.size, 0, none⟩) (Nat.lt_succ_self _)).trans bc1
  have HB1 := Hid.mk B1
  have HL1 := Hid.mk L1
  have npb : ∀ k, ft s m v k → k ≠ pb := fun k q => (Hh.out.ap.ft k q).2.1
  have plt := Hh.out.pool.lt
  have hz : ∀ k, kz Bs ga k → k < w1.heap.size ∧ k ≠ pb := by
    rintro k (rfl | ⟨o, e⟩)
    · exact ⟨(Array.getElem?_eq_some_iff.1 L1.sl).1, by omega⟩
    · have := hga k o e
      exact ⟨by have := Hh.out.sp.lt k (.inr (.inr this)); omega, npb k (.inr (.inr this))⟩
  have Hz := Hid.mk hz
  clear hs0 W1 hz bc bc1 EA
  refine wpIn_rangeFunc_ownF rfl (by decide) (gf := 141) (lb := #[.pointer (some ⟨Bs, 0, none⟩)]) rfl trivial (enters_of Tryz.func141 (by kernel_rfl) rfl)
    (each_stops 2 Bs S.l.length ga S.l (by decide) _ L1) Sty.trans (Sty.put (fun k q => (Hz.out k q).1)) (Below.refl _ _) (fun _ => rfl)
    (fun pre W' => Has 182 W' p pb (frees N f (pre.map Subtype.val)) N ∧ w1.grownBy W' (some pb))
    (fun _ _ _ => False)
    (OwnFrom.and (Own.from (own_has 182 p pb N (fun pre : List (El S.l) => frees N f (pre.map Subtype.val))) _) (own_grown (Nat.le_refl _)))
    (fun _ _ _ _ _ hs _ _ => hs)
    ⟨Y1.out.pool, grown_refl _ _⟩
    (fun x => { tmps := #[.pointer (some ⟨s, 0, none⟩), .pointer (some ⟨W.heap.size, 0, none⟩), .int .i64 0, .int .i64 x.1.1, .pointer (some ⟨s, 0, none⟩), .bool false, .pointer (some ⟨s, 0, none⟩), .func (.func 141) #[] #[.pointer (some ⟨Bs, 0, none⟩)], .int .i64 x.1.1, .int .i64 x.1.2, undef, undef, undef, undef, undef, undef, undef, undef, undef, undef, undef, undef, undef, undef, undef, undef, undef, undef, undef, undef], defers := [] }) ?assign ?body ?done ?stop
  case assign =>
    intro l x W K hK
    gi_wp2
    exact hK
  case body =>
    rintro l pre x W' ⟨hP, hg⟩ hpl
    have k1 := (World.cell?_of_block (w := w1) (a := ⟨W.heap.size, 0, none⟩) (hg.block W.heap.size (by omega) (by simp; omega))).trans kb
    have k0 := ((Y1.out.sp).chg (Chg.one (X := fun j => j = pb) hg rfl) (fun j q => npb j q)).c0
    have xb : x.1.1 ≤ 524288 := by have := Hh.out.fit.ats x.1 x.2; have := Hh.out.len; have := Hh.out.arena.len; omega
    have BG := begins_any W' x.1.1 (by omega)
    have GG := frees_good (pre.map Subtype.val) f Hh.out.good
    have sn := frees_snoc N f (pre.map Subtype.val) x.1
    obtain ⟨i, hi⟩ : ∃ i, x.1.1 = i := ⟨_, rfl⟩
    obtain ⟨n, hn⟩ : ∃ n, x.1.2 = n := ⟨_, rfl⟩
    have HSN : Hid (frees N f ((pre ++ [x]).map Subtype.val) = if i % 64 = 0 then freeF (frees N f (pre.map Subtype.val)) N ((i / 64 : Nat) : Int) else frees N f (pre.map Subtype.val)) := ⟨by rw [List.map_append, ← hi]; exact sn⟩
    simp only [hi, hn] at BG xb ⊢
    clear sn hi hn
    have hp2 := hP.lt
    have KO : ∀ {W'' : World}, W'.grownBy W'' (some pb) → Sty (kz Bs ga) W' W'' := fun g k q => g.block k (Nat.lt_of_lt_of_le (Hz.out k q).1 hg.size) (by have := (Hz.out k q).2; simpa using this)
    have HKO := Hid.mk (show ∀ (W'' : World), W'.grownBy W'' (some pb) → Sty (kz Bs ga) W' W'' from fun W'' g => KO g)
    have HN := Hid.mk hP.nums
    by_cases h64 : i % 64 = 0
    · rw [decide_eq_true h64] at BG
      have FR := free_any hP GG ((i / 64 : Nat) : Int)
      have td : (i : Int).tdiv 64 = ((i / 64 : Nat) : Int) := by rw [Int.tdiv_eq_ediv_of_nonneg (by omega)]; omega
      have HS2 : Hid (frees N f ((pre ++ [x]).map Subtype.val) = freeF (frees N f (pre.map Subtype.val)) N ((i / 64 : Nat) : Int)) := ⟨by rw [HSN.out, if_pos h64]⟩
      have db : ((i / 64 : Nat) : Int) ≤ 600000 := by omega
      generalize i / 64 = d at *
      clear GG KO HSN
      gi_wp2_with (first
        | (refine ⟨trivial, ?_⟩; gi_at_call 135; refine (CallsIn.inRound l (callsIn_wide.2 BG)).mono ?_; rintro e W2 ⟨rfl, hw⟩; rw [hw]; clear hw)
        | (refine ⟨trivial, ?_⟩; gi_at_call 136; refine (CallsIn.inRound l (callsIn_wide.2 FR)).mono ?_; rintro e W2 ⟨rfl, hh2, hg2⟩))
      exact ⟨keeps_row hg2 HN.out, HKO.out _ hg2, by rw [HS2.out]; exact hh2, grown_trans hg hg2⟩
    · rw [decide_eq_false h64] at BG
      have HS2 : Hid (frees N f ((pre ++ [x]).map Subtype.val) = frees N f (pre.map Subtype.val)) := ⟨by rw [HSN.out, if_neg h64]⟩
      clear GG KO HSN
      gi_wp2_with (refine ⟨trivial, ?_⟩; gi_at_call 135; refine (CallsIn.inRound l (callsIn_wide.2 BG)).mono ?_; rintro e W2 ⟨rfl, hw⟩; rw [hw]; clear hw)
      exact ⟨KeepsOthers.refl _, Sty.refl _ _, by rw [HS2.out]; exact hP, hg⟩
  case done =>
    rintro D ys W' hD hy ⟨hP, hg⟩ hK
    rw [hy] at hP
    have sp' := (Y1.out.sp).chg (Chg.one (X := fun j => j = pb) hg rfl) (fun j q => npb j q)
    have ar' := (Y1.out.arena).chg (Chg.one (X := fun j => j = pb) hg rfl) Hh.out.ap.pba.symm Hh.out.ap.pbab.symm
    have k1 := (World.cell?_of_block (w := w1) (a := ⟨W.heap.size, 0, none⟩) (hg.block W.heap.size (by omega) (by simp; omega))).trans kb
    have k0 := sp'.c0
    have k2 := sp'.c1
    have EM := empty_any W'.drew p a
    have HSP := Hid.mk sp'
    have HAR := Hid.mk ar'
    have HP' := Hid.mk hP
    have slt := sp'.lt s (.inl rfl)
    have hsW0 := Hh.out.sp.lt s (.inl rfl)
    clear sp' ar' hP
    gi_wp2
    have hmx : Tryz.prog.follows .mixedOrders = true := by kernel_rfl
    gi_cut [] from 19 (fun W'' => ∃ m', W'.heap.size ≤ m' ∧ VM 3 W'' m' 0 (fun _ => none) ∧ W''.heap[s]? = some (.cells (cellsS p a m') 165 (0, 0)) ∧ W'.grownBy W'' (some s))
    case first =>
      rename_i J K' hJ hK2
      refine wpIn_wide.2 ?_
      go_region_held3 (fun wx => wx.cell? ⟨W.heap.size, 0, none⟩ = some (.pointer (some ⟨s, 0, none⟩)) ∧ wx.cell? ⟨s, 0, none⟩ = some (.pointer (some ⟨p, 0, none⟩)) ∧ wx.cell? ⟨s, 1, none⟩ = some (.pointer (some ⟨a, 0, none⟩))) (go_keep) (first | (go_at_call 137; refine EM.mono ?_; rintro e W8 ⟨m', rfl, hm', V8, B8⟩; have q1 := (B8.cell (p := ⟨W.heap.size, 0, none⟩) (World.block_lt_of_cell? _ _ k1)).trans k1; obtain ⟨x0, x1, x2, x3, x4, x5, x6⟩ := seven (w' := W8) HSP.out ((B8.block s slt)); obtain ⟨z0, z1, z2, z3, z4, z5, z6⟩ := sevenz (w' := W8) HSP.out ((B8.block s slt)); have H7 := Hid.mk (set7 slt HSP.out hm' V8 B8); obtain ⟨y0, y1, y2⟩ := set7c (m' := m') slt HSP.out B8 (show W.heap.size ≠ s by omega) q1))
      refine hK2 _ _ (Met.intro (hJ _ _ ?_))
      exact ⟨_, _, _, _, _, _, _, _, _, _, _, ⟨m', H7.out⟩, rfl⟩
    case rest =>
      obtain ⟨m', hm', V8, bx8, G8⟩ := hcut
      have hDs : w1.heap.size ≤ D := by simpa using hD
      have hK' : wc.heap[D]? = W'.heap[D]? := G8.block D (Array.getElem?_eq_some_iff.1 hK).1 (by simp; omega)
      gi_wp2
      have hKc := hK'.trans hK
      refine ⟨by simp, .inl ⟨_, _, rfl, run_takeDeferred hKc, ?_⟩⟩
      refine ⟨_, results_tmp rfl _ _ _, rfl, m', ?_⟩
      have Dlt := (Array.getElem?_eq_some_iff.1 hK).1
      have gsz := hg.size
      have far : ∀ k, k ≠ D → (wc.putObj D (.deferred none)).heap[k]? = wc.heap[k]? := fun k hk => World.putObj_heap_other hk
      have pl := Hh.out.pool.lt
      have al := Hh.out.arena.lt
      have sft := Hh.out.ap.ft s (.inl rfl)
      have hsW := Hh.out.sp.lt s (.inl rfl)
      have hBW := Hh.out.hB
      have P2 := HP'.out.kept G8 (by simp; omega) (by simp; omega)
      have R2 := HAR.out.chg (Chg.one (X := fun j => j = s) G8 rfl) (by omega) (by omega)
      refine ⟨by omega, ⟨⟨(far s (by omega)).trans bx8, World.ownsRow_nil _ _ _ _, ⟨0, _, Nat.zero_le _, V8.of_block (far m' (by omega)), fun b hb => rfl⟩, by omega, by simp [Value.ownBlock], by simp [Value.ownBlock]⟩, Fit.none _, ⟨(far p (by omega)).trans P2.box, (far pb (by omega)).trans P2.nums, P2.ne, P2.pos, P2.len⟩, frees_good _ _ Hh.out.good, ⟨(far a (by omega)).trans R2.box, (far ab (by omega)).trans R2.words, R2.ne, R2.len⟩, Hh.out.len, ⟨?_, Hh.out.ap.pa, Hh.out.ap.pab, Hh.out.ap.pba, Hh.out.ap.pbab⟩, ?_, fun k e => by simp [Value.ownBlock] at e⟩, ?_⟩
      · rintro k (rfl | rfl | e)
        · exact sft
        · omega
        · simp [Value.ownBlock] at e
      · have := G8.size; simp; omega
      · refine ⟨?_, ?_, ?_, by have := G8.size; simp; omega, fun k hk hx => ?_⟩
        · exact G8.os.trans (hg.os.trans (HB1.out.os.trans HA0.out.os))
        · exact G8.tape.trans (hg.tape.trans (HB1.out.tape.trans HA0.out.tape))
        · exact G8.output.trans (hg.output.trans (HB1.out.output.trans HA0.out.output))
        · have x1 : k ≠ s := fun e => hx (.inl e)
          have x2 : k ≠ pb := fun e => hx (.inr e)
          exact (far k (by omega)).trans ((G8.block k (by omega) (by simpa using x1)).trans ((hg.block k (by omega) (by simpa using x2)).trans ((HB1.out.block k (by omega)).trans (HA0.out.block k hk))))
  case stop =>
    rintro D c pre W _ _ h _
    exact h.elim
end Go.Proofs.YtbdoekffadmejaaGreatDoor.Bp
