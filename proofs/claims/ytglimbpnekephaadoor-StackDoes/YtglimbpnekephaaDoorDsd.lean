/- The document's own stack: its Push. -/
import Derived.Test.YtglimbpnekephaaDoorDsc
import Derived.Test.YtglimbpnekephaaDoorRef
namespace Go.Proofs.YtglimbpnekephaaDoor
open Go.RowKit
set_option linter.unusedVariables false
set_option linter.unusedSimpArgs false

theorem rowI_one (l : List Int) : ∀ u ∈ rowI l, u.oneCell' = true := by
  intro u hu
  obtain ⟨j, _, rfl⟩ := List.mem_map.1 hu
  simp [Value.oneCell']
theorem kq_later {d : Nat} {v : Value} {w W w' : World} (B : Below w.heap.size w W) (h : Kq d v W w') : Kq d v w w' :=
  ⟨h.os.trans B.os, h.tape.trans B.tape, h.output.trans B.output, Nat.le_trans B.size h.size, fun k hk h1 h2 => (h.block k (Nat.lt_of_lt_of_le hk B.size) h1 h2).trans (B.block k hk)⟩
theorem rs_below {w w3 : World} {o : Obj} {v : Value} (h : ∃ row, (w.drew.alloc o).grownBy w3 row ∧ ∀ k, row = some k → 0 < 0 ∧ v.ownBlock = some k) : Below w.heap.size w w3 := by
  obtain ⟨row, g, hk⟩ := h
  have s : (w.drew.alloc o).heap.size = w.heap.size + 1 := World.size_alloc _ _
  refine ⟨g.os, g.tape, g.output, by have := g.size; omega, fun k hkk => ?_⟩
  have e1 := g.block k (by omega) (fun e => by have := (hk k e.symm).1; omega)
  exact e1.trans (Below.heap_alloc _ _ _ hkk)
set_option maxRecDepth 100000 in
set_option maxHeartbeats 8000000 in
theorem rpush_go {w : World} {d base : Nat} {v : Value} {l : List Fp} {N : Nat} (h : Ds w d base (N : Int) v l) (f : Fr) (o : Option Addr) (cap : Nat) (P : PS w o cap f.ps) (hN : N ≤ 65536) (hu : usedN l ≤ N) (hll : l.length ≤ 65536) (hd : d < base) (hb : base ≤ w.heap.size) (hr : rightE f = 0) (hfit : usedN l + (f.ps.length + 1) ≤ N) :
    Calls Tryd.prog 29 #[.pointer (some ⟨d, 0, none⟩), fv f o cap] w fun e w' => e = .returned (.int .i64 0) ∧ ∃ v' ga cp, Ds w' d base (N : Int) v' (l ++ [⟨f, ga, cp⟩]) ∧ Kq d v w w' ∧ ∀ ad, ga = some ad → w.heap.size ≤ ad.block := by
  have hok := Okf.of hr
  have hfn := hok.n
  have B0 : Below w.heap.size w (w.alloc (Obj.cells #[.int .i64 f.k, .int .i64 f.a, .int .i64 f.b, .slice o f.ps.length cap] 36)) := by go_grown
  have bx : (w.alloc (Obj.cells #[.int .i64 f.k, .int .i64 f.a, .int .i64 f.b, .slice o f.ps.length cap] 36)).heap[w.heap.size]? = some (.cells #[.int .i64 f.k, .int .i64 f.a, .int .i64 f.b, .slice o f.ps.length cap] 36 (0, 0)) := heap_alloc_new _ _
  have RA := ref_any f o cap (w.alloc (Obj.cells #[.int .i64 f.k, .int .i64 f.a, .int .i64 f.b, .slice o f.ps.length cap] 36)) (P.later B0)
  rw [hr] at RA
  have HH := Hid.mk h
  have HP := Hid.mk P
  have HB0 := Hid.mk B0
  have HBX := Hid.mk bx
  obtain ⟨i0, hi, hz0, hz1, hz2⟩ := info_parts info3
  obtain ⟨j0, hj, hy0, hy1, hy2⟩ := info_parts info36
  obtain ⟨b, hbb⟩ : ∃ b, w.heap.size = b := ⟨_, rfl⟩
  unfold fv at *
  obtain ⟨fk, hfk⟩ : ∃ x, x = f.k := ⟨_, rfl⟩
  obtain ⟨fa, hfa⟩ : ∃ x, x = f.a := ⟨_, rfl⟩
  obtain ⟨fb, hfb⟩ : ∃ x, x = f.b := ⟨_, rfl⟩
  obtain ⟨fn, hfn2⟩ : ∃ x, x = f.ps.length := ⟨_, rfl⟩
  simp only [← hfk, ← hfa, ← hfb, ← hfn2] at RA hfit hfn HBX HB0 ⊢
  have HFN : Hid ((rowI f.ps).length = fn ∧ f.ps.length = fn ∧ fk = f.k ∧ fa = f.a ∧ fb = f.b) := ⟨⟨by rw [hfn2]; simp [rowI], hfn2.symm, hfk, hfa, hfb⟩⟩
  clear h P B0 bx hfk hfa hfb hfn2
  go_enter Tryd.func29, Tryd.ntmps29
  go_wp2_with (go_at_call 14; refine RA.mono ?_; clear RA; rintro e w1 ⟨rfl, B1⟩)
  have HB1 : Hid (Below w.heap.size w w1) := ⟨belowOn HB0.out B1⟩
  have HD1 := Hid.mk (HH.out.later HB1.out)
  have bx1 : w1.heap[b]? = some (.cells #[.int .i64 fk, .int .i64 fa, .int .i64 fb, .slice o fn cap] 36 (0, 0)) := (B1.block b (by rw [← hbb]; simp)).trans (by rw [← hbb]; exact HBX.out)
  have BD : Below w1.heap.size w1 w1.drew := below_drew w1
  have HD1d := HD1.out.later BD
  have UR := used34_any HD1d.box HD1d.R (by omega) hll
  have c0 : w1.cell? ⟨d, 0, none⟩ = some (.int .i64 (N : Int)) := HD1.out.box.cell 0
  have c3 : w1.cell? ⟨b, 3, none⟩ = some (.slice o fn cap) := by rw [Joins.cell_of_block bx1]; rfl
  obtain ⟨U, hU⟩ : ∃ U, usedN l = U := ⟨_, rfl⟩
  rw [hU] at UR hu hfit
  have gt : ¬ (U : Int) + (fn : Int) + 1 > (N : Int) := by omega
  have gt2 : ¬ (N : Int) < (U : Int) + (fn : Int) + 1 := by omega
  have gt3 : (U : Int) + (fn : Int) + 1 ≤ (N : Int) := by omega
  have ww1 : IntKind.i64.wrap ((U : Int) + (fn : Int)) = (U : Int) + (fn : Int) := by rw [IntKind.wrap_i64]; omega
  have ww2 : IntKind.i64.wrap ((U : Int) + (fn : Int) + 1) = (U : Int) + (fn : Int) + 1 := by rw [IntKind.wrap_i64]; omega
  clear HD1d BD B1 hU
  go_wp2
  go_region_held3 (fun W' => W'.cell? ⟨d, 0, none⟩ = some (.int .i64 (N : Int)) ∧ W'.cell? ⟨b, 3, none⟩ = some (.slice o fn cap)) (go_keep) (first
    | (go_at_call 34; refine UR.mono ?_; rintro e w7 ⟨rfl, hw⟩; rw [hw]; clear hw))
  all_goals
    have HB2 : Hid (Below w.heap.size w w1.drew) := ⟨belowOn HB1.out (below_drew w1)⟩
    have HD2 := Hid.mk (HD1.out.later (below_drew w1))
    have bx2 : w1.drew.heap[b]? = some (.cells #[.int .i64 fk, .int .i64 fa, .int .i64 fb, .slice o fn cap] 36 (0, 0)) := bx1
    have HP2 := Hid.mk (HP.out.later HB2.out)
    have vb : ∀ k, v.ownBlock = some k → base ≤ k ∧ k < w.heap.size := fun k e => HH.out.R.lt k e
    have dlt := HH.out.box.lt
    have hbd : b ≠ d := by omega
    have hdb : d ≠ b := by omega
    have HVB := Hid.mk vb
    have HMM : Hid (l.length ≤ 65536) := ⟨hll⟩
    obtain ⟨m, hm⟩ : ∃ m, l.length = m := ⟨_, rfl⟩
    have HM := Hid.mk hm
    have bl2 : b < w1.drew.heap.size := (Array.getElem?_eq_some_iff.1 bx2).1
    clear vb bx1 c0 c3 UR
    generalize w1.drew = W2 at *
    have HNEW : Hid (0 < fn → ∃ ad, o = some ad ∧ ∀ j u, (rowI f.ps)[j]? = some u → (W2.drew.alloc (.cells #[] 3)).cell? (ad.add j) = some u) := ⟨fun h0 => by
      have Bz : Below W2.heap.size W2 (W2.drew.alloc (.cells #[] 3)) := belowOn (below_drew W2) (by go_grown)
      obtain ⟨g, off, e, hx⟩ := (HP2.out.later Bz).num (by rw [HFN.out.2.1]; exact h0)
      refine ⟨_, e, fun j u hu => ?_⟩
      have hj : j < f.ps.length := by have := (List.getElem?_eq_some_iff.1 hu).1; simpa [rowI] using this
      have ea : (⟨g, off, none⟩ : Addr).add j = ⟨g, off + j, none⟩ := by unfold Addr.add; split <;> simp_all
      rw [ea, hx j hj, ← hu]
      simp [rowI, hj]⟩
    have HPT : Hid (∀ {ga1 : Option Addr} {cap1 : Nat} {w3 : World}, RowS w3 W2.heap.size 3 1 (.slice ga1 fn cap1) fn (rowI f.ps) → (fn = 0 → (.slice ga1 fn cap1 : Value) = .slice (some ⟨W2.heap.size, 0, none⟩) 0 0 ∧ w3 = W2.drew.alloc (.cells #[] 3)) → PT w3 ga1 cap1 f.ps ∧ ∀ ad, ga1 = some ad → W2.heap.size ≤ ad.block ∧ ad.block < w3.heap.size) := ⟨fun {ga1 cap1 w3} r z => by
      rw [← HFN.out.2.1] at r z
      refine pt_row r (by rw [HFN.out.2.1]; exact hfn) (fun h0 ad e => ?_)
      obtain ⟨z1, z2⟩ := z h0
      simp only [Value.slice.injEq] at z1
      rw [z1.1] at e
      cases e
      exact ⟨Nat.le_refl _, #[], by rw [z2]; exact heap_alloc_new _ _⟩⟩
    have HE : Hid (∀ w3, Below W2.heap.size W2 w3 → w3.cell? ⟨b, 0, none⟩ = some (.int .i64 fk) ∧ w3.cell? ⟨b, 1, none⟩ = some (.int .i64 fa) ∧ w3.cell? ⟨b, 2, none⟩ = some (.int .i64 fb) ∧ w3.cell? ⟨b, 3, none⟩ = some (.slice o fn cap)) := ⟨fun w3 B => by
      have e := (B.block b bl2).trans bx2
      refine ⟨?_, ?_, ?_, ?_⟩ <;> (rw [Joins.cell_of_block e]; rfl)⟩
    have HE5 : Hid (∀ (w3 w5 : World) {ob : Obj}, Below W2.heap.size W2 w3 → (w3.alloc ob).grownBy w5 v.ownBlock → w5.cell? ⟨b, 0, none⟩ = some (.int .i64 fk) ∧ w5.cell? ⟨b, 1, none⟩ = some (.int .i64 fa) ∧ w5.cell? ⟨b, 2, none⟩ = some (.int .i64 fb) ∧ w5.cell? ⟨b, 3, none⟩ = some (.slice o fn cap)) := ⟨fun w3 w5 {ob} B G => by
      have s3 := B.size
      have sA : (w3.alloc ob).heap.size = w3.heap.size + 1 := World.size_alloc _ _
      have e := (G.block b (by omega) (fun q => by have := HVB.out b q.symm; omega)).trans ((Below.heap_alloc _ _ _ (by omega)).trans ((B.block b bl2).trans bx2))
      refine ⟨?_, ?_, ?_, ?_⟩ <;> (rw [Joins.cell_of_block e]; rfl)⟩
    have HRW : Hid (∀ w3, Below W2.heap.size W2 w3 → ∀ ob : Obj, (w3.alloc ob).ownsRow base 36 4 v m (cellsF l)) := ⟨fun w3 B ob => by
      have := HD2.out.R.later (belowOn B (show Below w3.heap.size w3 (w3.alloc ob) by go_grown))
      unfold Rw at this
      rw [HM.out] at this
      exact this⟩
    have HDS : Hid (∀ (w3 w5 : World) (ga1 : Option Addr) (cap1 g5 cap5 : Nat) (ob : Obj), Below W2.heap.size W2 w3 → (PT w3 ga1 cap1 f.ps ∧ ∀ ad, ga1 = some ad → W2.heap.size ≤ ad.block ∧ ad.block < w3.heap.size) → (w3.alloc ob).grownBy w5 v.ownBlock → w5.ownsRow base 36 4 (.slice (some ⟨g5, 0, none⟩) (m + 1) cap5) (m + 1) (cellsF l ++ [.int .i64 fk, .int .i64 fa, .int .i64 fb, .slice ga1 fn cap1]) →
        Ds (w5.setCell ⟨d, 1, none⟩ (.slice (some ⟨g5, 0, none⟩) (m + 1) cap5)) d base (N : Int) (.slice (some ⟨g5, 0, none⟩) (m + 1) cap5) (l ++ [⟨f, ga1, cap1⟩]) ∧ Kq d v W2 (w5.setCell ⟨d, 1, none⟩ (.slice (some ⟨g5, 0, none⟩) (m + 1) cap5)) ∧ w5.cell? ⟨d, 1, none⟩ = some v ∧ w5.frozen? ⟨d, 1, none⟩ = false) := ⟨fun w3 w5 ga1 cap1 g5 cap5 ob B P3 G H => by
      refine ds_push HD2.out hd B P3.1 P3.2 G ?_
      have e : frC ⟨f, ga1, cap1⟩ = [.int .i64 fk, .int .i64 fa, .int .i64 fb, .slice ga1 fn cap1] := by
        unfold frC
        rw [HFN.out.2.2.1, HFN.out.2.2.2.1, HFN.out.2.2.2.2, ← HFN.out.2.1]
      rw [e, HM.out]
      exact H⟩
    have d1 : W2.cell? ⟨d, 1, none⟩ = some v := HD2.out.box.cell 1
    have d1a : (W2.alloc (.cells #[] 3)).cell? ⟨d, 1, none⟩ = some v := Lib.cell?_alloc_some _ d1
    have HD1F : Hid (∀ w3, Below W2.heap.size W2 w3 → w3.cell? ⟨d, 1, none⟩ = some v) := ⟨fun w3 B => (HD2.out.later B).box.cell 1⟩
    obtain ⟨b0, b1, b2, b3⟩ := HE.out W2 (Below.refl _ _)
    rw [hm] at hll
    clear hm bx2 hok
    go_wp2
    refine wp_region_held_drew (S := (fun W' => W'.cell? ⟨b, 0, none⟩ = some (.int .i64 fk) ∧ W'.cell? ⟨b, 1, none⟩ = some (.int .i64 fa) ∧ W'.cell? ⟨b, 2, none⟩ = some (.int .i64 fb) ∧ W'.cell? ⟨b, 3, none⟩ = some (.slice o fn cap))) (by kernel_rfl) ?_ (fun hHeld => ?_)
    · try dsimp only
      go_keep
    refine wpAnyH_take (i := 0) (v := ?_) rfl (by kernel_rfl) (by kernel_rfl) (by kernel_rfl) (fun _ _ _ h => h) (Or.inl ⟨by rfl, ?_⟩) (by assumption) ?_
    rotate_left
    · intro w' hSw
      try dsimp only at hSw
      go_simp
      try with_reducible rfl
    try simp only [Act.put, List.getElem_toArray, List.getElem_cons_zero, List.getElem_cons_succ, List.setIfInBounds_toArray, List.set_cons_zero, List.set_cons_succ]
    refine wpAnyH_take (i := 1) (v := ?_) rfl (by kernel_rfl) (by kernel_rfl) (by kernel_rfl) (fun _ _ _ h => h) (Or.inl ⟨by rfl, ?_⟩) (by assumption) ?_
    rotate_left
    · intro w' hSw
      try dsimp only at hSw
      go_simp
      try with_reducible rfl
    try simp only [Act.put, List.getElem_toArray, List.getElem_cons_zero, List.getElem_cons_succ, List.setIfInBounds_toArray, List.set_cons_zero, List.set_cons_succ]
    refine wpAnyH_take (i := 2) (v := ?_) rfl (by kernel_rfl) (by kernel_rfl) (by kernel_rfl) (fun _ _ _ h => h) (Or.inl ⟨by rfl, ?_⟩) (by assumption) ?_
    rotate_left
    · intro w' hSw
      try dsimp only at hSw
      go_simp
      try with_reducible rfl
    try simp only [Act.put, List.getElem_toArray, List.getElem_cons_zero, List.getElem_cons_succ, List.setIfInBounds_toArray, List.set_cons_zero, List.set_cons_succ]
    refine wpAnyH_take (i := 3) (v := ?_) rfl (by kernel_rfl) (by kernel_rfl) (by kernel_rfl) (fun _ _ _ h => h) (Or.inl ⟨by rfl, ?_⟩) (by assumption) ?_
    rotate_left
    · intro w' hSw
      try dsimp only at hSw
      go_simp
      try with_reducible rfl
    try simp only [Act.put, List.getElem_toArray, List.getElem_cons_zero, List.getElem_cons_succ, List.setIfInBounds_toArray, List.set_cons_zero, List.set_cons_succ]
    refine wpAnyH_take (i := 5) (v := ?_) rfl (by kernel_rfl) (by kernel_rfl) (by kernel_rfl) (fun _ _ _ h => h) (Or.inl ⟨by rfl, ?_⟩) (by assumption) ?_
    rotate_left
    · intro w' hSw
      try dsimp only at hSw
      go_simp
      try with_reducible rfl
    try simp only [Act.put, List.getElem_toArray, List.getElem_cons_zero, List.getElem_cons_succ, List.setIfInBounds_toArray, List.set_cons_zero, List.set_cons_succ]
    refine wpAnyH_take (i := 6) (v := ?_) rfl (by kernel_rfl) (by kernel_rfl) (by kernel_rfl) (fun _ _ _ h => h) (Or.inl ⟨by rfl, ?_⟩) (by assumption) ?_
    rotate_left
    · intro w' hSw
      try dsimp only at hSw
      go_simp
      try with_reducible rfl
    try simp only [Act.put, List.getElem_toArray, List.getElem_cons_zero, List.getElem_cons_succ, List.setIfInBounds_toArray, List.set_cons_zero, List.set_cons_succ]
    refine wpAnyH_take (i := 7) (v := ?_) rfl (by kernel_rfl) (by kernel_rfl) (by kernel_rfl) (fun _ _ _ h => h) (Or.inl ⟨by rfl, ?_⟩) (by assumption) ?_
    rotate_left
    · intro w' hSw
      try dsimp only at hSw
      go_simp
      try with_reducible rfl
    try simp only [Act.put, List.getElem_toArray, List.getElem_cons_zero, List.getElem_cons_succ, List.setIfInBounds_toArray, List.set_cons_zero, List.set_cons_succ]
    refine wpAnyH_take (i := 8) (v := ?_) rfl (by kernel_rfl) (by kernel_rfl) (by kernel_rfl) (fun _ _ _ h => h) (Or.inl ⟨by rfl, ?_⟩) (by assumption) ?_
    rotate_left
    · intro w' hSw
      try dsimp only at hSw
      go_simp
      try with_reducible rfl
    try simp only [Act.put, List.getElem_toArray, List.getElem_cons_zero, List.getElem_cons_succ, List.setIfInBounds_toArray, List.set_cons_zero, List.set_cons_succ]
    refine wpAnyH_take (i := 9) (v := ?_) rfl (by kernel_rfl) (by kernel_rfl) (by kernel_rfl) (fun _ _ _ h => h) (Or.inl ⟨by rfl, ?_⟩) (by assumption) ?_
    rotate_left
    · intro w' hSw
      try dsimp only at hSw
      go_simp
      try with_reducible rfl
    try simp only [Act.put, List.getElem_toArray, List.getElem_cons_zero, List.getElem_cons_succ, List.setIfInBounds_toArray, List.set_cons_zero, List.set_cons_succ]
    refine wpAnyH_take (i := 10) (v := ?_) rfl (by kernel_rfl) (by kernel_rfl) (by kernel_rfl) (fun _ _ _ h => h) (Or.inl ⟨by rfl, ?_⟩) (by assumption) ?_
    rotate_left
    · intro w' hSw
      try dsimp only at hSw
      go_simp
      try with_reducible rfl
    try simp only [Act.put, List.getElem_toArray, List.getElem_cons_zero, List.getElem_cons_succ, List.setIfInBounds_toArray, List.set_cons_zero, List.set_cons_succ]
    refine wpAnyH_take (i := 12) (v := ?_) rfl (by kernel_rfl) (by kernel_rfl) (by kernel_rfl) (fun _ _ _ h => h) (Or.inl ⟨by rfl, ?_⟩) (by assumption) ?_
    rotate_left
    · intro w' hSw
      try dsimp only at hSw
      go_simp
      try with_reducible rfl
    try simp only [Act.put, List.getElem_toArray, List.getElem_cons_zero, List.getElem_cons_succ, List.setIfInBounds_toArray, List.set_cons_zero, List.set_cons_succ]
    refine wpAnyH_take (i := 13) (v := ?_) rfl (by kernel_rfl) (by kernel_rfl) (by kernel_rfl) (fun _ _ _ h => h) (Or.inl ⟨by rfl, ?_⟩) (by assumption) ?_
    rotate_left
    · intro w' hSw
      try dsimp only at hSw
      go_simp
      try with_reducible rfl
    try simp only [Act.put, List.getElem_toArray, List.getElem_cons_zero, List.getElem_cons_succ, List.setIfInBounds_toArray, List.set_cons_zero, List.set_cons_succ]
    refine wpAnyH_ready (rs := [4, 11]) (by kernel_rfl) (by simp) ?_
    refine AllReadyH.cons rfl (fun K hK => ?_) ?_
    · go_simp
      refine hK.out _ _ ?_ (fun hHeld => ?_)
      · try dsimp only
        go_keep
      clear hK K
      try simp only [Act.put, List.getElem_toArray, List.getElem_cons_zero, List.getElem_cons_succ, List.setIfInBounds_toArray, List.set_cons_zero, List.set_cons_succ]
      refine wpAnyH_ready (rs := [11]) (by kernel_rfl) (by simp) ?_
      refine AllReadyH.cons rfl (fun K hK => ?_) ?_
      · go_simp
        refine hK.out _ _ ?_ (fun hHeld => ?_)
        · try dsimp only
          go_keep
        clear hK K
        try simp only [Act.put, List.getElem_toArray, List.getElem_cons_zero, List.getElem_cons_succ, List.setIfInBounds_toArray, List.set_cons_zero, List.set_cons_succ]
        refine wpAnyH_ready (rs := [14]) (by kernel_rfl) (by simp) ?_
        refine AllReadyH.cons rfl (fun K hK => ?_) ?_
        · refine step_append_T rfl (.tmp 34) (.tmp 36) 34 rfl W2.heap.size 3 i0 (.int .i64 0) 1 8 Tryd.underlying34 hi hz0 hz1 hz2 rfl (by decide) _ 0 [] rfl (.inl ⟨rfl, rfl, _, rfl⟩) o fn cap (rowI f.ps) rfl (by rw [HFN.out.1]; omega) HNEW.out (rowI_one f.ps) fn (Nat.zero_add _) (rowI f.ps) rfl (by show fn ≤ 9223372036854775807; omega) (by omega) (by simp) ?_
          intro ga1 cap1 w3 R3 G3 Z3
          have B3 := rs_below G3
          have HB3 := Hid.mk B3
          have HP3 := Hid.mk (HPT.out R3 Z3)
          have e0 := HE.out w3 B3
          obtain ⟨e0, e1, e2, e3⟩ := e0
          have d1b := HD1F.out w3 B3
          have d1c := Lib.cell?_alloc_some (Obj.cells #[.int .i64 fk, .int .i64 fa, .int .i64 fb, .slice ga1 fn cap1] 36) d1b
          clear R3 G3 Z3 B3
          refine hK.out _ _ ?_ (fun hHeld => ?_)
          · try dsimp only
            go_keep
          clear hK K
          try simp only [Act.put, List.getElem_toArray, List.getElem_cons_zero, List.getElem_cons_succ, List.setIfInBounds_toArray, List.set_cons_zero, List.set_cons_succ]
          refine wpAnyH_take (i := 15) (v := ?_) rfl (by kernel_rfl) (by kernel_rfl) (by kernel_rfl) (fun _ _ _ h => h) (Or.inl ⟨by rfl, ?_⟩) (by assumption) ?_
          rotate_left
          · intro w' hSw
            try dsimp only at hSw
            go_simp
            try with_reducible rfl
          try simp only [Act.put, List.getElem_toArray, List.getElem_cons_zero, List.getElem_cons_succ, List.setIfInBounds_toArray, List.set_cons_zero, List.set_cons_succ]
          refine wpAnyH_ready (rs := [16]) (by kernel_rfl) (by simp) ?_
          refine AllReadyH.cons rfl (fun K hK => ?_) ?_
          · go_simp
            refine hK.out _ _ ?_ (fun hHeld => ?_)
            · try dsimp only
              go_keep
            clear hK K
            try simp only [Act.put, List.getElem_toArray, List.getElem_cons_zero, List.getElem_cons_succ, List.setIfInBounds_toArray, List.set_cons_zero, List.set_cons_succ]
            refine wpAnyH_ready (rs := [17]) (by kernel_rfl) (by simp) ?_
            refine AllReadyH.cons rfl (fun K hK => ?_) ?_
            · refine step_append_lies _ rfl (.tmp 27) (.tmp 39) 29 rfl base 36 j0 _ 4 48 Tryd.underlying29 hj hy0 hy1 hy2 rfl (by decide) v m (cellsF l) rfl (HRW.out w3 HB3.out _) ⟨_, 0, none⟩ 1 1 [.int .i64 fk, .int .i64 fa, .int .i64 fb, .slice ga1 fn cap1] rfl rfl (World.news_of_block (heap_alloc_new _ _)) (by simp [Value.oneCell']) (by decide) (by show m + 1 ≤ 9223372036854775807; omega) (by omega) (by have := HB3.out.size; simp; omega) _ rfl ?_
              intro g5 cap5 w5 hown5 hgr5 hat5 hlt5
              have HDP := Hid.mk (HDS.out w3 w5 ga1 cap1 g5 cap5 _ HB3.out HP3.out hgr5 hown5)
              obtain ⟨_, _, s1, s2⟩ := HDP.out
              obtain ⟨e0, e1, e2, e3⟩ := HE5.out w3 w5 HB3.out hgr5
              clear hown5 hgr5 hat5 hlt5
              refine hK.out _ _ ?_ (fun hHeld => ?_)
              · try dsimp only
                go_keep
              clear hK K
              try simp only [Act.put, List.getElem_toArray, List.getElem_cons_zero, List.getElem_cons_succ, List.setIfInBounds_toArray, List.set_cons_zero, List.set_cons_succ]
              refine wpAnyH_take (i := 18) (v := ?_) rfl (by kernel_rfl) (by kernel_rfl) (by kernel_rfl) (fun _ _ _ h => h) (Or.inl ⟨by rfl, ?_⟩) (by assumption) ?_
              rotate_left
              · intro w' hSw
                try dsimp only at hSw
                go_simp
                try with_reducible rfl
              try simp only [Act.put, List.getElem_toArray, List.getElem_cons_zero, List.getElem_cons_succ, List.setIfInBounds_toArray, List.set_cons_zero, List.set_cons_succ]
              refine wpAnyH_take (i := 19) (v := ?_) rfl (by kernel_rfl) (by kernel_rfl) (by kernel_rfl) (fun _ _ _ h => h) (Or.inl ⟨by rfl, ?_⟩) (by assumption) ?_
              rotate_left
              · intro w' hSw
                try dsimp only at hSw
                go_simp
                try with_reducible rfl
              try simp only [Act.put, List.getElem_toArray, List.getElem_cons_zero, List.getElem_cons_succ, List.setIfInBounds_toArray, List.set_cons_zero, List.set_cons_succ]
              refine wpAnyH_ready (rs := [20]) (by kernel_rfl) (by simp) ?_
              refine AllReadyH.cons rfl (fun K hK => ?_) ?_
              · go_simp
                refine hK.out _ _ ?_ (fun hHeld => ?_)
                · try dsimp only
                  go_keep
                clear hK K
                try simp only [Act.put, List.getElem_toArray, List.getElem_cons_zero, List.getElem_cons_succ, List.setIfInBounds_toArray, List.set_cons_zero, List.set_cons_succ]
                refine wpAnyH_done (by kernel_rfl) ?_ _
                go_wp2
                go_ret
                exact ⟨rfl, _, _, _, HDP.out.1, kq_later HB2.out HDP.out.2.1, fun ad e => Nat.le_trans HB2.out.size (HP3.out.2 ad e).1⟩
              exact AllReadyH.nil
            exact AllReadyH.nil
          exact AllReadyH.nil
        exact AllReadyH.nil
      exact AllReadyH.nil
    refine AllReadyH.cons rfl (fun K hK => ?_) ?_
    · go_simp
      refine hK.out _ _ ?_ (fun hHeld => ?_)
      · try dsimp only
        go_keep
      clear hK K
      try simp only [Act.put, List.getElem_toArray, List.getElem_cons_zero, List.getElem_cons_succ, List.setIfInBounds_toArray, List.set_cons_zero, List.set_cons_succ]
      refine wpAnyH_ready (rs := [4, 14]) (by kernel_rfl) (by simp) ?_
      refine AllReadyH.cons rfl (fun K hK => ?_) ?_
      · go_simp
        refine hK.out _ _ ?_ (fun hHeld => ?_)
        · try dsimp only
          go_keep
        clear hK K
        try simp only [Act.put, List.getElem_toArray, List.getElem_cons_zero, List.getElem_cons_succ, List.setIfInBounds_toArray, List.set_cons_zero, List.set_cons_succ]
        refine wpAnyH_ready (rs := [14]) (by kernel_rfl) (by simp) ?_
        refine AllReadyH.cons rfl (fun K hK => ?_) ?_
        · refine step_append_T rfl (.tmp 34) (.tmp 36) 34 rfl W2.heap.size 3 i0 (.int .i64 0) 1 8 Tryd.underlying34 hi hz0 hz1 hz2 rfl (by decide) _ 0 [] rfl (.inl ⟨rfl, rfl, _, rfl⟩) o fn cap (rowI f.ps) rfl (by rw [HFN.out.1]; omega) HNEW.out (rowI_one f.ps) fn (Nat.zero_add _) (rowI f.ps) rfl (by show fn ≤ 9223372036854775807; omega) (by omega) (by simp) ?_
          intro ga1 cap1 w3 R3 G3 Z3
          have B3 := rs_below G3
          have HB3 := Hid.mk B3
          have HP3 := Hid.mk (HPT.out R3 Z3)
          have e0 := HE.out w3 B3
          obtain ⟨e0, e1, e2, e3⟩ := e0
          have d1b := HD1F.out w3 B3
          have d1c := Lib.cell?_alloc_some (Obj.cells #[.int .i64 fk, .int .i64 fa, .int .i64 fb, .slice ga1 fn cap1] 36) d1b
          clear R3 G3 Z3 B3
          refine hK.out _ _ ?_ (fun hHeld => ?_)
          · try dsimp only
            go_keep
          clear hK K
          try simp only [Act.put, List.getElem_toArray, List.getElem_cons_zero, List.getElem_cons_succ, List.setIfInBounds_toArray, List.set_cons_zero, List.set_cons_succ]
          refine wpAnyH_take (i := 15) (v := ?_) rfl (by kernel_rfl) (by kernel_rfl) (by kernel_rfl) (fun _ _ _ h => h) (Or.inl ⟨by rfl, ?_⟩) (by assumption) ?_
          rotate_left
          · intro w' hSw
            try dsimp only at hSw
            go_simp
            try with_reducible rfl
          try simp only [Act.put, List.getElem_toArray, List.getElem_cons_zero, List.getElem_cons_succ, List.setIfInBounds_toArray, List.set_cons_zero, List.set_cons_succ]
          refine wpAnyH_ready (rs := [16]) (by kernel_rfl) (by simp) ?_
          refine AllReadyH.cons rfl (fun K hK => ?_) ?_
          · go_simp
            refine hK.out _ _ ?_ (fun hHeld => ?_)
            · try dsimp only
              go_keep
            clear hK K
            try simp only [Act.put, List.getElem_toArray, List.getElem_cons_zero, List.getElem_cons_succ, List.setIfInBounds_toArray, List.set_cons_zero, List.set_cons_succ]
            refine wpAnyH_ready (rs := [17]) (by kernel_rfl) (by simp) ?_
            refine AllReadyH.cons rfl (fun K hK => ?_) ?_
            · refine step_append_lies _ rfl (.tmp 27) (.tmp 39) 29 rfl base 36 j0 _ 4 48 Tryd.underlying29 hj hy0 hy1 hy2 rfl (by decide) v m (cellsF l) rfl (HRW.out w3 HB3.out _) ⟨_, 0, none⟩ 1 1 [.int .i64 fk, .int .i64 fa, .int .i64 fb, .slice ga1 fn cap1] rfl rfl (World.news_of_block (heap_alloc_new _ _)) (by simp [Value.oneCell']) (by decide) (by show m + 1 ≤ 9223372036854775807; omega) (by omega) (by have := HB3.out.size; simp; omega) _ rfl ?_
              intro g5 cap5 w5 hown5 hgr5 hat5 hlt5
              have HDP := Hid.mk (HDS.out w3 w5 ga1 cap1 g5 cap5 _ HB3.out HP3.out hgr5 hown5)
              obtain ⟨_, _, s1, s2⟩ := HDP.out
              obtain ⟨e0, e1, e2, e3⟩ := HE5.out w3 w5 HB3.out hgr5
              clear hown5 hgr5 hat5 hlt5
              refine hK.out _ _ ?_ (fun hHeld => ?_)
              · try dsimp only
                go_keep
              clear hK K
              try simp only [Act.put, List.getElem_toArray, List.getElem_cons_zero, List.getElem_cons_succ, List.setIfInBounds_toArray, List.set_cons_zero, List.set_cons_succ]
              refine wpAnyH_take (i := 18) (v := ?_) rfl (by kernel_rfl) (by kernel_rfl) (by kernel_rfl) (fun _ _ _ h => h) (Or.inl ⟨by rfl, ?_⟩) (by assumption) ?_
              rotate_left
              · intro w' hSw
                try dsimp only at hSw
                go_simp
                try with_reducible rfl
              try simp only [Act.put, List.getElem_toArray, List.getElem_cons_zero, List.getElem_cons_succ, List.setIfInBounds_toArray, List.set_cons_zero, List.set_cons_succ]
              refine wpAnyH_take (i := 19) (v := ?_) rfl (by kernel_rfl) (by kernel_rfl) (by kernel_rfl) (fun _ _ _ h => h) (Or.inl ⟨by rfl, ?_⟩) (by assumption) ?_
              rotate_left
              · intro w' hSw
                try dsimp only at hSw
                go_simp
                try with_reducible rfl
              try simp only [Act.put, List.getElem_toArray, List.getElem_cons_zero, List.getElem_cons_succ, List.setIfInBounds_toArray, List.set_cons_zero, List.set_cons_succ]
              refine wpAnyH_ready (rs := [20]) (by kernel_rfl) (by simp) ?_
              refine AllReadyH.cons rfl (fun K hK => ?_) ?_
              · go_simp
                refine hK.out _ _ ?_ (fun hHeld => ?_)
                · try dsimp only
                  go_keep
                clear hK K
                try simp only [Act.put, List.getElem_toArray, List.getElem_cons_zero, List.getElem_cons_succ, List.setIfInBounds_toArray, List.set_cons_zero, List.set_cons_succ]
                refine wpAnyH_done (by kernel_rfl) ?_ _
                go_wp2
                go_ret
                exact ⟨rfl, _, _, _, HDP.out.1, kq_later HB2.out HDP.out.2.1, fun ad e => Nat.le_trans HB2.out.size (HP3.out.2 ad e).1⟩
              exact AllReadyH.nil
            exact AllReadyH.nil
          exact AllReadyH.nil
        exact AllReadyH.nil
      refine AllReadyH.cons rfl (fun K hK => ?_) ?_
      · refine step_append_T rfl (.tmp 34) (.tmp 36) 34 rfl W2.heap.size 3 i0 (.int .i64 0) 1 8 Tryd.underlying34 hi hz0 hz1 hz2 rfl (by decide) _ 0 [] rfl (.inl ⟨rfl, rfl, _, rfl⟩) o fn cap (rowI f.ps) rfl (by rw [HFN.out.1]; omega) HNEW.out (rowI_one f.ps) fn (Nat.zero_add _) (rowI f.ps) rfl (by show fn ≤ 9223372036854775807; omega) (by omega) (by simp) ?_
        intro ga1 cap1 w3 R3 G3 Z3
        have B3 := rs_below G3
        have HB3 := Hid.mk B3
        have HP3 := Hid.mk (HPT.out R3 Z3)
        have e0 := HE.out w3 B3
        obtain ⟨e0, e1, e2, e3⟩ := e0
        have d1b := HD1F.out w3 B3
        have d1c := Lib.cell?_alloc_some (Obj.cells #[.int .i64 fk, .int .i64 fa, .int .i64 fb, .slice ga1 fn cap1] 36) d1b
        clear R3 G3 Z3 B3
        refine hK.out _ _ ?_ (fun hHeld => ?_)
        · try dsimp only
          go_keep
        clear hK K
        try simp only [Act.put, List.getElem_toArray, List.getElem_cons_zero, List.getElem_cons_succ, List.setIfInBounds_toArray, List.set_cons_zero, List.set_cons_succ]
        refine wpAnyH_take (i := 15) (v := ?_) rfl (by kernel_rfl) (by kernel_rfl) (by kernel_rfl) (fun _ _ _ h => h) (Or.inl ⟨by rfl, ?_⟩) (by assumption) ?_
        rotate_left
        · intro w' hSw
          try dsimp only at hSw
          go_simp
          try with_reducible rfl
        try simp only [Act.put, List.getElem_toArray, List.getElem_cons_zero, List.getElem_cons_succ, List.setIfInBounds_toArray, List.set_cons_zero, List.set_cons_succ]
        refine wpAnyH_ready (rs := [4, 16]) (by kernel_rfl) (by simp) ?_
        refine AllReadyH.cons rfl (fun K hK => ?_) ?_
        · go_simp
          refine hK.out _ _ ?_ (fun hHeld => ?_)
          · try dsimp only
            go_keep
          clear hK K
          try simp only [Act.put, List.getElem_toArray, List.getElem_cons_zero, List.getElem_cons_succ, List.setIfInBounds_toArray, List.set_cons_zero, List.set_cons_succ]
          refine wpAnyH_ready (rs := [16]) (by kernel_rfl) (by simp) ?_
          refine AllReadyH.cons rfl (fun K hK => ?_) ?_
          · go_simp
            refine hK.out _ _ ?_ (fun hHeld => ?_)
            · try dsimp only
              go_keep
            clear hK K
            try simp only [Act.put, List.getElem_toArray, List.getElem_cons_zero, List.getElem_cons_succ, List.setIfInBounds_toArray, List.set_cons_zero, List.set_cons_succ]
            refine wpAnyH_ready (rs := [17]) (by kernel_rfl) (by simp) ?_
            refine AllReadyH.cons rfl (fun K hK => ?_) ?_
            · refine step_append_lies _ rfl (.tmp 27) (.tmp 39) 29 rfl base 36 j0 _ 4 48 Tryd.underlying29 hj hy0 hy1 hy2 rfl (by decide) v m (cellsF l) rfl (HRW.out w3 HB3.out _) ⟨_, 0, none⟩ 1 1 [.int .i64 fk, .int .i64 fa, .int .i64 fb, .slice ga1 fn cap1] rfl rfl (World.news_of_block (heap_alloc_new _ _)) (by simp [Value.oneCell']) (by decide) (by show m + 1 ≤ 9223372036854775807; omega) (by omega) (by have := HB3.out.size; simp; omega) _ rfl ?_
              intro g5 cap5 w5 hown5 hgr5 hat5 hlt5
              have HDP := Hid.mk (HDS.out w3 w5 ga1 cap1 g5 cap5 _ HB3.out HP3.out hgr5 hown5)
              obtain ⟨_, _, s1, s2⟩ := HDP.out
              obtain ⟨e0, e1, e2, e3⟩ := HE5.out w3 w5 HB3.out hgr5
              clear hown5 hgr5 hat5 hlt5
              refine hK.out _ _ ?_ (fun hHeld => ?_)
              · try dsimp only
                go_keep
              clear hK K
              try simp only [Act.put, List.getElem_toArray, List.getElem_cons_zero, List.getElem_cons_succ, List.setIfInBounds_toArray, List.set_cons_zero, List.set_cons_succ]
              refine wpAnyH_take (i := 18) (v := ?_) rfl (by kernel_rfl) (by kernel_rfl) (by kernel_rfl) (fun _ _ _ h => h) (Or.inl ⟨by rfl, ?_⟩) (by assumption) ?_
              rotate_left
              · intro w' hSw
                try dsimp only at hSw
                go_simp
                try with_reducible rfl
              try simp only [Act.put, List.getElem_toArray, List.getElem_cons_zero, List.getElem_cons_succ, List.setIfInBounds_toArray, List.set_cons_zero, List.set_cons_succ]
              refine wpAnyH_take (i := 19) (v := ?_) rfl (by kernel_rfl) (by kernel_rfl) (by kernel_rfl) (fun _ _ _ h => h) (Or.inl ⟨by rfl, ?_⟩) (by assumption) ?_
              rotate_left
              · intro w' hSw
                try dsimp only at hSw
                go_simp
                try with_reducible rfl
              try simp only [Act.put, List.getElem_toArray, List.getElem_cons_zero, List.getElem_cons_succ, List.setIfInBounds_toArray, List.set_cons_zero, List.set_cons_succ]
              refine wpAnyH_ready (rs := [20]) (by kernel_rfl) (by simp) ?_
              refine AllReadyH.cons rfl (fun K hK => ?_) ?_
              · go_simp
                refine hK.out _ _ ?_ (fun hHeld => ?_)
                · try dsimp only
                  go_keep
                clear hK K
                try simp only [Act.put, List.getElem_toArray, List.getElem_cons_zero, List.getElem_cons_succ, List.setIfInBounds_toArray, List.set_cons_zero, List.set_cons_succ]
                refine wpAnyH_done (by kernel_rfl) ?_ _
                go_wp2
                go_ret
                exact ⟨rfl, _, _, _, HDP.out.1, kq_later HB2.out HDP.out.2.1, fun ad e => Nat.le_trans HB2.out.size (HP3.out.2 ad e).1⟩
              exact AllReadyH.nil
            exact AllReadyH.nil
          exact AllReadyH.nil
        refine AllReadyH.cons rfl (fun K hK => ?_) ?_
        · go_simp
          refine hK.out _ _ ?_ (fun hHeld => ?_)
          · try dsimp only
            go_keep
          clear hK K
          try simp only [Act.put, List.getElem_toArray, List.getElem_cons_zero, List.getElem_cons_succ, List.setIfInBounds_toArray, List.set_cons_zero, List.set_cons_succ]
          refine wpAnyH_ready (rs := [4]) (by kernel_rfl) (by simp) ?_
          refine AllReadyH.cons rfl (fun K hK => ?_) ?_
          · go_simp
            refine hK.out _ _ ?_ (fun hHeld => ?_)
            · try dsimp only
              go_keep
            clear hK K
            try simp only [Act.put, List.getElem_toArray, List.getElem_cons_zero, List.getElem_cons_succ, List.setIfInBounds_toArray, List.set_cons_zero, List.set_cons_succ]
            refine wpAnyH_ready (rs := [17]) (by kernel_rfl) (by simp) ?_
            refine AllReadyH.cons rfl (fun K hK => ?_) ?_
            · refine step_append_lies _ rfl (.tmp 27) (.tmp 39) 29 rfl base 36 j0 _ 4 48 Tryd.underlying29 hj hy0 hy1 hy2 rfl (by decide) v m (cellsF l) rfl (HRW.out w3 HB3.out _) ⟨_, 0, none⟩ 1 1 [.int .i64 fk, .int .i64 fa, .int .i64 fb, .slice ga1 fn cap1] rfl rfl (World.news_of_block (heap_alloc_new _ _)) (by simp [Value.oneCell']) (by decide) (by show m + 1 ≤ 9223372036854775807; omega) (by omega) (by have := HB3.out.size; simp; omega) _ rfl ?_
              intro g5 cap5 w5 hown5 hgr5 hat5 hlt5
              have HDP := Hid.mk (HDS.out w3 w5 ga1 cap1 g5 cap5 _ HB3.out HP3.out hgr5 hown5)
              obtain ⟨_, _, s1, s2⟩ := HDP.out
              obtain ⟨e0, e1, e2, e3⟩ := HE5.out w3 w5 HB3.out hgr5
              clear hown5 hgr5 hat5 hlt5
              refine hK.out _ _ ?_ (fun hHeld => ?_)
              · try dsimp only
                go_keep
              clear hK K
              try simp only [Act.put, List.getElem_toArray, List.getElem_cons_zero, List.getElem_cons_succ, List.setIfInBounds_toArray, List.set_cons_zero, List.set_cons_succ]
              refine wpAnyH_take (i := 18) (v := ?_) rfl (by kernel_rfl) (by kernel_rfl) (by kernel_rfl) (fun _ _ _ h => h) (Or.inl ⟨by rfl, ?_⟩) (by assumption) ?_
              rotate_left
              · intro w' hSw
                try dsimp only at hSw
                go_simp
                try with_reducible rfl
              try simp only [Act.put, List.getElem_toArray, List.getElem_cons_zero, List.getElem_cons_succ, List.setIfInBounds_toArray, List.set_cons_zero, List.set_cons_succ]
              refine wpAnyH_take (i := 19) (v := ?_) rfl (by kernel_rfl) (by kernel_rfl) (by kernel_rfl) (fun _ _ _ h => h) (Or.inl ⟨by rfl, ?_⟩) (by assumption) ?_
              rotate_left
              · intro w' hSw
                try dsimp only at hSw
                go_simp
                try with_reducible rfl
              try simp only [Act.put, List.getElem_toArray, List.getElem_cons_zero, List.getElem_cons_succ, List.setIfInBounds_toArray, List.set_cons_zero, List.set_cons_succ]
              refine wpAnyH_ready (rs := [20]) (by kernel_rfl) (by simp) ?_
              refine AllReadyH.cons rfl (fun K hK => ?_) ?_
              · go_simp
                refine hK.out _ _ ?_ (fun hHeld => ?_)
                · try dsimp only
                  go_keep
                clear hK K
                try simp only [Act.put, List.getElem_toArray, List.getElem_cons_zero, List.getElem_cons_succ, List.setIfInBounds_toArray, List.set_cons_zero, List.set_cons_succ]
                refine wpAnyH_done (by kernel_rfl) ?_ _
                go_wp2
                go_ret
                exact ⟨rfl, _, _, _, HDP.out.1, kq_later HB2.out HDP.out.2.1, fun ad e => Nat.le_trans HB2.out.size (HP3.out.2 ad e).1⟩
              exact AllReadyH.nil
            exact AllReadyH.nil
          exact AllReadyH.nil
        exact AllReadyH.nil
      exact AllReadyH.nil
    exact AllReadyH.nil
end Go.Proofs.YtglimbpnekephaaDoor
