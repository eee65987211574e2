/- ScopeNames: an expression with other names. -/
import Derived.Test.YtcbdolflgpmaoaaDoorTnd
import Derived.Deep.RegionLaw
import Derived.Deep.AppendLies
import Derived.Deep.RegionHeld3
import Derived.Deep.RegionHeldLaw
namespace Go.Proofs.YtcbdolflgpmaoaaDoor
open Go.RowKit
set_option linter.unusedVariables false
set_option linter.unusedSimpArgs false

/-- the blocks of the call: what came in, the result's, the copy in the making -/
structure Xs (w W : World) (cB cs : Array Value) : Prop where
  blw : Below w.heap.size w W
  b : Bx W w.heap.size cB 45
  m : Bx W (w.heap.size + 1) #[.int .i64 0, .int .i64 0, .string ⟨#[]⟩, .int .i64 0, .slice none 0 0, .slice none 0 0, .slice none 0 0, .slice none 0 0] 45
  x : Bx W (w.heap.size + 1 + 1) cs 45
section
variable {w W W' : World} {cB cs : Array Value}
theorem Xs.start (w : World) (cB cs : Array Value) : Xs w (((w.alloc (.cells cB 45)).alloc (.cells #[.int .i64 0, .int .i64 0, .string ⟨#[]⟩, .int .i64 0, .slice none 0 0, .slice none 0 0, .slice none 0 0, .slice none 0 0] 45)).alloc (.cells cs 45)) cB cs := by
  have b1 : Bx (w.alloc (.cells cB 45)) w.heap.size cB 45 := heap_alloc_new w _
  have b2 : Bx ((w.alloc (.cells cB 45)).alloc (.cells #[.int .i64 0, .int .i64 0, .string ⟨#[]⟩, .int .i64 0, .slice none 0 0, .slice none 0 0, .slice none 0 0, .slice none 0 0] 45)) (w.alloc (.cells cB 45)).heap.size #[.int .i64 0, .int .i64 0, .string ⟨#[]⟩, .int .i64 0, .slice none 0 0, .slice none 0 0, .slice none 0 0, .slice none 0 0] 45 := heap_alloc_new _ _
  have b3 : Bx (((w.alloc (.cells cB 45)).alloc (.cells #[.int .i64 0, .int .i64 0, .string ⟨#[]⟩, .int .i64 0, .slice none 0 0, .slice none 0 0, .slice none 0 0, .slice none 0 0] 45)).alloc (.cells cs 45)) ((w.alloc (.cells cB 45)).alloc (.cells #[.int .i64 0, .int .i64 0, .string ⟨#[]⟩, .int .i64 0, .slice none 0 0, .slice none 0 0, .slice none 0 0, .slice none 0 0] 45)).heap.size cs 45 := heap_alloc_new _ _
  have k2 := Joins.below_alloc1 (w.alloc (.cells cB 45)) (.cells #[.int .i64 0, .int .i64 0, .string ⟨#[]⟩, .int .i64 0, .slice none 0 0, .slice none 0 0, .slice none 0 0, .slice none 0 0] 45)
  have k3 := Joins.below_alloc1 ((w.alloc (.cells cB 45)).alloc (.cells #[.int .i64 0, .int .i64 0, .string ⟨#[]⟩, .int .i64 0, .slice none 0 0, .slice none 0 0, .slice none 0 0, .slice none 0 0] 45)) (.cells cs 45)
  have e1 : (w.alloc (.cells cB 45)).heap.size = w.heap.size + 1 := by simp
  have e2 : ((w.alloc (.cells cB 45)).alloc (.cells #[.int .i64 0, .int .i64 0, .string ⟨#[]⟩, .int .i64 0, .slice none 0 0, .slice none 0 0, .slice none 0 0, .slice none 0 0] 45)).heap.size = w.heap.size + 1 + 1 := by simp
  rw [e1] at b2
  rw [e2] at b3
  exact ⟨blw_below (blw_below (Joins.below_alloc1 w _) k2) k3, (b1.later k2).later k3, b2.later k3, b3⟩
theorem Xs.grown {row : Option Nat} (h : Xs w W cB cs) (g : W.grownBy W' row) (hr : ∀ i, row = some i → w.heap.size + 3 ≤ i) : Xs w W' cB cs :=
  ⟨blw_grown h.blw g (fun i e => by have := hr i e; omega), (g.block _ h.b.lt (fun e => by have := hr _ e.symm; omega)).trans h.b, (g.block _ h.m.lt (fun e => by have := hr _ e.symm; omega)).trans h.m, (g.block _ h.x.lt (fun e => by have := hr _ e.symm; omega)).trans h.x⟩
theorem gr_below (k : Below W.heap.size W W') : W.grownBy W' none := ⟨k.os, k.tape, k.output, k.size, fun i hi _ => k.block i hi⟩
theorem Xs.below (h : Xs w W cB cs) (k : Below W.heap.size W W') : Xs w W' cB cs := h.grown (gr_below k) (fun i e => by cases e)
theorem Xs.drew (h : Xs w W cB cs) : Xs w W.drew cB cs := h.grown (row := none) (grown_drew _) (fun i e => by cases e)
theorem Xs.alloc (h : Xs w W cB cs) (o : Obj) : Xs w (W.alloc o) cB cs := h.grown (row := none) (grown_alloc _ _) (fun i e => by cases e)
theorem Xs.store (h : Xs w W cB cs) (j : Nat) (v : Value) : Xs w (W.setCell ⟨w.heap.size + 1 + 1, j, none⟩ v) cB (cs.setIfInBounds j v) := by
  have g := grown_set W (w.heap.size + 1 + 1) j v
  exact ⟨blw_grown h.blw g (fun i e => by cases e; omega), (g.block _ h.b.lt (fun e => by have e' := Option.some.inj e; omega)).trans h.b, (g.block _ h.m.lt (fun e => by have e' := Option.some.inj e; omega)).trans h.m, h.x.store j v⟩
theorem Xs.size (h : Xs w W cB cs) : w.heap.size + 3 ≤ W.heap.size := h.x.lt
end
theorem cell_same {w W W' : World} {g o : Nat} (h : Below w.heap.size w W) (k : Below w.heap.size w W') (hg : g < w.heap.size) : W.cell? ⟨g, o, none⟩ = W'.cell? ⟨g, o, none⟩ := by
  simp only [World.cell?, h.block g hg, k.block g hg]
theorem own_set {W : World} {X size n : Nat} {e : TypeId} {v : Value} {xs : List Value} (h : W.ownsRow (X + 3) e size v n xs) (j : Nat) (u : Value) : (W.setCell ⟨X + 1 + 1, j, none⟩ u).ownsRow (X + 3) e size v n xs :=
  ownsRow_setCell_below h (Nat.lt_succ_self _) u
theorem keeps_trans {P Q R : Nat → Prop} {a b c : World} (h : Keeps P Q a b) (k : Keeps Q R b c) : Keeps P R a c := ⟨fun q off u hq hc => k.cell q off u (h.ok q hq) (h.cell q off u hq hc), fun q hq => k.ok q (h.ok q hq)⟩
theorem info40 : (Tryd.prog.info? 40).map (fun i => (i.zero, i.size, i.bytes)) = some (some (.agg #[.string ⟨#[]⟩, .int .i64 0]), 2, 24) := by kernel_rfl
theorem atm_take (l : List Atm) (i : Nat) (h : i < l.length) : atmC ((l.take (i + 1)).map turnT) = atmC ((l.take i).map turnT) ++ [.string (str (turn (l[i]'h).name)), .int .i64 (l[i]'h).num] := by
  rw [List.take_succ_eq_append_getElem h, List.map_append]
  simp [atmC, turnT]
set_option maxRecDepth 100000 in
set_option maxHeartbeats 8000000 in
theorem texp_any (k a : Int) (nm : Nm) (m : Int) (ts : List Atm) (bs : List B) (ks : List E) (al : List A) (hw : wtE (.mk k a nm m ts bs ks al) ≤ 1048576) (HB : TBs bs) (HK : ∀ y ∈ ks, TE y) (HA : ∀ y ∈ al, TE (bodA y)) : TE (.mk k a nm m ts bs ks al) := by
  intro w c0 I
  simp only [isE] at I
  obtain ⟨vt, vb, vk, va, xb, xk, xa, rfl, R4, R5, I5, R6, I6, R7, I7⟩ := I
  simp only [wtE] at hw
  have HALL := Hid.mk (And.intro R4 (And.intro R5 (And.intro I5 (And.intro R6 (And.intro I6 (And.intro R7 I7))))))
  have HIH := Hid.mk (And.intro HB (And.intro HK HA))
  have HW := Hid.mk hw
  obtain ⟨h4, z4, rfl, b4, _⟩ := R4
  obtain ⟨h5, z5, rfl, b5, _⟩ := R5
  obtain ⟨h6, z6, rfl, b6, _⟩ := R6
  obtain ⟨h7, z7, rfl, b7, _⟩ := R7
  obtain ⟨n4, e4⟩ : ∃ n, ts.length = n := ⟨_, rfl⟩
  obtain ⟨n5, e5⟩ : ∃ n, bs.length = n := ⟨_, rfl⟩
  obtain ⟨n6, e6⟩ : ∃ n, ks.length = n := ⟨_, rfl⟩
  obtain ⟨n7, e7⟩ : ∃ n, al.length = n := ⟨_, rfl⟩
  have HN := Hid.mk (And.intro e4 (And.intro e5 (And.intro e6 e7)))
  simp only [e4, e5, e6, e7] at HALL b4 b5 b6 b7 ⊢
  clear e4 e5 e6 e7 I5 I6 I7 HB HK HA
  have TC := turned_any nm (by omega) (((w.alloc (.cells #[.int .i64 k, .int .i64 a, .string (str nm), .int .i64 m, .slice h4 n4 z4, .slice h5 n5 z5, .slice h6 n6 z6, .slice h7 n7 z7] 45)).alloc (.cells #[.int .i64 0, .int .i64 0, .string ⟨#[]⟩, .int .i64 0, .slice none 0 0, .slice none 0 0, .slice none 0 0, .slice none 0 0] 45)).alloc (.cells #[.int .i64 k, .int .i64 a, .string (str nm), .int .i64 m, .slice h4 n4 z4, .slice h5 n5 z5, .slice h6 n6 z6, .slice h7 n7 z7] 45))
  obtain ⟨s2, hs2⟩ : ∃ s, s = str (if k = 1 then turn nm else nm) := ⟨_, rfl⟩
  have HS2 := Hid.mk hs2
  suffices H : Calls Tryd.prog 29 #[.agg #[.int .i64 k, .int .i64 a, .string (str nm), .int .i64 m, .slice h4 n4 z4, .slice h5 n5 z5, .slice h6 n6 z6, .slice h7 n7 z7]] w fun e w' => Below w.heap.size w w' ∧ ∃ v4 v5 v6 v7 xb' xk' xa', e = .returned (.agg #[.int .i64 k, .int .i64 a, .string s2, .int .i64 m, v4, v5, v6, v7]) ∧ IsRow w' (new w w') (atmC (ts.map turnT)) n4 v4 ∧ IsRow w' (new w w') xb' n5 v5 ∧ isBs w' (new w w') (turnBs bs) xb' ∧ IsRow w' (new w w') xk' n6 v6 ∧ isEs w' (new w w') (turnEs ks) xk' ∧ IsRow w' (new w w') xa' n7 v7 ∧ isAs w' (new w w') (turnAs al) xa' by
    refine H.mono ?_
    rintro e w' ⟨B, v4, v5, v6, v7, xb', xk', xa', rfl, r4, r5, i5, r6, i6, r7, i7⟩
    refine ⟨B, _, rfl, ?_⟩
    rw [hs2]
    simp only [turnE, isE, List.length_map, turnBs_len, turnEs_len, turnAs_len, HN.out.1, HN.out.2.1, HN.out.2.2.1, HN.out.2.2.2]
    exact ⟨_, _, _, _, _, _, _, rfl, r4, r5, i5, r6, i6, r7, i7⟩
  obtain ⟨sB, hsB⟩ : ∃ s, s = str nm := ⟨_, rfl⟩
  rw [← hsB] at TC ⊢
  clear hw
  go_enter Tryd.func29, Tryd.ntmps29
  by_cases hk : k = 1
  · rw [if_pos hk] at hs2
    rw [← hs2] at TC
    have hkb : (k == 1) = true := beq_iff_eq.2 hk
    clear hs2 hsB hk
    go_wp2_with (go_at_call 27; refine TC.mono ?_; rintro e w9 ⟨rfl, h9⟩; obtain rfl := h9.symm; clear TC)
    have FX := Xs.start w #[.int .i64 k, .int .i64 a, .string sB, .int .i64 m, .slice h4 n4 z4, .slice h5 n5 z5, .slice h6 n6 z6, .slice h7 n7 z7] #[.int .i64 k, .int .i64 a, .string s2, .int .i64 m, .slice none 0 0, .slice h5 n5 z5, .slice none 0 0, .slice none 0 0]
    generalize (((w.alloc (.cells #[.int .i64 k, .int .i64 a, .string sB, .int .i64 m, .slice h4 n4 z4, .slice h5 n5 z5, .slice h6 n6 z6, .slice h7 n7 z7] 45)).alloc (.cells #[.int .i64 0, .int .i64 0, .string ⟨#[]⟩, .int .i64 0, .slice none 0 0, .slice none 0 0, .slice none 0 0, .slice none 0 0] 45)).alloc (.cells #[.int .i64 k, .int .i64 a, .string s2, .int .i64 m, .slice none 0 0, .slice h5 n5 z5, .slice none 0 0, .slice none 0 0] 45)) = W0 at FX ⊢
    obtain ⟨cB, Q, FX⟩ : ∃ cB : Array Value, Hid (cB[4]? = some (.slice h4 n4 z4) ∧ cB[5]? = some (.slice h5 n5 z5) ∧ cB[6]? = some (.slice h6 n6 z6) ∧ cB[7]? = some (.slice h7 n7 z7)) ∧ Xs w W0 cB #[.int .i64 k, .int .i64 a, .string s2, .int .i64 m, .slice none 0 0, .slice h5 n5 z5, .slice none 0 0, .slice none 0 0] := ⟨_, ⟨rfl, rfl, rfl, rfl⟩, FX⟩
    clear hkb
    have HFX := Hid.mk FX
    clear FX
    obtain ⟨i40, ih40, iz0, iz1, iz2⟩ := info_parts info40
    go_loopw [4] (fun c wr => ∃ (i : Nat) (v : Value), c = .int .i64 i ∧ i ≤ n4 ∧ Hid (Xs w wr cB #[.int .i64 k, .int .i64 a, .string s2, .int .i64 m, v, .slice h5 n5 z5, .slice none 0 0, .slice none 0 0]) ∧ Hid (wr.ownsRow (w.heap.size + 3) 40 2 v i (atmC ((ts.take i).map turnT)))) (fun c _ => n4 - (intOf c).toNat)
    case atStart => exact ⟨0, .slice none 0 0, rfl, Nat.zero_le _, HFX, ⟨by rw [List.take_zero]; exact World.ownsRow_nil _ _ _ _⟩⟩
    case round =>
      clear HFX
      obtain ⟨i, v, rfl, hi, HF, OW⟩ := hrel
      have y4 : wr.cell? ⟨w.heap.size, 4, none⟩ = some (.slice h4 n4 z4) := (HF.out.b.cell 4).trans Q.out.1
      by_cases hlt : i < n4
      · have kl : i < ts.length := by rw [HN.out.1]; exact hlt
        obtain ⟨_, _, e, _, hx⟩ := HALL.out.1
        simp only [Value.slice.injEq] at e
        obtain ⟨rfl, _, rfl⟩ := e
        obtain ⟨g, off, rfl, _, hx⟩ := hx (by omega)
        have bl : ∀ (j : Nat) (u : Value), (atmC ts)[j]? = some u → wr.cell? ⟨g, off + j, none⟩ = some u := fun j u hj => (HF.out.blw.cell (World.block_lt_of_cell? _ _ (hx j u hj))).trans (hx j u hj)
        have c0 := bl _ _ (atmC_get ts i kl).1
        have c1 := bl _ _ (atmC_get ts i kl).2
        rw [← Nat.add_assoc] at c1
        have hsl := wtT_mem (List.getElem_mem kl)
        have hwh := HW.out
        have TC1 := turned_any (ts[i]'kl).name (by omega) wr.drew
        have HTK := Hid.mk (atm_take ts i kl)
        generalize (ts[i]'kl).name = n0 at c0 TC1 HTK
        generalize (ts[i]'kl).num = m0 at c1 HTK
        have x4 : wr.cell? ⟨w.heap.size + 1 + 1, 4, none⟩ = some v := HF.out.x.cell 4
        have xz := HF.out.x.z 4
        have hlt' : (i : Int) < n4 := by omega
        have HFD := Hid.mk (HF.out.drew.alloc (.cells #[.string (str (turn n0)), .int .i64 m0] 40))
        have HOD := Hid.mk ((OW.out.kept (row := none) (grown_drew wr) (by cases v.ownBlock <;> simp)).alloc (.cells #[.string (str (turn n0)), .int .i64 m0] 40))
        have hsz := HF.out.size
        clear bl hsl hwh
        have hgw : g < w.heap.size := World.block_lt_of_cell? _ _ (hx 0 _ (atmC_get ts 0 (by omega)).1)
        have ng1 : ¬ g = w.heap.size + 1 + 1 := by omega
        have ng2 : ¬ w.heap.size + 1 + 1 = g := by omega
        clear hx
        have nX : ¬ w.heap.size + 1 + 1 = wr.heap.size := by omega
        have nX' : ¬ wr.heap.size = w.heap.size + 1 + 1 := by omega
        have x4b : (wr.alloc (.cells #[.string (str (turn n0)), .int .i64 m0] 40)).cell? ⟨w.heap.size + 1 + 1, 4, none⟩ = some v := (HF.out.alloc _).x.cell 4
        have x4a : (wr.drew.alloc (.cells #[.string (str (turn n0)), .int .i64 m0] 40)).cell? ⟨w.heap.size + 1 + 1, 4, none⟩ = some v := HFD.out.x.cell 4
        have y4a : (wr.drew.alloc (.cells #[.string (str (turn n0)), .int .i64 m0] 40)).cell? ⟨w.heap.size, 4, none⟩ = some (.slice (some ⟨g, off, none⟩) n4 z4) := (HFD.out.b.cell 4).trans Q.out.1
        have e0 : (wr.drew.alloc (.cells #[.string (str (turn n0)), .int .i64 m0] 40)).cell? ⟨g, off + i * 2, none⟩ = some (.string (str n0)) := (cell_same HFD.out.blw HF.out.blw hgw).trans c0
        have e1 : (wr.drew.alloc (.cells #[.string (str (turn n0)), .int .i64 m0] 40)).cell? ⟨g, off + i * 2 + 1, none⟩ = some (.int .i64 m0) := (cell_same HFD.out.blw HF.out.blw hgw).trans c1
        go_wp2
        refine wp_region_held_drew (S := (fun w' => w'.cell? ⟨w.heap.size, 4, none⟩ = some (.slice (some ⟨g, off, none⟩) n4 z4) ∧ w'.cell? ⟨g, off + i * 2, none⟩ = some (.string (str n0)) ∧ w'.cell? ⟨g, off + i * 2 + 1, none⟩ = some (.int .i64 m0))) (by kernel_rfl) ?_ (fun hHeld => ?_)
        · try dsimp only
          go_keep
        refine wpAnyH_take (i := 0) (v := ?_) rfl (by kernel_rfl) (by kernel_rfl) (by kernel_rfl) (fun _ _ _ h => h) (Or.inl ⟨by rfl, ?_⟩) (by assumption) ?_
        rotate_left
        · intro w' hSw
          try dsimp only at hSw
          go_simp
          try with_reducible rfl
        try simp only [Act.put, List.setIfInBounds_toArray, List.set_cons_zero, List.set_cons_succ]
        refine wpAnyH_take (i := 2) (v := ?_) rfl (by kernel_rfl) (by kernel_rfl) (by kernel_rfl) (fun _ _ _ h => h) (Or.inl ⟨by rfl, ?_⟩) (by assumption) ?_
        rotate_left
        · intro w' hSw
          try dsimp only at hSw
          go_simp
          try with_reducible rfl
        try simp only [Act.put, List.setIfInBounds_toArray, List.set_cons_zero, List.set_cons_succ]
        refine wpAnyH_take (i := 3) (v := ?_) rfl (by kernel_rfl) (by kernel_rfl) (by kernel_rfl) (fun _ _ _ h => h) (Or.inl ⟨by rfl, ?_⟩) (by assumption) ?_
        rotate_left
        · intro w' hSw
          try dsimp only at hSw
          go_simp
          try with_reducible rfl
        try simp only [Act.put, List.setIfInBounds_toArray, List.set_cons_zero, List.set_cons_succ]
        refine wpAnyH_take (i := 4) (v := ?_) rfl (by kernel_rfl) (by kernel_rfl) (by kernel_rfl) (fun _ _ _ h => h) (Or.inl ⟨by rfl, ?_⟩) (by assumption) ?_
        rotate_left
        · intro w' hSw
          try dsimp only at hSw
          go_simp
          try with_reducible rfl
        try simp only [Act.put, List.setIfInBounds_toArray, List.set_cons_zero, List.set_cons_succ]
        refine wpAnyH_take (i := 5) (v := ?_) rfl (by kernel_rfl) (by kernel_rfl) (by kernel_rfl) (fun _ _ _ h => h) (Or.inl ⟨by rfl, ?_⟩) (by assumption) ?_
        rotate_left
        · intro w' hSw
          try dsimp only at hSw
          go_simp
          try with_reducible rfl
        try simp only [Act.put, List.setIfInBounds_toArray, List.set_cons_zero, List.set_cons_succ]
        refine wpAnyH_take (i := 6) (v := ?_) rfl (by kernel_rfl) (by kernel_rfl) (by kernel_rfl) (fun _ _ _ h => h) (Or.inl ⟨by rfl, ?_⟩) (by assumption) ?_
        rotate_left
        · intro w' hSw
          try dsimp only at hSw
          go_simp
          try with_reducible rfl
        try simp only [Act.put, List.setIfInBounds_toArray, List.set_cons_zero, List.set_cons_succ]
        refine wpAnyH_take (i := 7) (v := ?_) rfl (by kernel_rfl) (by kernel_rfl) (by kernel_rfl) (fun _ _ _ h => h) (Or.inl ⟨by rfl, ?_⟩) (by assumption) ?_
        rotate_left
        · intro w' hSw
          try dsimp only at hSw
          go_simp
          try with_reducible rfl
        try simp only [Act.put, List.setIfInBounds_toArray, List.set_cons_zero, List.set_cons_succ]
        refine wpAnyH_take (i := 9) (v := ?_) rfl (by kernel_rfl) (by kernel_rfl) (by kernel_rfl) (fun _ _ _ h => h) (Or.inl ⟨by rfl, ?_⟩) (by assumption) ?_
        rotate_left
        · intro w' hSw
          try dsimp only at hSw
          go_simp
          try with_reducible rfl
        try simp only [Act.put, List.setIfInBounds_toArray, List.set_cons_zero, List.set_cons_succ]
        refine wpAnyH_take (i := 10) (v := ?_) rfl (by kernel_rfl) (by kernel_rfl) (by kernel_rfl) (fun _ _ _ h => h) (Or.inl ⟨by rfl, ?_⟩) (by assumption) ?_
        rotate_left
        · intro w' hSw
          try dsimp only at hSw
          go_simp
          try with_reducible rfl
        try simp only [Act.put, List.setIfInBounds_toArray, List.set_cons_zero, List.set_cons_succ]
        refine wpAnyH_take (i := 11) (v := ?_) rfl (by kernel_rfl) (by kernel_rfl) (by kernel_rfl) (fun _ _ _ h => h) (Or.inl ⟨by rfl, ?_⟩) (by assumption) ?_
        rotate_left
        · intro w' hSw
          try dsimp only at hSw
          go_simp
          try with_reducible rfl
        try simp only [Act.put, List.setIfInBounds_toArray, List.set_cons_zero, List.set_cons_succ]
        refine wpAnyH_take (i := 12) (v := ?_) rfl (by kernel_rfl) (by kernel_rfl) (by kernel_rfl) (fun _ _ _ h => h) (Or.inl ⟨by rfl, ?_⟩) (by assumption) ?_
        rotate_left
        · intro w' hSw
          try dsimp only at hSw
          go_simp
          try with_reducible rfl
        try simp only [Act.put, List.setIfInBounds_toArray, List.set_cons_zero, List.set_cons_succ]
        refine wpAnyH_take (i := 13) (v := ?_) rfl (by kernel_rfl) (by kernel_rfl) (by kernel_rfl) (fun _ _ _ h => h) (Or.inl ⟨by rfl, ?_⟩) (by assumption) ?_
        rotate_left
        · intro w' hSw
          try dsimp only at hSw
          go_simp
          try with_reducible rfl
        try simp only [Act.put, List.setIfInBounds_toArray, List.set_cons_zero, List.set_cons_succ]
        refine wpAnyH_take (i := 14) (v := ?_) rfl (by kernel_rfl) (by kernel_rfl) (by kernel_rfl) (fun _ _ _ h => h) (Or.inl ⟨by rfl, ?_⟩) (by assumption) ?_
        rotate_left
        · intro w' hSw
          try dsimp only at hSw
          go_simp
          try with_reducible rfl
        try simp only [Act.put, List.setIfInBounds_toArray, List.set_cons_zero, List.set_cons_succ]
        refine wpAnyH_ready (rs := [1, 8]) (by kernel_rfl) (by simp) ?_
        refine AllReadyH.cons rfl (fun K hK => ?_) ?_
        · go_simp
          refine hK.out _ _ ?_ (fun hHeld => ?_)
          · try dsimp only
            go_keep
          clear hK K
          try simp only [Act.put, List.setIfInBounds_toArray, List.set_cons_zero, List.set_cons_succ]
          refine wpAnyH_ready (rs := [8]) (by kernel_rfl) (by simp) ?_
          refine AllReadyH.cons rfl (fun K hK => ?_) ?_
          · go_simp
            go_at_call 27
            refine TC1.mono ?_
            rintro e w8 ⟨rfl, h8⟩
            obtain rfl := h8.symm
            refine hK.out _ _ ?_ (fun hHeld => ?_)
            · try dsimp only
              go_keep
            clear hK K
            try simp only [Act.put, List.setIfInBounds_toArray, List.set_cons_zero, List.set_cons_succ]
            refine wpAnyH_take (i := 15) (v := ?_) rfl (by kernel_rfl) (by kernel_rfl) (by kernel_rfl) (fun _ _ _ h => h) (Or.inl ⟨by rfl, ?_⟩) (by assumption) ?_
            rotate_left
            · intro w' hSw
              try dsimp only at hSw
              go_simp
              try with_reducible rfl
            try simp only [Act.put, List.setIfInBounds_toArray, List.set_cons_zero, List.set_cons_succ]
            refine wpAnyH_ready (rs := [16]) (by kernel_rfl) (by simp) ?_
            refine AllReadyH.cons rfl (fun K hK => ?_) ?_
            · go_simp
              refine hK.out _ _ ?_ (fun hHeld => ?_)
              · try dsimp only
                go_keep
              clear hK K
              try simp only [Act.put, List.setIfInBounds_toArray, List.set_cons_zero, List.set_cons_succ]
              refine wpAnyH_ready (rs := [17]) (by kernel_rfl) (by simp) ?_
              refine AllReadyH.cons rfl (fun K hK => ?_) ?_
              · rw [if_pos (by rfl)]
                refine wp_append_lies _ (.tmp 27) (.tmp 42) 41 rfl (w.heap.size + 3) 40 i40 _ 2 24 Tryd.underlying41 ih40 iz0 iz1 iz2 rfl (by decide) v i (atmC ((ts.take i).map turnT)) (by rfl) HOD.out ⟨_, 0, none⟩ 1 1 [.string (str (turn n0)), .int .i64 m0] (by rfl) rfl (World.news_of_block (heap_alloc_new _ _)) (by simp [Value.oneCell']) (by decide) (by unfold maxLen; omega) (by omega) (by simp; omega) _ rfl ?_
                intro q9 cap9 w9 ho hg hat hlt9
                have HF9 := Hid.mk (HFD.out.grown hg (fun j e => (HOD.out.lt j e).1))
                have x9 : w9.cell? ⟨w.heap.size + 1 + 1, 4, none⟩ = some v := HF9.out.x.cell 4
                have xz9 := HF9.out.x.z 4
                have y9 : w9.cell? ⟨w.heap.size, 4, none⟩ = some (.slice (some ⟨g, off, none⟩) n4 z4) := (HF9.out.b.cell 4).trans Q.out.1
                have d0 : w9.cell? ⟨g, off + i * 2, none⟩ = some (.string (str n0)) := (cell_same HF9.out.blw HF.out.blw hgw).trans c0
                have d1 : w9.cell? ⟨g, off + i * 2 + 1, none⟩ = some (.int .i64 m0) := (cell_same HF9.out.blw HF.out.blw hgw).trans c1
                have HO9 := Hid.mk ho
                clear ho hg hat hlt9
                refine hK.out _ _ ?_ (fun hHeld => ?_)
                · try dsimp only
                  go_keep
                clear hK K
                try simp only [Act.put, List.setIfInBounds_toArray, List.set_cons_zero, List.set_cons_succ]
                refine wpAnyH_take (i := 18) (v := ?_) rfl (by kernel_rfl) (by kernel_rfl) (by kernel_rfl) (fun _ _ _ h => h) (Or.inl ⟨by rfl, ?_⟩) (by assumption) ?_
                rotate_left
                · intro w' hSw
                  try dsimp only at hSw
                  go_simp
                  try with_reducible rfl
                try simp only [Act.put, List.setIfInBounds_toArray, List.set_cons_zero, List.set_cons_succ]
                refine wpAnyH_ready (rs := [19]) (by kernel_rfl) (by simp) ?_
                refine AllReadyH.cons rfl (fun K hK => ?_) ?_
                · go_simp
                  refine hK.out _ _ ?_ (fun hHeld => ?_)
                  · try dsimp only
                    exact ⟨((HF9.out.store 4 _).b.cell 4).trans Q.out.1, (cell_same (HF9.out.store 4 _).blw HF.out.blw hgw).trans c0, (cell_same (HF9.out.store 4 _).blw HF.out.blw hgw).trans c1⟩
                  clear hK K
                  try simp only [Act.put, List.setIfInBounds_toArray, List.set_cons_zero, List.set_cons_succ]
                  refine wpAnyH_done (by kernel_rfl) ?_ _
                  go_wp2
                  exact ⟨⟨i + 1, .slice (some ⟨q9, 0, none⟩) (i + 1) cap9, by go_num, by omega, ⟨HF9.out.store 4 _⟩, ⟨by rw [HTK.out]; exact own_set HO9.out 4 _⟩⟩, by simp [intOf]; omega⟩
                exact AllReadyH.nil
              exact AllReadyH.nil
            exact AllReadyH.nil
          exact AllReadyH.nil
        refine AllReadyH.cons rfl (fun K hK => ?_) ?_
        · go_simp
          go_at_call 27
          refine TC1.mono ?_
          rintro e w8 ⟨rfl, h8⟩
          obtain rfl := h8.symm
          refine hK.out _ _ ?_ (fun hHeld => ?_)
          · try dsimp only
            go_keep
          clear hK K
          try simp only [Act.put, List.setIfInBounds_toArray, List.set_cons_zero, List.set_cons_succ]
          refine wpAnyH_take (i := 15) (v := ?_) rfl (by kernel_rfl) (by kernel_rfl) (by kernel_rfl) (fun _ _ _ h => h) (Or.inl ⟨by rfl, ?_⟩) (by assumption) ?_
          rotate_left
          · intro w' hSw
            try dsimp only at hSw
            go_simp
            try with_reducible rfl
          try simp only [Act.put, List.setIfInBounds_toArray, List.set_cons_zero, List.set_cons_succ]
          refine wpAnyH_ready (rs := [1, 16]) (by kernel_rfl) (by simp) ?_
          refine AllReadyH.cons rfl (fun K hK => ?_) ?_
          · go_simp
            refine hK.out _ _ ?_ (fun hHeld => ?_)
            · try dsimp only
              go_keep
            clear hK K
            try simp only [Act.put, List.setIfInBounds_toArray, List.set_cons_zero, List.set_cons_succ]
            refine wpAnyH_ready (rs := [16]) (by kernel_rfl) (by simp) ?_
            refine AllReadyH.cons rfl (fun K hK => ?_) ?_
            · go_simp
              refine hK.out _ _ ?_ (fun hHeld => ?_)
              · try dsimp only
                go_keep
              clear hK K
              try simp only [Act.put, List.setIfInBounds_toArray, List.set_cons_zero, List.set_cons_succ]
              refine wpAnyH_ready (rs := [17]) (by kernel_rfl) (by simp) ?_
              refine AllReadyH.cons rfl (fun K hK => ?_) ?_
              · rw [if_pos (by rfl)]
                refine wp_append_lies _ (.tmp 27) (.tmp 42) 41 rfl (w.heap.size + 3) 40 i40 _ 2 24 Tryd.underlying41 ih40 iz0 iz1 iz2 rfl (by decide) v i (atmC ((ts.take i).map turnT)) (by rfl) HOD.out ⟨_, 0, none⟩ 1 1 [.string (str (turn n0)), .int .i64 m0] (by rfl) rfl (World.news_of_block (heap_alloc_new _ _)) (by simp [Value.oneCell']) (by decide) (by unfold maxLen; omega) (by omega) (by simp; omega) _ rfl ?_
                intro q9 cap9 w9 ho hg hat hlt9
                have HF9 := Hid.mk (HFD.out.grown hg (fun j e => (HOD.out.lt j e).1))
                have x9 : w9.cell? ⟨w.heap.size + 1 + 1, 4, none⟩ = some v := HF9.out.x.cell 4
                have xz9 := HF9.out.x.z 4
                have y9 : w9.cell? ⟨w.heap.size, 4, none⟩ = some (.slice (some ⟨g, off, none⟩) n4 z4) := (HF9.out.b.cell 4).trans Q.out.1
                have d0 : w9.cell? ⟨g, off + i * 2, none⟩ = some (.string (str n0)) := (cell_same HF9.out.blw HF.out.blw hgw).trans c0
                have d1 : w9.cell? ⟨g, off + i * 2 + 1, none⟩ = some (.int .i64 m0) := (cell_same HF9.out.blw HF.out.blw hgw).trans c1
                have HO9 := Hid.mk ho
                clear ho hg hat hlt9
                refine hK.out _ _ ?_ (fun hHeld => ?_)
                · try dsimp only
                  go_keep
                clear hK K
                try simp only [Act.put, List.setIfInBounds_toArray, List.set_cons_zero, List.set_cons_succ]
                refine wpAnyH_take (i := 18) (v := ?_) rfl (by kernel_rfl) (by kernel_rfl) (by kernel_rfl) (fun _ _ _ h => h) (Or.inl ⟨by rfl, ?_⟩) (by assumption) ?_
                rotate_left
                · intro w' hSw
                  try dsimp only at hSw
                  go_simp
                  try with_reducible rfl
                try simp only [Act.put, List.setIfInBounds_toArray, List.set_cons_zero, List.set_cons_succ]
                refine wpAnyH_ready (rs := [19]) (by kernel_rfl) (by simp) ?_
                refine AllReadyH.cons rfl (fun K hK => ?_) ?_
                · go_simp
                  refine hK.out _ _ ?_ (fun hHeld => ?_)
                  · try dsimp only
                    exact ⟨((HF9.out.store 4 _).b.cell 4).trans Q.out.1, (cell_same (HF9.out.store 4 _).blw HF.out.blw hgw).trans c0, (cell_same (HF9.out.store 4 _).blw HF.out.blw hgw).trans c1⟩
                  clear hK K
                  try simp only [Act.put, List.setIfInBounds_toArray, List.set_cons_zero, List.set_cons_succ]
                  refine wpAnyH_done (by kernel_rfl) ?_ _
                  go_wp2
                  exact ⟨⟨i + 1, .slice (some ⟨q9, 0, none⟩) (i + 1) cap9, by go_num, by omega, ⟨HF9.out.store 4 _⟩, ⟨by rw [HTK.out]; exact own_set HO9.out 4 _⟩⟩, by simp [intOf]; omega⟩
                exact AllReadyH.nil
              exact AllReadyH.nil
            exact AllReadyH.nil
          refine AllReadyH.cons rfl (fun K hK => ?_) ?_
          · go_simp
            refine hK.out _ _ ?_ (fun hHeld => ?_)
            · try dsimp only
              go_keep
            clear hK K
            try simp only [Act.put, List.setIfInBounds_toArray, List.set_cons_zero, List.set_cons_succ]
            refine wpAnyH_ready (rs := [1]) (by kernel_rfl) (by simp) ?_
            refine AllReadyH.cons rfl (fun K hK => ?_) ?_
            · go_simp
              refine hK.out _ _ ?_ (fun hHeld => ?_)
              · try dsimp only
                go_keep
              clear hK K
              try simp only [Act.put, List.setIfInBounds_toArray, List.set_cons_zero, List.set_cons_succ]
              refine wpAnyH_ready (rs := [17]) (by kernel_rfl) (by simp) ?_
              refine AllReadyH.cons rfl (fun K hK => ?_) ?_
              · rw [if_pos (by rfl)]
                refine wp_append_lies _ (.tmp 27) (.tmp 42) 41 rfl (w.heap.size + 3) 40 i40 _ 2 24 Tryd.underlying41 ih40 iz0 iz1 iz2 rfl (by decide) v i (atmC ((ts.take i).map turnT)) (by rfl) HOD.out ⟨_, 0, none⟩ 1 1 [.string (str (turn n0)), .int .i64 m0] (by rfl) rfl (World.news_of_block (heap_alloc_new _ _)) (by simp [Value.oneCell']) (by decide) (by unfold maxLen; omega) (by omega) (by simp; omega) _ rfl ?_
                intro q9 cap9 w9 ho hg hat hlt9
                have HF9 := Hid.mk (HFD.out.grown hg (fun j e => (HOD.out.lt j e).1))
                have x9 : w9.cell? ⟨w.heap.size + 1 + 1, 4, none⟩ = some v := HF9.out.x.cell 4
                have xz9 := HF9.out.x.z 4
                have y9 : w9.cell? ⟨w.heap.size, 4, none⟩ = some (.slice (some ⟨g, off, none⟩) n4 z4) := (HF9.out.b.cell 4).trans Q.out.1
                have d0 : w9.cell? ⟨g, off + i * 2, none⟩ = some (.string (str n0)) := (cell_same HF9.out.blw HF.out.blw hgw).trans c0
                have d1 : w9.cell? ⟨g, off + i * 2 + 1, none⟩ = some (.int .i64 m0) := (cell_same HF9.out.blw HF.out.blw hgw).trans c1
                have HO9 := Hid.mk ho
                clear ho hg hat hlt9
                refine hK.out _ _ ?_ (fun hHeld => ?_)
                · try dsimp only
                  go_keep
                clear hK K
                try simp only [Act.put, List.setIfInBounds_toArray, List.set_cons_zero, List.set_cons_succ]
                refine wpAnyH_take (i := 18) (v := ?_) rfl (by kernel_rfl) (by kernel_rfl) (by kernel_rfl) (fun _ _ _ h => h) (Or.inl ⟨by rfl, ?_⟩) (by assumption) ?_
                rotate_left
                · intro w' hSw
                  try dsimp only at hSw
                  go_simp
                  try with_reducible rfl
                try simp only [Act.put, List.setIfInBounds_toArray, List.set_cons_zero, List.set_cons_succ]
                refine wpAnyH_ready (rs := [19]) (by kernel_rfl) (by simp) ?_
                refine AllReadyH.cons rfl (fun K hK => ?_) ?_
                · go_simp
                  refine hK.out _ _ ?_ (fun hHeld => ?_)
                  · try dsimp only
                    exact ⟨((HF9.out.store 4 _).b.cell 4).trans Q.out.1, (cell_same (HF9.out.store 4 _).blw HF.out.blw hgw).trans c0, (cell_same (HF9.out.store 4 _).blw HF.out.blw hgw).trans c1⟩
                  clear hK K
                  try simp only [Act.put, List.setIfInBounds_toArray, List.set_cons_zero, List.set_cons_succ]
                  refine wpAnyH_done (by kernel_rfl) ?_ _
                  go_wp2
                  exact ⟨⟨i + 1, .slice (some ⟨q9, 0, none⟩) (i + 1) cap9, by go_num, by omega, ⟨HF9.out.store 4 _⟩, ⟨by rw [HTK.out]; exact own_set HO9.out 4 _⟩⟩, by simp [intOf]; omega⟩
                exact AllReadyH.nil
              exact AllReadyH.nil
            exact AllReadyH.nil
          exact AllReadyH.nil
        exact AllReadyH.nil
      · obtain rfl : n4 = i := by omega
        have hh : ts.take n4 = ts := List.take_of_length_le (by rw [HN.out.1]; exact Nat.le_refl _)
        have OW4 := OW.out
        rw [hh] at OW4
        have HOW4 := Hid.mk OW4
        have y5 : wr.cell? ⟨w.heap.size, 5, none⟩ = some (.slice h5 n5 z5) := (HF.out.b.cell 5).trans Q.out.2.1
        have TB := HIH.out.1 wr (.slice h5 n5 z5) xb (by have := HALL.out.2.1.keeps (keeps_all HF.out.blw); rwa [← HN.out.2.1] at this ⊢) (isBs_keeps (keeps_all HF.out.blw) _ _ HALL.out.2.2.1)
        rw [HN.out.2.1] at TB
        clear hh OW4 OW
        go_wp2_with (go_at_call 14; refine TB.mono ?_; rintro e w5 ⟨B5, v5, xb', rfl, R5', I5'⟩; obtain ⟨j5, q5, rfl, -, -⟩ := id R5'; have HF5 := Hid.mk (HF.out.below B5); have x5 := HF5.out.x.cell 5; have xz5 := HF5.out.x.z 5; have HR5 := Hid.mk (And.intro R5' I5'); have HB5 := Hid.mk B5; clear B5 R5' I5' TB)
        have HF6 := Hid.mk (HF5.out.store 5 (.slice j5 n5 q5))
        have I4 : Hid (IsRow (w5.setCell ⟨w.heap.size + 1 + 1, 5, none⟩ (.slice j5 n5 q5)) (inz (w.heap.size + 3) (w5.setCell ⟨w.heap.size + 1 + 1, 5, none⟩ (.slice j5 n5 q5)) nilS) (atmC (ts.map turnT)) n4 v) := ⟨((rowz_nil HOW4.out b4.2).keeps (inz_below HB5.out)).keeps (inz_store (by omega) _ _ _ _)⟩
        have KN : Keeps (new wr w5) (inz (w.heap.size + 3) (w5.setCell ⟨w.heap.size + 1 + 1, 5, none⟩ (.slice j5 n5 q5)) nilS) w5 (w5.setCell ⟨w.heap.size + 1 + 1, 5, none⟩ (.slice j5 n5 q5)) := keeps_trans (inz_new HF.out.size) (inz_store (by omega) _ _ _ _)
        have I5 : Hid (IsRow (w5.setCell ⟨w.heap.size + 1 + 1, 5, none⟩ (.slice j5 n5 q5)) (inz (w.heap.size + 3) (w5.setCell ⟨w.heap.size + 1 + 1, 5, none⟩ (.slice j5 n5 q5)) nilS) xb' n5 (.slice j5 n5 q5) ∧ isBs (w5.setCell ⟨w.heap.size + 1 + 1, 5, none⟩ (.slice j5 n5 q5)) (inz (w.heap.size + 3) (w5.setCell ⟨w.heap.size + 1 + 1, 5, none⟩ (.slice j5 n5 q5)) nilS) (turnBs bs) xb') := ⟨⟨HR5.out.1.keeps KN, isBs_keeps KN _ _ HR5.out.2⟩⟩
        generalize w5.setCell ⟨w.heap.size + 1 + 1, 5, none⟩ (.slice j5 n5 q5) = w6 at HF6 I4 I5 ⊢
        clear KN HR5 HF5 HB5 HF HOW4 x5 xz5 y5 y4 hlt hi b4
        generalize v = v4 at *
        obtain ⟨i45, ih45, jz0, jz1, jz2⟩ := info_parts info45
        go_loopw [5] (fun c wr => ∃ (i : Nat) (v : Value) (xk' : List Value), c = .int .i64 i ∧ i ≤ n6 ∧ Hid (Xs w wr cB #[.int .i64 k, .int .i64 a, .string s2, .int .i64 m, v4, .slice j5 n5 q5, v, .slice none 0 0]) ∧ Hid (wr.ownsRow (w.heap.size + 3) 45 8 v i xk') ∧ Hid (isEs wr (inz (w.heap.size + 3) wr v) (turnEs (ks.take i)) xk') ∧ Hid (IsRow wr (inz (w.heap.size + 3) wr v) (atmC (ts.map turnT)) n4 v4) ∧ Hid (IsRow wr (inz (w.heap.size + 3) wr v) xb' n5 (.slice j5 n5 q5) ∧ isBs wr (inz (w.heap.size + 3) wr v) (turnBs bs) xb')) (fun c _ => n6 - (intOf c).toNat)
        case atStart => exact ⟨0, .slice none 0 0, [], rfl, Nat.zero_le _, HF6, ⟨World.ownsRow_nil _ _ _ _⟩, ⟨by rw [List.take_zero]; simp only [turnEs, isEs]⟩, I4, I5⟩
        case round =>
          clear HF6 I4 I5
          obtain ⟨i, v, xk', rfl, hi, HF, OK, IK, I4, I5⟩ := hrel
          have y6 : wr.cell? ⟨w.heap.size, 6, none⟩ = some (.slice h6 n6 z6) := (HF.out.b.cell 6).trans Q.out.2.2.1
          by_cases hlt : i < n6
          · have kl : i < ks.length := by rw [HN.out.2.2.1]; exact hlt
            obtain ⟨_, _, e, _, hx⟩ := HALL.out.2.2.2.1
            simp only [Value.slice.injEq] at e
            obtain ⟨rfl, _, rfl⟩ := e
            obtain ⟨g, off, rfl, hgw, hx⟩ := hx (by omega)
            obtain ⟨dd, hd, hgd⟩ := isEs_get ks xk HALL.out.2.2.2.2.1 i kl
            have TK := HIH.out.2.1 _ (List.getElem_mem kl) wr.drew dd (isE_keeps (keeps_all HF.out.drew.blw) _ _ hd)
            have HTK := Hid.mk (turnEs_take ks i kl)
            generalize ks[i]'kl = kid at *
            obtain ⟨kk, ka, km, ks', i4, i5, i6, i7, l4, l5, l6, l7, y4, y5', y6', y7, rfl⟩ := isE_eight hd
            have bl : ∀ (j : Nat) (u : Value), [.int .i64 kk, .int .i64 ka, .string ks', .int .i64 km, .slice i4 l4 y4, .slice i5 l5 y5', .slice i6 l6 y6', .slice i7 l7 y7][j]? = some u → wr.cell? ⟨g, off + i * 8 + j, none⟩ = some u := fun j u hj => by
              have h0 := hx _ _ (hgd j u hj)
              rw [← Nat.add_assoc] at h0
              exact (HF.out.blw.cell (World.block_lt_of_cell? _ _ h0)).trans h0
            have d0 := bl 0 _ rfl
            have d1 := bl 1 _ rfl
            have d2 := bl 2 _ rfl
            have d3 := bl 3 _ rfl
            have d4 := bl 4 _ rfl
            have d5 := bl 5 _ rfl
            have d6 := bl 6 _ rfl
            have d7 := bl 7 _ rfl
            rw [Nat.add_zero] at d0
            have x6 : wr.cell? ⟨w.heap.size + 1 + 1, 6, none⟩ = some v := HF.out.x.cell 6
            have hlt' : (i : Int) < n6 := by omega
            have hi0 : (0 : Int) ≤ i := by omega
            have HDR : Hid (Below wr.heap.size wr wr.drew) := ⟨(Below.refl _ _).drew⟩
            clear hx hgd bl hd
            go_wp2
            refine wp_region_held_drew (S := (fun w' => w'.cell? ⟨w.heap.size, 6, none⟩ = some (.slice (some ⟨g, off, none⟩) n6 z6) ∧ w'.cell? ⟨g, off + i * 8, none⟩ = some (.int .i64 kk) ∧ w'.cell? ⟨g, off + i * 8 + 1, none⟩ = some (.int .i64 ka) ∧ w'.cell? ⟨g, off + i * 8 + 2, none⟩ = some (.string ks') ∧ w'.cell? ⟨g, off + i * 8 + 3, none⟩ = some (.int .i64 km) ∧ w'.cell? ⟨g, off + i * 8 + 4, none⟩ = some (.slice i4 l4 y4) ∧ w'.cell? ⟨g, off + i * 8 + 5, none⟩ = some (.slice i5 l5 y5') ∧ w'.cell? ⟨g, off + i * 8 + 6, none⟩ = some (.slice i6 l6 y6') ∧ w'.cell? ⟨g, off + i * 8 + 7, none⟩ = some (.slice i7 l7 y7))) (by kernel_rfl) ?_ (fun hHeld => ?_)
            · try dsimp only
              go_keep
            refine wpAnyH_take (i := 0) (v := ?_) rfl (by kernel_rfl) (by kernel_rfl) (by kernel_rfl) (fun _ _ _ h => h) (Or.inl ⟨by rfl, ?_⟩) (by assumption) ?_
            rotate_left
            · intro w' hSw
              try dsimp only at hSw
              go_simp
              try with_reducible rfl
            try simp only [Act.put, List.setIfInBounds_toArray, List.set_cons_zero, List.set_cons_succ]
            refine wpAnyH_take (i := 2) (v := ?_) rfl (by kernel_rfl) (by kernel_rfl) (by kernel_rfl) (fun _ _ _ h => h) (Or.inl ⟨by rfl, ?_⟩) (by assumption) ?_
            rotate_left
            · intro w' hSw
              try dsimp only at hSw
              go_simp
              try with_reducible rfl
            try simp only [Act.put, List.setIfInBounds_toArray, List.set_cons_zero, List.set_cons_succ]
            refine wpAnyH_take (i := 3) (v := ?_) rfl (by kernel_rfl) (by kernel_rfl) (by kernel_rfl) (fun _ _ _ h => h) (Or.inl ⟨by rfl, ?_⟩) (by assumption) ?_
            rotate_left
            · intro w' hSw
              try dsimp only at hSw
              go_simp
              try with_reducible rfl
            try simp only [Act.put, List.setIfInBounds_toArray, List.set_cons_zero, List.set_cons_succ]
            refine wpAnyH_take (i := 4) (v := ?_) rfl (by kernel_rfl) (by kernel_rfl) (by kernel_rfl) (fun _ _ _ h => h) (Or.inl ⟨by rfl, ?_⟩) (by assumption) ?_
            rotate_left
            · intro w' hSw
              try dsimp only at hSw
              go_simp
              try with_reducible rfl
            try simp only [Act.put, List.setIfInBounds_toArray, List.set_cons_zero, List.set_cons_succ]
            refine wpAnyH_take (i := 5) (v := ?_) rfl (by kernel_rfl) (by kernel_rfl) (by kernel_rfl) (fun _ _ _ h => h) (Or.inl ⟨by rfl, ?_⟩) (by assumption) ?_
            rotate_left
            · intro w' hSw
              try dsimp only at hSw
              go_simp
              try with_reducible rfl
            try simp only [Act.put, List.setIfInBounds_toArray, List.set_cons_zero, List.set_cons_succ]
            refine wpAnyH_take (i := 6) (v := ?_) rfl (by kernel_rfl) (by kernel_rfl) (by kernel_rfl) (fun _ _ _ h => h) (Or.inl ⟨by rfl, ?_⟩) (by assumption) ?_
            rotate_left
            · intro w' hSw
              try dsimp only at hSw
              go_simp
              try with_reducible rfl
            try simp only [Act.put, List.setIfInBounds_toArray, List.set_cons_zero, List.set_cons_succ]
            refine wpAnyH_ready (rs := [1, 7]) (by kernel_rfl) (by simp) ?_
            refine AllReadyH.cons rfl (fun K hK => ?_) ?_
            · go_simp
              refine hK.out _ _ ?_ (fun hHeld => ?_)
              · try dsimp only
                go_keep
              clear hK K
              try simp only [Act.put, List.setIfInBounds_toArray, List.set_cons_zero, List.set_cons_succ]
              refine wpAnyH_ready (rs := [7]) (by kernel_rfl) (by simp) ?_
              refine AllReadyH.cons rfl (fun K hK => ?_) ?_
              · go_simp
                go_at_call 29
                refine TK.mono ?_
                rintro e w8 ⟨B8, c', rfl, I8⟩
                obtain ⟨k2, xa2, xm2, xs2, j4, j5, j6, j7, p4, p5, p6, p7, q4, q5, q6, q7, rfl⟩ := isE_eight I8
                have HF8 := Hid.mk (HF.out.drew.below B8)
                have HB8 := Hid.mk B8
                have HI8 := Hid.mk I8
                have x68 : w8.cell? ⟨w.heap.size + 1 + 1, 6, none⟩ = some v := HF8.out.x.cell 6
                have HF8a := Hid.mk (HF8.out.alloc (.cells #[.int .i64 k2, .int .i64 xa2, .string xs2, .int .i64 xm2, .slice j4 p4 q4, .slice j5 p5 q5, .slice j6 p6 q6, .slice j7 p7 q7] 45))
                have x68a : (w8.alloc (.cells #[.int .i64 k2, .int .i64 xa2, .string xs2, .int .i64 xm2, .slice j4 p4 q4, .slice j5 p5 q5, .slice j6 p6 q6, .slice j7 p7 q7] 45)).cell? ⟨w.heap.size + 1 + 1, 6, none⟩ = some v := HF8a.out.x.cell 6
                have fy : w8.cell? ⟨w.heap.size, 6, none⟩ = some (.slice (some ⟨g, off, none⟩) n6 z6) := (HF8.out.b.cell 6).trans Q.out.2.2.1
                have f0 : w8.cell? ⟨g, off + i * 8, none⟩ = some (.int .i64 kk) := (cell_same HF8.out.blw HF.out.blw hgw).trans d0
                have f1 : w8.cell? ⟨g, off + i * 8 + 1, none⟩ = some (.int .i64 ka) := (cell_same HF8.out.blw HF.out.blw hgw).trans d1
                have f2 : w8.cell? ⟨g, off + i * 8 + 2, none⟩ = some (.string ks') := (cell_same HF8.out.blw HF.out.blw hgw).trans d2
                have f3 : w8.cell? ⟨g, off + i * 8 + 3, none⟩ = some (.int .i64 km) := (cell_same HF8.out.blw HF.out.blw hgw).trans d3
                have f4 : w8.cell? ⟨g, off + i * 8 + 4, none⟩ = some (.slice i4 l4 y4) := (cell_same HF8.out.blw HF.out.blw hgw).trans d4
                have f5 : w8.cell? ⟨g, off + i * 8 + 5, none⟩ = some (.slice i5 l5 y5') := (cell_same HF8.out.blw HF.out.blw hgw).trans d5
                have f6 : w8.cell? ⟨g, off + i * 8 + 6, none⟩ = some (.slice i6 l6 y6') := (cell_same HF8.out.blw HF.out.blw hgw).trans d6
                have f7 : w8.cell? ⟨g, off + i * 8 + 7, none⟩ = some (.slice i7 l7 y7) := (cell_same HF8.out.blw HF.out.blw hgw).trans d7
                have fay : (w8.alloc (.cells #[.int .i64 k2, .int .i64 xa2, .string xs2, .int .i64 xm2, .slice j4 p4 q4, .slice j5 p5 q5, .slice j6 p6 q6, .slice j7 p7 q7] 45)).cell? ⟨w.heap.size, 6, none⟩ = some (.slice (some ⟨g, off, none⟩) n6 z6) := (HF8a.out.b.cell 6).trans Q.out.2.2.1
                have fa0 : (w8.alloc (.cells #[.int .i64 k2, .int .i64 xa2, .string xs2, .int .i64 xm2, .slice j4 p4 q4, .slice j5 p5 q5, .slice j6 p6 q6, .slice j7 p7 q7] 45)).cell? ⟨g, off + i * 8, none⟩ = some (.int .i64 kk) := (cell_same HF8a.out.blw HF.out.blw hgw).trans d0
                have fa1 : (w8.alloc (.cells #[.int .i64 k2, .int .i64 xa2, .string xs2, .int .i64 xm2, .slice j4 p4 q4, .slice j5 p5 q5, .slice j6 p6 q6, .slice j7 p7 q7] 45)).cell? ⟨g, off + i * 8 + 1, none⟩ = some (.int .i64 ka) := (cell_same HF8a.out.blw HF.out.blw hgw).trans d1
                have fa2 : (w8.alloc (.cells #[.int .i64 k2, .int .i64 xa2, .string xs2, .int .i64 xm2, .slice j4 p4 q4, .slice j5 p5 q5, .slice j6 p6 q6, .slice j7 p7 q7] 45)).cell? ⟨g, off + i * 8 + 2, none⟩ = some (.string ks') := (cell_same HF8a.out.blw HF.out.blw hgw).trans d2
                have fa3 : (w8.alloc (.cells #[.int .i64 k2, .int .i64 xa2, .string xs2, .int .i64 xm2, .slice j4 p4 q4, .slice j5 p5 q5, .slice j6 p6 q6, .slice j7 p7 q7] 45)).cell? ⟨g, off + i * 8 + 3, none⟩ = some (.int .i64 km) := (cell_same HF8a.out.blw HF.out.blw hgw).trans d3
                have fa4 : (w8.alloc (.cells #[.int .i64 k2, .int .i64 xa2, .string xs2, .int .i64 xm2, .slice j4 p4 q4, .slice j5 p5 q5, .slice j6 p6 q6, .slice j7 p7 q7] 45)).cell? ⟨g, off + i * 8 + 4, none⟩ = some (.slice i4 l4 y4) := (cell_same HF8a.out.blw HF.out.blw hgw).trans d4
                have fa5 : (w8.alloc (.cells #[.int .i64 k2, .int .i64 xa2, .string xs2, .int .i64 xm2, .slice j4 p4 q4, .slice j5 p5 q5, .slice j6 p6 q6, .slice j7 p7 q7] 45)).cell? ⟨g, off + i * 8 + 5, none⟩ = some (.slice i5 l5 y5') := (cell_same HF8a.out.blw HF.out.blw hgw).trans d5
                have fa6 : (w8.alloc (.cells #[.int .i64 k2, .int .i64 xa2, .string xs2, .int .i64 xm2, .slice j4 p4 q4, .slice j5 p5 q5, .slice j6 p6 q6, .slice j7 p7 q7] 45)).cell? ⟨g, off + i * 8 + 6, none⟩ = some (.slice i6 l6 y6') := (cell_same HF8a.out.blw HF.out.blw hgw).trans d6
                have fa7 : (w8.alloc (.cells #[.int .i64 k2, .int .i64 xa2, .string xs2, .int .i64 xm2, .slice j4 p4 q4, .slice j5 p5 q5, .slice j6 p6 q6, .slice j7 p7 q7] 45)).cell? ⟨g, off + i * 8 + 7, none⟩ = some (.slice i7 l7 y7) := (cell_same HF8a.out.blw HF.out.blw hgw).trans d7
                clear B8 I8
                refine hK.out _ _ ?_ (fun hHeld => ?_)
                · try dsimp only
                  go_keep
                clear hK K
                try simp only [Act.put, List.setIfInBounds_toArray, List.set_cons_zero, List.set_cons_succ]
                refine wpAnyH_ready (rs := [8]) (by kernel_rfl) (by simp) ?_
                refine AllReadyH.cons rfl (fun K hK => ?_) ?_
                · go_simp
                  refine hK.out _ _ ?_ (fun hHeld => ?_)
                  · try dsimp only
                    go_keep
                  clear hK K
                  try simp only [Act.put, List.setIfInBounds_toArray, List.set_cons_zero, List.set_cons_succ]
                  refine wpAnyH_ready (rs := [9]) (by kernel_rfl) (by simp) ?_
                  refine AllReadyH.cons rfl (fun K hK => ?_) ?_
                  · rw [if_pos (by rfl)]
                    refine wp_append_lies _ (.tmp 57) (.tmp 64) 42 rfl (w.heap.size + 3) 45 i45 _ 8 136 Tryd.underlying42 ih45 jz0 jz1 jz2 rfl (by decide) v i xk' (by rfl) (own_blw (own_blw (own_blw OK.out HDR.out) HB8.out) (Joins.below_alloc1 _ _)) ⟨_, 0, none⟩ 1 1 [.int .i64 k2, .int .i64 xa2, .string xs2, .int .i64 xm2, .slice j4 p4 q4, .slice j5 p5 q5, .slice j6 p6 q6, .slice j7 p7 q7] (by rfl) rfl (World.news_of_block (heap_alloc_new _ _)) (by simp [Value.oneCell']) (by decide) (by unfold maxLen; omega) (by omega) (by simp; have := HF8.out.size; omega) _ rfl ?_
                    intro q9 cap9 w9 ho hg hat hlt9
                    have HF9 := Hid.mk (HF8a.out.grown hg (fun j e => (OK.out.lt j e).1))
                    have fby : w9.cell? ⟨w.heap.size, 6, none⟩ = some (.slice (some ⟨g, off, none⟩) n6 z6) := (HF9.out.b.cell 6).trans Q.out.2.2.1
                    have fb0 : w9.cell? ⟨g, off + i * 8, none⟩ = some (.int .i64 kk) := (cell_same HF9.out.blw HF.out.blw hgw).trans d0
                    have fb1 : w9.cell? ⟨g, off + i * 8 + 1, none⟩ = some (.int .i64 ka) := (cell_same HF9.out.blw HF.out.blw hgw).trans d1
                    have fb2 : w9.cell? ⟨g, off + i * 8 + 2, none⟩ = some (.string ks') := (cell_same HF9.out.blw HF.out.blw hgw).trans d2
                    have fb3 : w9.cell? ⟨g, off + i * 8 + 3, none⟩ = some (.int .i64 km) := (cell_same HF9.out.blw HF.out.blw hgw).trans d3
                    have fb4 : w9.cell? ⟨g, off + i * 8 + 4, none⟩ = some (.slice i4 l4 y4) := (cell_same HF9.out.blw HF.out.blw hgw).trans d4
                    have fb5 : w9.cell? ⟨g, off + i * 8 + 5, none⟩ = some (.slice i5 l5 y5') := (cell_same HF9.out.blw HF.out.blw hgw).trans d5
                    have fb6 : w9.cell? ⟨g, off + i * 8 + 6, none⟩ = some (.slice i6 l6 y6') := (cell_same HF9.out.blw HF.out.blw hgw).trans d6
                    have fb7 : w9.cell? ⟨g, off + i * 8 + 7, none⟩ = some (.slice i7 l7 y7) := (cell_same HF9.out.blw HF.out.blw hgw).trans d7
                    have x9 : w9.cell? ⟨w.heap.size + 1 + 1, 6, none⟩ = some v := HF9.out.x.cell 6
                    have xz9 := HF9.out.x.z 6
                    have HO9 := Hid.mk (And.intro ho (And.intro hg hat))
                    clear ho hg hat hlt9
                    refine hK.out _ _ ?_ (fun hHeld => ?_)
                    · try dsimp only
                      go_keep
                    clear hK K
                    try simp only [Act.put, List.setIfInBounds_toArray, List.set_cons_zero, List.set_cons_succ]
                    refine wpAnyH_take (i := 10) (v := ?_) rfl (by kernel_rfl) (by kernel_rfl) (by kernel_rfl) (fun _ _ _ h => h) (Or.inl ⟨by rfl, ?_⟩) (by assumption) ?_
                    rotate_left
                    · intro w' hSw
                      try dsimp only at hSw
                      go_simp
                      try with_reducible rfl
                    try simp only [Act.put, List.setIfInBounds_toArray, List.set_cons_zero, List.set_cons_succ]
                    refine wpAnyH_ready (rs := [11]) (by kernel_rfl) (by simp) ?_
                    refine AllReadyH.cons rfl (fun K hK => ?_) ?_
                    · go_simp
                      refine hK.out _ _ ?_ (fun hHeld => ?_)
                      · try dsimp only
                        exact ⟨((HF9.out.store 6 _).b.cell 6).trans Q.out.2.2.1, (cell_same (HF9.out.store 6 _).blw HF.out.blw hgw).trans d0, (cell_same (HF9.out.store 6 _).blw HF.out.blw hgw).trans d1, (cell_same (HF9.out.store 6 _).blw HF.out.blw hgw).trans d2, (cell_same (HF9.out.store 6 _).blw HF.out.blw hgw).trans d3, (cell_same (HF9.out.store 6 _).blw HF.out.blw hgw).trans d4, (cell_same (HF9.out.store 6 _).blw HF.out.blw hgw).trans d5, (cell_same (HF9.out.store 6 _).blw HF.out.blw hgw).trans d6, (cell_same (HF9.out.store 6 _).blw HF.out.blw hgw).trans d7⟩
                      clear hK K
                      try simp only [Act.put, List.setIfInBounds_toArray, List.set_cons_zero, List.set_cons_succ]
                      refine wpAnyH_done (by kernel_rfl) ?_ _
                      go_wp2
                      have ST := kid_step (X := w.heap.size + 1 + 1) (z := w.heap.size + 3) (j := 6) (u := .slice (some ⟨q9, 0, none⟩) (i + 1) cap9) (cap := cap9) (by omega) HF.out.drew.size HB8.out (Joins.below_alloc1 w8 _) HO9.out.2.1 HO9.out.2.2 (own_blw OK.out HDR.out) (isEs_keeps (inz_below HDR.out) _ _ IK.out) HI8.out
                      rw [← HTK.out] at ST
                      have KD : Keeps (inz (w.heap.size + 3) wr v) (inz (w.heap.size + 3) (w9.setCell ⟨w.heap.size + 1 + 1, 6, none⟩ (.slice (some ⟨q9, 0, none⟩) (i + 1) cap9)) (.slice (some ⟨q9, 0, none⟩) (i + 1) cap9)) wr _ := keeps_trans (inz_below HDR.out) ST.2
                      exact ⟨⟨i + 1, .slice (some ⟨q9, 0, none⟩) (i + 1) cap9, xk' ++ [.int .i64 k2, .int .i64 xa2, .string xs2, .int .i64 xm2, .slice j4 p4 q4, .slice j5 p5 q5, .slice j6 p6 q6, .slice j7 p7 q7], by go_num, by omega, ⟨HF9.out.store 6 _⟩, ⟨own_set HO9.out.1 6 _⟩, ⟨ST.1⟩, ⟨I4.out.keeps KD⟩, ⟨⟨I5.out.1.keeps KD, isBs_keeps KD _ _ I5.out.2⟩⟩⟩, by simp [intOf]; omega⟩
                    exact AllReadyH.nil
                  exact AllReadyH.nil
                exact AllReadyH.nil
              exact AllReadyH.nil
            refine AllReadyH.cons rfl (fun K hK => ?_) ?_
            · go_simp
              go_at_call 29
              refine TK.mono ?_
              rintro e w8 ⟨B8, c', rfl, I8⟩
              obtain ⟨k2, xa2, xm2, xs2, j4, j5, j6, j7, p4, p5, p6, p7, q4, q5, q6, q7, rfl⟩ := isE_eight I8
              have HF8 := Hid.mk (HF.out.drew.below B8)
              have HB8 := Hid.mk B8
              have HI8 := Hid.mk I8
              have x68 : w8.cell? ⟨w.heap.size + 1 + 1, 6, none⟩ = some v := HF8.out.x.cell 6
              have HF8a := Hid.mk (HF8.out.alloc (.cells #[.int .i64 k2, .int .i64 xa2, .string xs2, .int .i64 xm2, .slice j4 p4 q4, .slice j5 p5 q5, .slice j6 p6 q6, .slice j7 p7 q7] 45))
              have x68a : (w8.alloc (.cells #[.int .i64 k2, .int .i64 xa2, .string xs2, .int .i64 xm2, .slice j4 p4 q4, .slice j5 p5 q5, .slice j6 p6 q6, .slice j7 p7 q7] 45)).cell? ⟨w.heap.size + 1 + 1, 6, none⟩ = some v := HF8a.out.x.cell 6
              have fy : w8.cell? ⟨w.heap.size, 6, none⟩ = some (.slice (some ⟨g, off, none⟩) n6 z6) := (HF8.out.b.cell 6).trans Q.out.2.2.1
              have f0 : w8.cell? ⟨g, off + i * 8, none⟩ = some (.int .i64 kk) := (cell_same HF8.out.blw HF.out.blw hgw).trans d0
              have f1 : w8.cell? ⟨g, off + i * 8 + 1, none⟩ = some (.int .i64 ka) := (cell_same HF8.out.blw HF.out.blw hgw).trans d1
              have f2 : w8.cell? ⟨g, off + i * 8 + 2, none⟩ = some (.string ks') := (cell_same HF8.out.blw HF.out.blw hgw).trans d2
              have f3 : w8.cell? ⟨g, off + i * 8 + 3, none⟩ = some (.int .i64 km) := (cell_same HF8.out.blw HF.out.blw hgw).trans d3
              have f4 : w8.cell? ⟨g, off + i * 8 + 4, none⟩ = some (.slice i4 l4 y4) := (cell_same HF8.out.blw HF.out.blw hgw).trans d4
              have f5 : w8.cell? ⟨g, off + i * 8 + 5, none⟩ = some (.slice i5 l5 y5') := (cell_same HF8.out.blw HF.out.blw hgw).trans d5
              have f6 : w8.cell? ⟨g, off + i * 8 + 6, none⟩ = some (.slice i6 l6 y6') := (cell_same HF8.out.blw HF.out.blw hgw).trans d6
              have f7 : w8.cell? ⟨g, off + i * 8 + 7, none⟩ = some (.slice i7 l7 y7) := (cell_same HF8.out.blw HF.out.blw hgw).trans d7
              have fay : (w8.alloc (.cells #[.int .i64 k2, .int .i64 xa2, .string xs2, .int .i64 xm2, .slice j4 p4 q4, .slice j5 p5 q5, .slice j6 p6 q6, .slice j7 p7 q7] 45)).cell? ⟨w.heap.size, 6, none⟩ = some (.slice (some ⟨g, off, none⟩) n6 z6) := (HF8a.out.b.cell 6).trans Q.out.2.2.1
              have fa0 : (w8.alloc (.cells #[.int .i64 k2, .int .i64 xa2, .string xs2, .int .i64 xm2, .slice j4 p4 q4, .slice j5 p5 q5, .slice j6 p6 q6, .slice j7 p7 q7] 45)).cell? ⟨g, off + i * 8, none⟩ = some (.int .i64 kk) := (cell_same HF8a.out.blw HF.out.blw hgw).trans d0
              have fa1 : (w8.alloc (.cells #[.int .i64 k2, .int .i64 xa2, .string xs2, .int .i64 xm2, .slice j4 p4 q4, .slice j5 p5 q5, .slice j6 p6 q6, .slice j7 p7 q7] 45)).cell? ⟨g, off + i * 8 + 1, none⟩ = some (.int .i64 ka) := (cell_same HF8a.out.blw HF.out.blw hgw).trans d1
              have fa2 : (w8.alloc (.cells #[.int .i64 k2, .int .i64 xa2, .string xs2, .int .i64 xm2, .slice j4 p4 q4, .slice j5 p5 q5, .slice j6 p6 q6, .slice j7 p7 q7] 45)).cell? ⟨g, off + i * 8 + 2, none⟩ = some (.string ks') := (cell_same HF8a.out.blw HF.out.blw hgw).trans d2
              have fa3 : (w8.alloc (.cells #[.int .i64 k2, .int .i64 xa2, .string xs2, .int .i64 xm2, .slice j4 p4 q4, .slice j5 p5 q5, .slice j6 p6 q6, .slice j7 p7 q7] 45)).cell? ⟨g, off + i * 8 + 3, none⟩ = some (.int .i64 km) := (cell_same HF8a.out.blw HF.out.blw hgw).trans d3
              have fa4 : (w8.alloc (.cells #[.int .i64 k2, .int .i64 xa2, .string xs2, .int .i64 xm2, .slice j4 p4 q4, .slice j5 p5 q5, .slice j6 p6 q6, .slice j7 p7 q7] 45)).cell? ⟨g, off + i * 8 + 4, none⟩ = some (.slice i4 l4 y4) := (cell_same HF8a.out.blw HF.out.blw hgw).trans d4
              have fa5 : (w8.alloc (.cells #[.int .i64 k2, .int .i64 xa2, .string xs2, .int .i64 xm2, .slice j4 p4 q4, .slice j5 p5 q5, .slice j6 p6 q6, .slice j7 p7 q7] 45)).cell? ⟨g, off + i * 8 + 5, none⟩ = some (.slice i5 l5 y5') := (cell_same HF8a.out.blw HF.out.blw hgw).trans d5
              have fa6 : (w8.alloc (.cells #[.int .i64 k2, .int .i64 xa2, .string xs2, .int .i64 xm2, .slice j4 p4 q4, .slice j5 p5 q5, .slice j6 p6 q6, .slice j7 p7 q7] 45)).cell? ⟨g, off + i * 8 + 6, none⟩ = some (.slice i6 l6 y6') := (cell_same HF8a.out.blw HF.out.blw hgw).trans d6
              have fa7 : (w8.alloc (.cells #[.int .i64 k2, .int .i64 xa2, .string xs2, .int .i64 xm2, .slice j4 p4 q4, .slice j5 p5 q5, .slice j6 p6 q6, .slice j7 p7 q7] 45)).cell? ⟨g, off + i * 8 + 7, none⟩ = some (.slice i7 l7 y7) := (cell_same HF8a.out.blw HF.out.blw hgw).trans d7
              clear B8 I8
              refine hK.out _ _ ?_ (fun hHeld => ?_)
              · try dsimp only
                go_keep
              clear hK K
              try simp only [Act.put, List.setIfInBounds_toArray, List.set_cons_zero, List.set_cons_succ]
              refine wpAnyH_ready (rs := [1, 8]) (by kernel_rfl) (by simp) ?_
              refine AllReadyH.cons rfl (fun K hK => ?_) ?_
              · go_simp
                refine hK.out _ _ ?_ (fun hHeld => ?_)
                · try dsimp only
                  go_keep
                clear hK K
                try simp only [Act.put, List.setIfInBounds_toArray, List.set_cons_zero, List.set_cons_succ]
                refine wpAnyH_ready (rs := [8]) (by kernel_rfl) (by simp) ?_
                refine AllReadyH.cons rfl (fun K hK => ?_) ?_
                · go_simp
                  refine hK.out _ _ ?_ (fun hHeld => ?_)
                  · try dsimp only
                    go_keep
                  clear hK K
                  try simp only [Act.put, List.setIfInBounds_toArray, List.set_cons_zero, List.set_cons_succ]
                  refine wpAnyH_ready (rs := [9]) (by kernel_rfl) (by simp) ?_
                  refine AllReadyH.cons rfl (fun K hK => ?_) ?_
                  · rw [if_pos (by rfl)]
                    refine wp_append_lies _ (.tmp 57) (.tmp 64) 42 rfl (w.heap.size + 3) 45 i45 _ 8 136 Tryd.underlying42 ih45 jz0 jz1 jz2 rfl (by decide) v i xk' (by rfl) (own_blw (own_blw (own_blw OK.out HDR.out) HB8.out) (Joins.below_alloc1 _ _)) ⟨_, 0, none⟩ 1 1 [.int .i64 k2, .int .i64 xa2, .string xs2, .int .i64 xm2, .slice j4 p4 q4, .slice j5 p5 q5, .slice j6 p6 q6, .slice j7 p7 q7] (by rfl) rfl (World.news_of_block (heap_alloc_new _ _)) (by simp [Value.oneCell']) (by decide) (by unfold maxLen; omega) (by omega) (by simp; have := HF8.out.size; omega) _ rfl ?_
                    intro q9 cap9 w9 ho hg hat hlt9
                    have HF9 := Hid.mk (HF8a.out.grown hg (fun j e => (OK.out.lt j e).1))
                    have fby : w9.cell? ⟨w.heap.size, 6, none⟩ = some (.slice (some ⟨g, off, none⟩) n6 z6) := (HF9.out.b.cell 6).trans Q.out.2.2.1
                    have fb0 : w9.cell? ⟨g, off + i * 8, none⟩ = some (.int .i64 kk) := (cell_same HF9.out.blw HF.out.blw hgw).trans d0
                    have fb1 : w9.cell? ⟨g, off + i * 8 + 1, none⟩ = some (.int .i64 ka) := (cell_same HF9.out.blw HF.out.blw hgw).trans d1
                    have fb2 : w9.cell? ⟨g, off + i * 8 + 2, none⟩ = some (.string ks') := (cell_same HF9.out.blw HF.out.blw hgw).trans d2
                    have fb3 : w9.cell? ⟨g, off + i * 8 + 3, none⟩ = some (.int .i64 km) := (cell_same HF9.out.blw HF.out.blw hgw).trans d3
                    have fb4 : w9.cell? ⟨g, off + i * 8 + 4, none⟩ = some (.slice i4 l4 y4) := (cell_same HF9.out.blw HF.out.blw hgw).trans d4
                    have fb5 : w9.cell? ⟨g, off + i * 8 + 5, none⟩ = some (.slice i5 l5 y5') := (cell_same HF9.out.blw HF.out.blw hgw).trans d5
                    have fb6 : w9.cell? ⟨g, off + i * 8 + 6, none⟩ = some (.slice i6 l6 y6') := (cell_same HF9.out.blw HF.out.blw hgw).trans d6
                    have fb7 : w9.cell? ⟨g, off + i * 8 + 7, none⟩ = some (.slice i7 l7 y7) := (cell_same HF9.out.blw HF.out.blw hgw).trans d7
                    have x9 : w9.cell? ⟨w.heap.size + 1 + 1, 6, none⟩ = some v := HF9.out.x.cell 6
                    have xz9 := HF9.out.x.z 6
                    have HO9 := Hid.mk (And.intro ho (And.intro hg hat))
                    clear ho hg hat hlt9
                    refine hK.out _ _ ?_ (fun hHeld => ?_)
                    · try dsimp only
                      go_keep
                    clear hK K
                    try simp only [Act.put, List.setIfInBounds_toArray, List.set_cons_zero, List.set_cons_succ]
                    refine wpAnyH_take (i := 10) (v := ?_) rfl (by kernel_rfl) (by kernel_rfl) (by kernel_rfl) (fun _ _ _ h => h) (Or.inl ⟨by rfl, ?_⟩) (by assumption) ?_
                    rotate_left
                    · intro w' hSw
                      try dsimp only at hSw
                      go_simp
                      try with_reducible rfl
                    try simp only [Act.put, List.setIfInBounds_toArray, List.set_cons_zero, List.set_cons_succ]
                    refine wpAnyH_ready (rs := [11]) (by kernel_rfl) (by simp) ?_
                    refine AllReadyH.cons rfl (fun K hK => ?_) ?_
                    · go_simp
                      refine hK.out _ _ ?_ (fun hHeld => ?_)
                      · try dsimp only
                        exact ⟨((HF9.out.store 6 _).b.cell 6).trans Q.out.2.2.1, (cell_same (HF9.out.store 6 _).blw HF.out.blw hgw).trans d0, (cell_same (HF9.out.store 6 _).blw HF.out.blw hgw).trans d1, (cell_same (HF9.out.store 6 _).blw HF.out.blw hgw).trans d2, (cell_same (HF9.out.store 6 _).blw HF.out.blw hgw).trans d3, (cell_same (HF9.out.store 6 _).blw HF.out.blw hgw).trans d4, (cell_same (HF9.out.store 6 _).blw HF.out.blw hgw).trans d5, (cell_same (HF9.out.store 6 _).blw HF.out.blw hgw).trans d6, (cell_same (HF9.out.store 6 _).blw HF.out.blw hgw).trans d7⟩
                      clear hK K
                      try simp only [Act.put, List.setIfInBounds_toArray, List.set_cons_zero, List.set_cons_succ]
                      refine wpAnyH_done (by kernel_rfl) ?_ _
                      go_wp2
                      have ST := kid_step (X := w.heap.size + 1 + 1) (z := w.heap.size + 3) (j := 6) (u := .slice (some ⟨q9, 0, none⟩) (i + 1) cap9) (cap := cap9) (by omega) HF.out.drew.size HB8.out (Joins.below_alloc1 w8 _) HO9.out.2.1 HO9.out.2.2 (own_blw OK.out HDR.out) (isEs_keeps (inz_below HDR.out) _ _ IK.out) HI8.out
                      rw [← HTK.out] at ST
                      have KD : Keeps (inz (w.heap.size + 3) wr v) (inz (w.heap.size + 3) (w9.setCell ⟨w.heap.size + 1 + 1, 6, none⟩ (.slice (some ⟨q9, 0, none⟩) (i + 1) cap9)) (.slice (some ⟨q9, 0, none⟩) (i + 1) cap9)) wr _ := keeps_trans (inz_below HDR.out) ST.2
                      exact ⟨⟨i + 1, .slice (some ⟨q9, 0, none⟩) (i + 1) cap9, xk' ++ [.int .i64 k2, .int .i64 xa2, .string xs2, .int .i64 xm2, .slice j4 p4 q4, .slice j5 p5 q5, .slice j6 p6 q6, .slice j7 p7 q7], by go_num, by omega, ⟨HF9.out.store 6 _⟩, ⟨own_set HO9.out.1 6 _⟩, ⟨ST.1⟩, ⟨I4.out.keeps KD⟩, ⟨⟨I5.out.1.keeps KD, isBs_keeps KD _ _ I5.out.2⟩⟩⟩, by simp [intOf]; omega⟩
                    exact AllReadyH.nil
                  exact AllReadyH.nil
                exact AllReadyH.nil
              refine AllReadyH.cons rfl (fun K hK => ?_) ?_
              · go_simp
                refine hK.out _ _ ?_ (fun hHeld => ?_)
                · try dsimp only
                  go_keep
                clear hK K
                try simp only [Act.put, List.setIfInBounds_toArray, List.set_cons_zero, List.set_cons_succ]
                refine wpAnyH_ready (rs := [1]) (by kernel_rfl) (by simp) ?_
                refine AllReadyH.cons rfl (fun K hK => ?_) ?_
                · go_simp
                  refine hK.out _ _ ?_ (fun hHeld => ?_)
                  · try dsimp only
                    go_keep
                  clear hK K
                  try simp only [Act.put, List.setIfInBounds_toArray, List.set_cons_zero, List.set_cons_succ]
                  refine wpAnyH_ready (rs := [9]) (by kernel_rfl) (by simp) ?_
                  refine AllReadyH.cons rfl (fun K hK => ?_) ?_
                  · rw [if_pos (by rfl)]
                    refine wp_append_lies _ (.tmp 57) (.tmp 64) 42 rfl (w.heap.size + 3) 45 i45 _ 8 136 Tryd.underlying42 ih45 jz0 jz1 jz2 rfl (by decide) v i xk' (by rfl) (own_blw (own_blw (own_blw OK.out HDR.out) HB8.out) (Joins.below_alloc1 _ _)) ⟨_, 0, none⟩ 1 1 [.int .i64 k2, .int .i64 xa2, .string xs2, .int .i64 xm2, .slice j4 p4 q4, .slice j5 p5 q5, .slice j6 p6 q6, .slice j7 p7 q7] (by rfl) rfl (World.news_of_block (heap_alloc_new _ _)) (by simp [Value.oneCell']) (by decide) (by unfold maxLen; omega) (by omega) (by simp; have := HF8.out.size; omega) _ rfl ?_
                    intro q9 cap9 w9 ho hg hat hlt9
                    have HF9 := Hid.mk (HF8a.out.grown hg (fun j e => (OK.out.lt j e).1))
                    have fby : w9.cell? ⟨w.heap.size, 6, none⟩ = some (.slice (some ⟨g, off, none⟩) n6 z6) := (HF9.out.b.cell 6).trans Q.out.2.2.1
                    have fb0 : w9.cell? ⟨g, off + i * 8, none⟩ = some (.int .i64 kk) := (cell_same HF9.out.blw HF.out.blw hgw).trans d0
                    have fb1 : w9.cell? ⟨g, off + i * 8 + 1, none⟩ = some (.int .i64 ka) := (cell_same HF9.out.blw HF.out.blw hgw).trans d1
                    have fb2 : w9.cell? ⟨g, off + i * 8 + 2, none⟩ = some (.string ks') := (cell_same HF9.out.blw HF.out.blw hgw).trans d2
                    have fb3 : w9.cell? ⟨g, off + i * 8 + 3, none⟩ = some (.int .i64 km) := (cell_same HF9.out.blw HF.out.blw hgw).trans d3
                    have fb4 : w9.cell? ⟨g, off + i * 8 + 4, none⟩ = some (.slice i4 l4 y4) := (cell_same HF9.out.blw HF.out.blw hgw).trans d4
                    have fb5 : w9.cell? ⟨g, off + i * 8 + 5, none⟩ = some (.slice i5 l5 y5') := (cell_same HF9.out.blw HF.out.blw hgw).trans d5
                    have fb6 : w9.cell? ⟨g, off + i * 8 + 6, none⟩ = some (.slice i6 l6 y6') := (cell_same HF9.out.blw HF.out.blw hgw).trans d6
                    have fb7 : w9.cell? ⟨g, off + i * 8 + 7, none⟩ = some (.slice i7 l7 y7) := (cell_same HF9.out.blw HF.out.blw hgw).trans d7
                    have x9 : w9.cell? ⟨w.heap.size + 1 + 1, 6, none⟩ = some v := HF9.out.x.cell 6
                    have xz9 := HF9.out.x.z 6
                    have HO9 := Hid.mk (And.intro ho (And.intro hg hat))
                    clear ho hg hat hlt9
                    refine hK.out _ _ ?_ (fun hHeld => ?_)
                    · try dsimp only
                      go_keep
                    clear hK K
                    try simp only [Act.put, List.setIfInBounds_toArray, List.set_cons_zero, List.set_cons_succ]
                    refine wpAnyH_take (i := 10) (v := ?_) rfl (by kernel_rfl) (by kernel_rfl) (by kernel_rfl) (fun _ _ _ h => h) (Or.inl ⟨by rfl, ?_⟩) (by assumption) ?_
                    rotate_left
                    · intro w' hSw
                      try dsimp only at hSw
                      go_simp
                      try with_reducible rfl
                    try simp only [Act.put, List.setIfInBounds_toArray, List.set_cons_zero, List.set_cons_succ]
                    refine wpAnyH_ready (rs := [11]) (by kernel_rfl) (by simp) ?_
                    refine AllReadyH.cons rfl (fun K hK => ?_) ?_
                    · go_simp
                      refine hK.out _ _ ?_ (fun hHeld => ?_)
                      · try dsimp only
                        exact ⟨((HF9.out.store 6 _).b.cell 6).trans Q.out.2.2.1, (cell_same (HF9.out.store 6 _).blw HF.out.blw hgw).trans d0, (cell_same (HF9.out.store 6 _).blw HF.out.blw hgw).trans d1, (cell_same (HF9.out.store 6 _).blw HF.out.blw hgw).trans d2, (cell_same (HF9.out.store 6 _).blw HF.out.blw hgw).trans d3, (cell_same (HF9.out.store 6 _).blw HF.out.blw hgw).trans d4, (cell_same (HF9.out.store 6 _).blw HF.out.blw hgw).trans d5, (cell_same (HF9.out.store 6 _).blw HF.out.blw hgw).trans d6, (cell_same (HF9.out.store 6 _).blw HF.out.blw hgw).trans d7⟩
                      clear hK K
                      try simp only [Act.put, List.setIfInBounds_toArray, List.set_cons_zero, List.set_cons_succ]
                      refine wpAnyH_done (by kernel_rfl) ?_ _
                      go_wp2
                      have ST := kid_step (X := w.heap.size + 1 + 1) (z := w.heap.size + 3) (j := 6) (u := .slice (some ⟨q9, 0, none⟩) (i + 1) cap9) (cap := cap9) (by omega) HF.out.drew.size HB8.out (Joins.below_alloc1 w8 _) HO9.out.2.1 HO9.out.2.2 (own_blw OK.out HDR.out) (isEs_keeps (inz_below HDR.out) _ _ IK.out) HI8.out
                      rw [← HTK.out] at ST
                      have KD : Keeps (inz (w.heap.size + 3) wr v) (inz (w.heap.size + 3) (w9.setCell ⟨w.heap.size + 1 + 1, 6, none⟩ (.slice (some ⟨q9, 0, none⟩) (i + 1) cap9)) (.slice (some ⟨q9, 0, none⟩) (i + 1) cap9)) wr _ := keeps_trans (inz_below HDR.out) ST.2
                      exact ⟨⟨i + 1, .slice (some ⟨q9, 0, none⟩) (i + 1) cap9, xk' ++ [.int .i64 k2, .int .i64 xa2, .string xs2, .int .i64 xm2, .slice j4 p4 q4, .slice j5 p5 q5, .slice j6 p6 q6, .slice j7 p7 q7], by go_num, by omega, ⟨HF9.out.store 6 _⟩, ⟨own_set HO9.out.1 6 _⟩, ⟨ST.1⟩, ⟨I4.out.keeps KD⟩, ⟨⟨I5.out.1.keeps KD, isBs_keeps KD _ _ I5.out.2⟩⟩⟩, by simp [intOf]; omega⟩
                    exact AllReadyH.nil
                  exact AllReadyH.nil
                exact AllReadyH.nil
              exact AllReadyH.nil
            exact AllReadyH.nil
          · obtain rfl : n6 = i := by omega
            have hh : ks.take n6 = ks := List.take_of_length_le (by rw [HN.out.2.2.1]; exact Nat.le_refl _)
            have IK0 := IK.out
            rw [hh] at IK0
            have J4 := Hid.mk (I4.out.keeps inz_nil)
            have J5 := Hid.mk (And.intro (I5.out.1.keeps inz_nil) (isBs_keeps inz_nil _ _ I5.out.2))
            have J6 := Hid.mk (And.intro (rowz_nil OK.out b6.2) (isEs_keeps inz_nil _ _ IK0))
            clear hh IK0 I4 I5 IK OK hlt hi b6
            generalize v = v6 at *
            obtain ⟨i92, ih92, kz0, kz1, kz2⟩ := info_parts info92
            go_wp2
            obtain ⟨wq, hwq⟩ : ∃ x, x = wr := ⟨_, rfl⟩
            rw [← hwq] at HF J4 J5 J6 y6
            go_loopw [6] (fun c wr => ∃ (i : Nat) (v : Value) (xa' : List Value), c = .int .i64 i ∧ i ≤ n7 ∧ Hid (Xs w wr cB #[.int .i64 k, .int .i64 a, .string s2, .int .i64 m, v4, .slice j5 n5 q5, v6, v]) ∧ Hid (wr.ownsRow (w.heap.size + 3) 92 13 v i xa') ∧ Hid (isAs wr (inz (w.heap.size + 3) wr v) (turnAs (al.take i)) xa') ∧ Hid (IsRow wr (inz (w.heap.size + 3) wr v) (atmC (ts.map turnT)) n4 v4) ∧ Hid (IsRow wr (inz (w.heap.size + 3) wr v) xb' n5 (.slice j5 n5 q5) ∧ isBs wr (inz (w.heap.size + 3) wr v) (turnBs bs) xb') ∧ Hid (IsRow wr (inz (w.heap.size + 3) wr v) xk' n6 v6 ∧ isEs wr (inz (w.heap.size + 3) wr v) (turnEs ks) xk')) (fun c _ => n7 - (intOf c).toNat)
            case atStart => exact ⟨0, .slice none 0 0, [], rfl, Nat.zero_le _, by rw [← hwq]; exact HF, ⟨World.ownsRow_nil _ _ _ _⟩, ⟨by rw [List.take_zero]; simp only [turnAs, isAs]⟩, by rw [← hwq]; exact J4, by rw [← hwq]; exact J5, by rw [← hwq]; exact J6⟩
            case round =>
              clear HF J4 J5 J6 y6 hwq
              obtain ⟨i, v, xa', rfl, hi, HF, OA, IA, I4, I5, I6⟩ := hrel
              have y7 : wr.cell? ⟨w.heap.size, 7, none⟩ = some (.slice h7 n7 z7) := (HF.out.b.cell 7).trans Q.out.2.2.2
              by_cases hlt : i < n7
              · have kl : i < al.length := by rw [HN.out.2.2.2]; exact hlt
                obtain ⟨_, _, e, _, hx⟩ := HALL.out.2.2.2.2.2.1
                simp only [Value.slice.injEq] at e
                obtain ⟨rfl, _, rfl⟩ := e
                obtain ⟨g, off, rfl, hgw, hx⟩ := hx (by omega)
                obtain ⟨dd, hd, hgd⟩ := isAs_get al xa HALL.out.2.2.2.2.2.2 i kl
                have hm := List.getElem_mem kl
                have hwa := wtAs_get al _ hm
                have hbd := HIH.out.2.2 _ hm
                have HTK0 := turnAs_take al i kl
                generalize al[i]'kl = alt at *
                obtain ⟨ak, aa, anm, am, vs, y, hA, zA, k1, xa1, xm, xs, r4, r5, r6, r7, o4, o5, o6, o7, t4, t5, t6, t7, rfl, rfl, RA, IE⟩ := isA_opened hd
                have bl : ∀ (j : Nat) (u : Value), [.int .i64 ak, .int .i64 aa, .string (str anm), .int .i64 am, .slice hA vs.length zA, .int .i64 k1, .int .i64 xa1, .string xs, .int .i64 xm, .slice r4 o4 t4, .slice r5 o5 t5, .slice r6 o6 t6, .slice r7 o7 t7][j]? = some u → wr.cell? ⟨g, off + i * 13 + j, none⟩ = some u := fun j u hj => by
                  have h0 := hx _ _ (hgd j u hj)
                  rw [← Nat.add_assoc] at h0
                  exact (HF.out.blw.cell (World.block_lt_of_cell? _ _ h0)).trans h0
                have c0 := bl 0 _ rfl
                have c1 := bl 1 _ rfl
                have c2 := bl 2 _ rfl
                have c3 := bl 3 _ rfl
                have c4 := bl 4 _ rfl
                have c5 := bl 5 _ rfl
                have c6 := bl 6 _ rfl
                have c7 := bl 7 _ rfl
                have c8 := bl 8 _ rfl
                have c9 := bl 9 _ rfl
                have c10 := bl 10 _ rfl
                have c11 := bl 11 _ rfl
                have c12 := bl 12 _ rfl
                rw [Nat.add_zero] at c0
                simp only [wtA] at hwa
                have hwt := HW.out
                have HTE := Hid.mk (show TE y from hbd)
                have HAL := Hid.mk (fun (W : World) (R : IsRow W (all W) (strC vs) vs.length (.slice hA vs.length zA)) => turnall_any vs _ R (fun s hs => by have := wtN_mem hs; omega))
                have hla := RA.choose_spec.choose_spec.2.1.2
                have HRA := Hid.mk (And.intro RA IE)
                have hlt' : (i : Int) < n7 := by omega
                have hzz := HF.out.size
                have HM : Hid (i + 1 ≤ maxLen ∧ (i + 1) * 200 ≤ 140737488355328) := ⟨by unfold maxLen; omega, by omega⟩
                obtain ⟨s3, hs3⟩ : ∃ s, s = str (if ak = 3 then turn anm else anm) := ⟨_, rfl⟩
                have HS3 := Hid.mk hs3
                have HTK : Hid (turnAs (al.take (i + 1)) = turnAs (al.take i) ++ [.mk ak aa (if ak = 3 then turn anm else anm) am (vs.map turn) (turnE y)]) := ⟨by rw [HTK0]; rfl⟩
                have TC := turned_any anm (by omega) (wr.alloc (.cells #[.int .i64 ak, .int .i64 aa, .string (str anm), .int .i64 am, .slice hA vs.length zA, .int .i64 k1, .int .i64 xa1, .string xs, .int .i64 xm, .slice r4 o4 t4, .slice r5 o5 t5, .slice r6 o6 t6, .slice r7 o7 t7] 92))
                generalize hnA : vs.length = nA at *
                have HNA := Hid.mk hnA
                have XW : Bx (wr.alloc (.cells #[.int .i64 ak, .int .i64 aa, .string (str anm), .int .i64 am, .slice hA nA zA, .int .i64 k1, .int .i64 xa1, .string xs, .int .i64 xm, .slice r4 o4 t4, .slice r5 o5 t5, .slice r6 o6 t6, .slice r7 o7 t7] 92)) wr.heap.size #[.int .i64 ak, .int .i64 aa, .string (str anm), .int .i64 am, .slice hA nA zA, .int .i64 k1, .int .i64 xa1, .string xs, .int .i64 xm, .slice r4 o4 t4, .slice r5 o5 t5, .slice r6 o6 t6, .slice r7 o7 t7] 92 := heap_alloc_new wr _
                have yy0 := XW.cell 0
                have yy2 := XW.cell 2
                have xx2 := XW.z 2
                have X1 : Bx (wr.alloc (.cells #[.int .i64 ak, .int .i64 aa, .string s3, .int .i64 am, .slice hA nA zA, .int .i64 k1, .int .i64 xa1, .string xs, .int .i64 xm, .slice r4 o4 t4, .slice r5 o5 t5, .slice r6 o6 t6, .slice r7 o7 t7] 92)) wr.heap.size #[.int .i64 ak, .int .i64 aa, .string s3, .int .i64 am, .slice hA nA zA, .int .i64 k1, .int .i64 xa1, .string xs, .int .i64 xm, .slice r4 o4 t4, .slice r5 o5 t5, .slice r6 o6 t6, .slice r7 o7 t7] 92 := heap_alloc_new wr _
                have yy4 := X1.cell 4
                have xx4 := X1.z 4
                have yy0' := X1.cell 0
                have HX1 := Hid.mk X1
                have HB1 := Hid.mk (Joins.below_alloc1 wr (.cells #[.int .i64 ak, .int .i64 aa, .string s3, .int .i64 am, .slice hA nA zA, .int .i64 k1, .int .i64 xa1, .string xs, .int .i64 xm, .slice r4 o4 t4, .slice r5 o5 t5, .slice r6 o6 t6, .slice r7 o7 t7] 92))
                have HF1 := Hid.mk (HF.out.alloc (.cells #[.int .i64 ak, .int .i64 aa, .string s3, .int .i64 am, .slice hA nA zA, .int .i64 k1, .int .i64 xa1, .string xs, .int .i64 xm, .slice r4 o4 t4, .slice r5 o5 t5, .slice r6 o6 t6, .slice r7 o7 t7] 92))
                have C28 := HAL.out _ (HRA.out.1.keeps (keeps_all (blw_below HF.out.blw HB1.out)))
                clear hx hd hgd bl hm hwa hbd HTK0 RA IE hnA XW X1 HAL
                by_cases hk3 : ak = 3
                · have q3 : (ak == 3) = true := beq_iff_eq.2 hk3
                  rw [if_pos hk3] at hs3
                  rw [← hs3] at TC
                  clear hs3 hk3
                  go_wp2_with (first
                    | (at_builtin; (refine wpList_append_G rfl (.tmp 95) (.tmp 97) 43 rfl (w.heap.size + 3) 92 i92 _ 13 200 Tryd.underlying43 ih92 kz0 kz1 kz2 rfl (by decide) v i xa' rfl (own_blw OA.out HB5.out) ⟨w5.heap.size, 0, none⟩ 1 [.int .i64 ak, .int .i64 aa, .string s3, .int .i64 am, .slice gA nA cA, .int .i64 k2, .int .i64 xa2, .string xs2, .int .i64 xm2, .slice u4 p4 w4', .slice u5 p5 w5', .slice u6 p6 w6', .slice u7 p7 w7'] rfl rfl (World.news_of_block (heap_alloc_new _ _)) (by simp [Value.oneCell']) HM.out.1 HM.out.2 HZ5.out ?_); intro q9 cap9 w6 O6 G6 A6; have H6 := Hid.mk (And.intro O6 (And.intro G6 A6)); have HF6 := Hid.mk ((HF5.out.alloc (.cells #[.int .i64 ak, .int .i64 aa, .string s3, .int .i64 am, .slice gA nA cA, .int .i64 k2, .int .i64 xa2, .string xs2, .int .i64 xm2, .slice u4 p4 w4', .slice u5 p5 w5', .slice u6 p6 w6', .slice u7 p7 w7'] 92)).grown G6 (fun j e => (OA.out.lt j e).1)); have xx7 := HF6.out.x.cell 7; have xxz7 := HF6.out.x.z 7; clear O6 G6 A6)
                    | (refine wpList_load_row rfl 92 _ rfl wr.heap.size rfl 92 _ (0, 0) _ HX5.out Tryd.underlying92 rfl size92b ?_)
                    | ((refine wpList_store_mid rfl 45 _ _ rfl wr.heap.size 5 #[.int .i64 k2, .int .i64 xa2, .string xs2, .int .i64 xm2, .slice u4 p4 w4', .slice u5 p5 w5', .slice u6 p6 w6', .slice u7 p7 w7'] rfl rfl (HX4.out.there 5 8 (Nat.le_refl 13)) size45b (by simp [Value.oneCell']) ?_); have HX5 := Hid.mk (HX4.out.mid13 (.int .i64 k2) (.int .i64 xa2) (.string xs2) (.int .i64 xm2) (.slice u4 p4 w4') (.slice u5 p5 w5') (.slice u6 p6 w6') (.slice u7 p7 w7')); have HG5 := Hid.mk (grown_setCells w4 wr.heap.size 5 [.int .i64 k2, .int .i64 xa2, .string xs2, .int .i64 xm2, .slice u4 p4 w4', .slice u5 p5 w5', .slice u6 p6 w6', .slice u7 p7 w7']); have e5 : (#[.int .i64 k2, .int .i64 xa2, .string xs2, .int .i64 xm2, .slice u4 p4 w4', .slice u5 p5 w5', .slice u6 p6 w6', .slice u7 p7 w7'] : Array Value).toList = [.int .i64 k2, .int .i64 xa2, .string xs2, .int .i64 xm2, .slice u4 p4 w4', .slice u5 p5 w5', .slice u6 p6 w6', .slice u7 p7 w7'] := rfl; rw [e5]; clear e5; have HF5 := Hid.mk (HF4.out.grown HG5.out (fun i e => by cases e; exact hzz)); generalize (w4.setCells wr.heap.size 5 [.int .i64 k2, .int .i64 xa2, .string xs2, .int .i64 xm2, .slice u4 p4 w4', .slice u5 p5 w5', .slice u6 p6 w6', .slice u7 p7 w7']) = w5 at HX5 HG5 HF5 ⊢; have HB5 := Hid.mk (blw_below (blw_grown HB4.out HG5.out (fun i e => by cases e; exact Nat.le_refl _)) (Joins.below_alloc1 w5 (.cells #[.int .i64 ak, .int .i64 aa, .string s3, .int .i64 am, .slice gA nA cA, .int .i64 k2, .int .i64 xa2, .string xs2, .int .i64 xm2, .slice u4 p4 w4', .slice u5 p5 w5', .slice u6 p6 w6', .slice u7 p7 w7'] 92))); have HU5 := Hid.mk (And.intro ((HU3.out.grown HG5.out (fun i e => by cases e; exact Nat.lt_succ_self _)).alloc (.cells #[.int .i64 ak, .int .i64 aa, .string s3, .int .i64 am, .slice gA nA cA, .int .i64 k2, .int .i64 xa2, .string xs2, .int .i64 xm2, .slice u4 p4 w4', .slice u5 p5 w5', .slice u6 p6 w6', .slice u7 p7 w7'] 92)) (((Up.refl (wr.heap.size + 1) w4).grown HG5.out (fun i e => by cases e; exact Nat.lt_succ_self _)).alloc (.cells #[.int .i64 ak, .int .i64 aa, .string s3, .int .i64 am, .slice gA nA cA, .int .i64 k2, .int .i64 xa2, .string xs2, .int .i64 xm2, .slice u4 p4 w4', .slice u5 p5 w5', .slice u6 p6 w6', .slice u7 p7 w7'] 92))); have HZ5 := Hid.mk (Nat.le_trans hzz HB5.out.size); have x75 := HF5.out.x.cell 7)
                    | (go_at_call 27; refine TC.mono ?_; rintro e w9 ⟨rfl, h9⟩; obtain rfl := h9.symm; clear TC)
                    | (go_at_call 29; refine C29.mono ?_; rintro e w4 ⟨B4, c', rfl, I4'⟩; obtain ⟨k2, xa2, xm2, xs2, u4, u5, u6, u7, p4, p5, p6, p7, w4', w5', w6', w7', rfl⟩ := isE_eight I4'; have HX4 := Hid.mk (HX3.out.later B4); have HB4 := Hid.mk (blw_below HB3.out B4); have HF4 := Hid.mk (HF3.out.below B4); have HU3 := Hid.mk ((((Up.refl (wr.heap.size + 1) _).set (Nat.lt_succ_self _) 4 (.slice gA nA cA)).below B4)); have HI4 := Hid.mk I4'; clear B4 I4' C29 rr5 rr6 rr7 rr8 rr9 rr10 rr11 rr12 x2' y2')
                    | (go_at_call 28; refine C28.mono ?_; rintro e w3 ⟨v3, rfl, B3, N3⟩; obtain ⟨gA, cA, e3⟩ := N3.slice; rw [List.length_map, HNA.out] at e3; subst e3; have X3 := HX1.out.later B3; have x2' := X3.z 4; have y2' := X3.cell 4; have X3p := X3.store 4 (.slice gA nA cA); have rr5 : (w3.setCell ⟨wr.heap.size, 4, none⟩ (.slice gA nA cA)).cell? ⟨wr.heap.size, 5, none⟩ = some (.int .i64 k1) := X3p.cell 5; have rr6 : (w3.setCell ⟨wr.heap.size, 4, none⟩ (.slice gA nA cA)).cell? ⟨wr.heap.size, 6, none⟩ = some (.int .i64 xa1) := X3p.cell 6; have rr7 : (w3.setCell ⟨wr.heap.size, 4, none⟩ (.slice gA nA cA)).cell? ⟨wr.heap.size, 7, none⟩ = some (.string xs) := X3p.cell 7; have rr8 : (w3.setCell ⟨wr.heap.size, 4, none⟩ (.slice gA nA cA)).cell? ⟨wr.heap.size, 8, none⟩ = some (.int .i64 xm) := X3p.cell 8; have rr9 : (w3.setCell ⟨wr.heap.size, 4, none⟩ (.slice gA nA cA)).cell? ⟨wr.heap.size, 9, none⟩ = some (.slice r4 o4 t4) := X3p.cell 9; have rr10 : (w3.setCell ⟨wr.heap.size, 4, none⟩ (.slice gA nA cA)).cell? ⟨wr.heap.size, 10, none⟩ = some (.slice r5 o5 t5) := X3p.cell 10; have rr11 : (w3.setCell ⟨wr.heap.size, 4, none⟩ (.slice gA nA cA)).cell? ⟨wr.heap.size, 11, none⟩ = some (.slice r6 o6 t6) := X3p.cell 11; have rr12 : (w3.setCell ⟨wr.heap.size, 4, none⟩ (.slice gA nA cA)).cell? ⟨wr.heap.size, 12, none⟩ = some (.slice r7 o7 t7) := X3p.cell 12; have HX3 : Hid (Bx (w3.setCell ⟨wr.heap.size, 4, none⟩ (.slice gA nA cA)) wr.heap.size #[.int .i64 ak, .int .i64 aa, .string s3, .int .i64 am, .slice gA nA cA, .int .i64 k1, .int .i64 xa1, .string xs, .int .i64 xm, .slice r4 o4 t4, .slice r5 o5 t5, .slice r6 o6 t6, .slice r7 o7 t7] 92) := ⟨X3p⟩; have HB3 := Hid.mk (blw_set (blw_below HB1.out B3) (Nat.le_refl _) 4 (.slice gA nA cA)); have HF3 := Hid.mk ((HF1.out.below B3).grown (grown_set w3 wr.heap.size 4 (.slice gA nA cA)) (fun i e => by cases e; exact hzz)); have C29 := HTE.out _ _ (isE_keeps (keeps_all (blw_below HF.out.blw HB3.out)) _ _ HRA.out.2); have HN3 := Hid.mk N3; clear X3 X3p C28 B3 N3))
                  have hv : ∀ i, v.ownBlock = some i → i ≤ wr.heap.size := fun i e => Nat.le_of_lt (OA.out.lt i e).2
                  have K3 := keeps_inz_new (z := w.heap.size + 3) (m := i + 1) (cap := cap9) HX1.out.lt HU5.out.1 H6.out.2.1 hv H6.out.2.2 hzz
                  have K4 := keeps_inz_new (z := w.heap.size + 3) (m := i + 1) (cap := cap9) HX3.out.lt HU5.out.2 H6.out.2.1 hv H6.out.2.2 hzz
                  have K1 := keeps_inz_old (z := w.heap.size + 3) (m := i + 1) (cap := cap9) HB5.out H6.out.2.1 H6.out.2.2
                  have KS := inz_store (X := w.heap.size + 1 + 1) (z := w.heap.size + 3) (by omega) w6 (.slice (some ⟨q9, 0, none⟩) (i + 1) cap9) 7 (.slice (some ⟨q9, 0, none⟩) (i + 1) cap9)
                  have KD := keeps_trans K1 KS
                  have RN := (HN3.out.new (by rw [List.length_map, HNA.out]; exact hla)).keeps (keeps_trans K3 KS)
                  rw [List.length_map, HNA.out] at RN
                  refine ⟨⟨i + 1, .slice (some ⟨q9, 0, none⟩) (i + 1) cap9, xa' ++ [.int .i64 ak, .int .i64 aa, .string s3, .int .i64 am, .slice gA nA cA, .int .i64 k2, .int .i64 xa2, .string xs2, .int .i64 xm2, .slice u4 p4 w4', .slice u5 p5 w5', .slice u6 p6 w6', .slice u7 p7 w7'], by go_num, by omega, ⟨HF6.out.store 7 _⟩, ⟨own_set H6.out.1 7 _⟩, ⟨?_⟩, ⟨I4.out.keeps KD⟩, ⟨⟨I5.out.1.keeps KD, isBs_keeps KD _ _ I5.out.2⟩⟩, ⟨⟨I6.out.1.keeps KD, isEs_keeps KD _ _ I6.out.2⟩⟩⟩, by simp [intOf]; omega⟩
                  rw [HTK.out]
                  refine isAs_snoc _ _ _ _ (isAs_keeps KD _ _ IA.out) ?_
                  simp only [isA]
                  exact ⟨_, _, by rw [← HS3.out]; rfl, by rw [List.length_map, HNA.out]; exact RN, isE_keeps (keeps_trans K4 KS) _ _ HI4.out⟩
                · have q3 : (ak == 3) = false := beq_eq_false_iff_ne.2 hk3
                  rw [if_neg hk3] at hs3
                  rw [← hs3] at yy0 yy2 xx2 c2
                  clear hs3 hk3 TC
                  go_wp2_with (first
                    | (at_builtin; (refine wpList_append_G rfl (.tmp 95) (.tmp 97) 43 rfl (w.heap.size + 3) 92 i92 _ 13 200 Tryd.underlying43 ih92 kz0 kz1 kz2 rfl (by decide) v i xa' rfl (own_blw OA.out HB5.out) ⟨w5.heap.size, 0, none⟩ 1 [.int .i64 ak, .int .i64 aa, .string s3, .int .i64 am, .slice gA nA cA, .int .i64 k2, .int .i64 xa2, .string xs2, .int .i64 xm2, .slice u4 p4 w4', .slice u5 p5 w5', .slice u6 p6 w6', .slice u7 p7 w7'] rfl rfl (World.news_of_block (heap_alloc_new _ _)) (by simp [Value.oneCell']) HM.out.1 HM.out.2 HZ5.out ?_); intro q9 cap9 w6 O6 G6 A6; have H6 := Hid.mk (And.intro O6 (And.intro G6 A6)); have HF6 := Hid.mk ((HF5.out.alloc (.cells #[.int .i64 ak, .int .i64 aa, .string s3, .int .i64 am, .slice gA nA cA, .int .i64 k2, .int .i64 xa2, .string xs2, .int .i64 xm2, .slice u4 p4 w4', .slice u5 p5 w5', .slice u6 p6 w6', .slice u7 p7 w7'] 92)).grown G6 (fun j e => (OA.out.lt j e).1)); have xx7 := HF6.out.x.cell 7; have xxz7 := HF6.out.x.z 7; clear O6 G6 A6)
                    | (refine wpList_load_row rfl 92 _ rfl wr.heap.size rfl 92 _ (0, 0) _ HX5.out Tryd.underlying92 rfl size92b ?_)
                    | ((refine wpList_store_mid rfl 45 _ _ rfl wr.heap.size 5 #[.int .i64 k2, .int .i64 xa2, .string xs2, .int .i64 xm2, .slice u4 p4 w4', .slice u5 p5 w5', .slice u6 p6 w6', .slice u7 p7 w7'] rfl rfl (HX4.out.there 5 8 (Nat.le_refl 13)) size45b (by simp [Value.oneCell']) ?_); have HX5 := Hid.mk (HX4.out.mid13 (.int .i64 k2) (.int .i64 xa2) (.string xs2) (.int .i64 xm2) (.slice u4 p4 w4') (.slice u5 p5 w5') (.slice u6 p6 w6') (.slice u7 p7 w7')); have HG5 := Hid.mk (grown_setCells w4 wr.heap.size 5 [.int .i64 k2, .int .i64 xa2, .string xs2, .int .i64 xm2, .slice u4 p4 w4', .slice u5 p5 w5', .slice u6 p6 w6', .slice u7 p7 w7']); have e5 : (#[.int .i64 k2, .int .i64 xa2, .string xs2, .int .i64 xm2, .slice u4 p4 w4', .slice u5 p5 w5', .slice u6 p6 w6', .slice u7 p7 w7'] : Array Value).toList = [.int .i64 k2, .int .i64 xa2, .string xs2, .int .i64 xm2, .slice u4 p4 w4', .slice u5 p5 w5', .slice u6 p6 w6', .slice u7 p7 w7'] := rfl; rw [e5]; clear e5; have HF5 := Hid.mk (HF4.out.grown HG5.out (fun i e => by cases e; exact hzz)); generalize (w4.setCells wr.heap.size 5 [.int .i64 k2, .int .i64 xa2, .string xs2, .int .i64 xm2, .slice u4 p4 w4', .slice u5 p5 w5', .slice u6 p6 w6', .slice u7 p7 w7']) = w5 at HX5 HG5 HF5 ⊢; have HB5 := Hid.mk (blw_below (blw_grown HB4.out HG5.out (fun i e => by cases e; exact Nat.le_refl _)) (Joins.below_alloc1 w5 (.cells #[.int .i64 ak, .int .i64 aa, .string s3, .int .i64 am, .slice gA nA cA, .int .i64 k2, .int .i64 xa2, .string xs2, .int .i64 xm2, .slice u4 p4 w4', .slice u5 p5 w5', .slice u6 p6 w6', .slice u7 p7 w7'] 92))); have HU5 := Hid.mk (And.intro ((HU3.out.grown HG5.out (fun i e => by cases e; exact Nat.lt_succ_self _)).alloc (.cells #[.int .i64 ak, .int .i64 aa, .string s3, .int .i64 am, .slice gA nA cA, .int .i64 k2, .int .i64 xa2, .string xs2, .int .i64 xm2, .slice u4 p4 w4', .slice u5 p5 w5', .slice u6 p6 w6', .slice u7 p7 w7'] 92)) (((Up.refl (wr.heap.size + 1) w4).grown HG5.out (fun i e => by cases e; exact Nat.lt_succ_self _)).alloc (.cells #[.int .i64 ak, .int .i64 aa, .string s3, .int .i64 am, .slice gA nA cA, .int .i64 k2, .int .i64 xa2, .string xs2, .int .i64 xm2, .slice u4 p4 w4', .slice u5 p5 w5', .slice u6 p6 w6', .slice u7 p7 w7'] 92))); have HZ5 := Hid.mk (Nat.le_trans hzz HB5.out.size); have x75 := HF5.out.x.cell 7)
                    | (go_at_call 29; refine C29.mono ?_; rintro e w4 ⟨B4, c', rfl, I4'⟩; obtain ⟨k2, xa2, xm2, xs2, u4, u5, u6, u7, p4, p5, p6, p7, w4', w5', w6', w7', rfl⟩ := isE_eight I4'; have HX4 := Hid.mk (HX3.out.later B4); have HB4 := Hid.mk (blw_below HB3.out B4); have HF4 := Hid.mk (HF3.out.below B4); have HU3 := Hid.mk ((((Up.refl (wr.heap.size + 1) _).set (Nat.lt_succ_self _) 4 (.slice gA nA cA)).below B4)); have HI4 := Hid.mk I4'; clear B4 I4' C29 rr5 rr6 rr7 rr8 rr9 rr10 rr11 rr12 x2' y2')
                    | (go_at_call 28; refine C28.mono ?_; rintro e w3 ⟨v3, rfl, B3, N3⟩; obtain ⟨gA, cA, e3⟩ := N3.slice; rw [List.length_map, HNA.out] at e3; subst e3; have X3 := HX1.out.later B3; have x2' := X3.z 4; have y2' := X3.cell 4; have X3p := X3.store 4 (.slice gA nA cA); have rr5 : (w3.setCell ⟨wr.heap.size, 4, none⟩ (.slice gA nA cA)).cell? ⟨wr.heap.size, 5, none⟩ = some (.int .i64 k1) := X3p.cell 5; have rr6 : (w3.setCell ⟨wr.heap.size, 4, none⟩ (.slice gA nA cA)).cell? ⟨wr.heap.size, 6, none⟩ = some (.int .i64 xa1) := X3p.cell 6; have rr7 : (w3.setCell ⟨wr.heap.size, 4, none⟩ (.slice gA nA cA)).cell? ⟨wr.heap.size, 7, none⟩ = some (.string xs) := X3p.cell 7; have rr8 : (w3.setCell ⟨wr.heap.size, 4, none⟩ (.slice gA nA cA)).cell? ⟨wr.heap.size, 8, none⟩ = some (.int .i64 xm) := X3p.cell 8; have rr9 : (w3.setCell ⟨wr.heap.size, 4, none⟩ (.slice gA nA cA)).cell? ⟨wr.heap.size, 9, none⟩ = some (.slice r4 o4 t4) := X3p.cell 9; have rr10 : (w3.setCell ⟨wr.heap.size, 4, none⟩ (.slice gA nA cA)).cell? ⟨wr.heap.size, 10, none⟩ = some (.slice r5 o5 t5) := X3p.cell 10; have rr11 : (w3.setCell ⟨wr.heap.size, 4, none⟩ (.slice gA nA cA)).cell? ⟨wr.heap.size, 11, none⟩ = some (.slice r6 o6 t6) := X3p.cell 11; have rr12 : (w3.setCell ⟨wr.heap.size, 4, none⟩ (.slice gA nA cA)).cell? ⟨wr.heap.size, 12, none⟩ = some (.slice r7 o7 t7) := X3p.cell 12; have HX3 : Hid (Bx (w3.setCell ⟨wr.heap.size, 4, none⟩ (.slice gA nA cA)) wr.heap.size #[.int .i64 ak, .int .i64 aa, .string s3, .int .i64 am, .slice gA nA cA, .int .i64 k1, .int .i64 xa1, .string xs, .int .i64 xm, .slice r4 o4 t4, .slice r5 o5 t5, .slice r6 o6 t6, .slice r7 o7 t7] 92) := ⟨X3p⟩; have HB3 := Hid.mk (blw_set (blw_below HB1.out B3) (Nat.le_refl _) 4 (.slice gA nA cA)); have HF3 := Hid.mk ((HF1.out.below B3).grown (grown_set w3 wr.heap.size 4 (.slice gA nA cA)) (fun i e => by cases e; exact hzz)); have C29 := HTE.out _ _ (isE_keeps (keeps_all (blw_below HF.out.blw HB3.out)) _ _ HRA.out.2); have HN3 := Hid.mk N3; clear X3 X3p C28 B3 N3))
                  have hv : ∀ i, v.ownBlock = some i → i ≤ wr.heap.size := fun i e => Nat.le_of_lt (OA.out.lt i e).2
                  have K3 := keeps_inz_new (z := w.heap.size + 3) (m := i + 1) (cap := cap9) HX1.out.lt HU5.out.1 H6.out.2.1 hv H6.out.2.2 hzz
                  have K4 := keeps_inz_new (z := w.heap.size + 3) (m := i + 1) (cap := cap9) HX3.out.lt HU5.out.2 H6.out.2.1 hv H6.out.2.2 hzz
                  have K1 := keeps_inz_old (z := w.heap.size + 3) (m := i + 1) (cap := cap9) HB5.out H6.out.2.1 H6.out.2.2
                  have KS := inz_store (X := w.heap.size + 1 + 1) (z := w.heap.size + 3) (by omega) w6 (.slice (some ⟨q9, 0, none⟩) (i + 1) cap9) 7 (.slice (some ⟨q9, 0, none⟩) (i + 1) cap9)
                  have KD := keeps_trans K1 KS
                  have RN := (HN3.out.new (by rw [List.length_map, HNA.out]; exact hla)).keeps (keeps_trans K3 KS)
                  rw [List.length_map, HNA.out] at RN
                  refine ⟨⟨i + 1, .slice (some ⟨q9, 0, none⟩) (i + 1) cap9, xa' ++ [.int .i64 ak, .int .i64 aa, .string s3, .int .i64 am, .slice gA nA cA, .int .i64 k2, .int .i64 xa2, .string xs2, .int .i64 xm2, .slice u4 p4 w4', .slice u5 p5 w5', .slice u6 p6 w6', .slice u7 p7 w7'], by go_num, by omega, ⟨HF6.out.store 7 _⟩, ⟨own_set H6.out.1 7 _⟩, ⟨?_⟩, ⟨I4.out.keeps KD⟩, ⟨⟨I5.out.1.keeps KD, isBs_keeps KD _ _ I5.out.2⟩⟩, ⟨⟨I6.out.1.keeps KD, isEs_keeps KD _ _ I6.out.2⟩⟩⟩, by simp [intOf]; omega⟩
                  rw [HTK.out]
                  refine isAs_snoc _ _ _ _ (isAs_keeps KD _ _ IA.out) ?_
                  simp only [isA]
                  exact ⟨_, _, by rw [← HS3.out]; rfl, by rw [List.length_map, HNA.out]; exact RN, isE_keeps (keeps_trans K4 KS) _ _ HI4.out⟩
              · obtain rfl : n7 = i := by omega
                have hh : al.take n7 = al := List.take_of_length_le (by rw [HN.out.2.2.2]; exact Nat.le_refl _)
                have IA0 := IA.out
                rw [hh] at IA0
                have R7' := rowz_nil OA.out b7.2
                have HR7 := Hid.mk (And.intro R7' (isAs_keeps inz_nil _ _ IA0))
                have HR4 := Hid.mk (I4.out.keeps inz_nil)
                have HR5 := Hid.mk (And.intro (I5.out.1.keeps inz_nil) (isBs_keeps inz_nil _ _ I5.out.2))
                have HR6 := Hid.mk (And.intro (I6.out.1.keeps inz_nil) (isEs_keeps inz_nil _ _ I6.out.2))
                obtain ⟨a7, d7', rfl, -, -⟩ := id R7'
                obtain ⟨a6, d6', rfl, -, -⟩ := id I6.out.1
                obtain ⟨a4, d4', rfl, -, -⟩ := id I4.out
                have HFF := Hid.mk HF.out
                clear hh IA0 R7' IA I4 I5 I6 OA hi hlt
                have xq0 := HFF.out.x.cell 0
                have zc0 := HFF.out.m.cell 0
                have zz0 := HFF.out.m.z 0
                have xq1 := HFF.out.x.cell 1
                have zc1 := HFF.out.m.cell 1
                have zz1 := HFF.out.m.z 1
                have xq2 := HFF.out.x.cell 2
                have zc2 := HFF.out.m.cell 2
                have zz2 := HFF.out.m.z 2
                have xq3 := HFF.out.x.cell 3
                have zc3 := HFF.out.m.cell 3
                have zz3 := HFF.out.m.z 3
                have xq4 := HFF.out.x.cell 4
                have zc4 := HFF.out.m.cell 4
                have zz4 := HFF.out.m.z 4
                have xq5 := HFF.out.x.cell 5
                have zc5 := HFF.out.m.cell 5
                have zz5 := HFF.out.m.z 5
                have xq6 := HFF.out.x.cell 6
                have zc6 := HFF.out.m.cell 6
                have zz6 := HFF.out.m.z 6
                have xq7 := HFF.out.x.cell 7
                have zc7 := HFF.out.m.cell 7
                have zz7 := HFF.out.m.z 7
                go_wp2
                have HXM : Hid (Bx ((((((((wr.setCell ⟨w.heap.size + 1, 0, none⟩ (.int .i64 k)).setCell ⟨w.heap.size + 1, 1, none⟩ (.int .i64 a)).setCell ⟨w.heap.size + 1, 2, none⟩ (.string s2)).setCell ⟨w.heap.size + 1, 3, none⟩ (.int .i64 m)).setCell ⟨w.heap.size + 1, 4, none⟩ (.slice a4 n4 d4')).setCell ⟨w.heap.size + 1, 5, none⟩ (.slice j5 n5 q5)).setCell ⟨w.heap.size + 1, 6, none⟩ (.slice a6 n6 d6')).setCell ⟨w.heap.size + 1, 7, none⟩ (.slice a7 n7 d7')) (w.heap.size + 1) #[.int .i64 k, .int .i64 a, .string s2, .int .i64 m, .slice a4 n4 d4', .slice j5 n5 q5, .slice a6 n6 d6', .slice a7 n7 d7'] 45) := ⟨HFF.out.m.store8 (.int .i64 k) (.int .i64 a) (.string s2) (.int .i64 m) (.slice a4 n4 d4') (.slice j5 n5 q5) (.slice a6 n6 d6') (.slice a7 n7 d7')⟩
                have HG : Hid (wr.grownBy ((((((((wr.setCell ⟨w.heap.size + 1, 0, none⟩ (.int .i64 k)).setCell ⟨w.heap.size + 1, 1, none⟩ (.int .i64 a)).setCell ⟨w.heap.size + 1, 2, none⟩ (.string s2)).setCell ⟨w.heap.size + 1, 3, none⟩ (.int .i64 m)).setCell ⟨w.heap.size + 1, 4, none⟩ (.slice a4 n4 d4')).setCell ⟨w.heap.size + 1, 5, none⟩ (.slice j5 n5 q5)).setCell ⟨w.heap.size + 1, 6, none⟩ (.slice a6 n6 d6')).setCell ⟨w.heap.size + 1, 7, none⟩ (.slice a7 n7 d7')) (some (w.heap.size + 1))) := ⟨grown_setCells wr (w.heap.size + 1) 0 [.int .i64 k, .int .i64 a, .string s2, .int .i64 m, .slice a4 n4 d4', .slice j5 n5 q5, .slice a6 n6 d6', .slice a7 n7 d7']⟩
                generalize ((((((((wr.setCell ⟨w.heap.size + 1, 0, none⟩ (.int .i64 k)).setCell ⟨w.heap.size + 1, 1, none⟩ (.int .i64 a)).setCell ⟨w.heap.size + 1, 2, none⟩ (.string s2)).setCell ⟨w.heap.size + 1, 3, none⟩ (.int .i64 m)).setCell ⟨w.heap.size + 1, 4, none⟩ (.slice a4 n4 d4')).setCell ⟨w.heap.size + 1, 5, none⟩ (.slice j5 n5 q5)).setCell ⟨w.heap.size + 1, 6, none⟩ (.slice a6 n6 d6')).setCell ⟨w.heap.size + 1, 7, none⟩ (.slice a7 n7 d7')) = wz at HXM HG ⊢
                ((try simp only [Exit.inBlock, Exit.then]); refine bodyPost_ret (results_cell_row Tryd.results29 _ _ (w.heap.size + 1) 45 #[.int .i64 k, .int .i64 a, .string s2, .int .i64 m, .slice a4 n4 d4', .slice j5 n5 q5, .slice a6 n6 d6', .slice a7 n7 d7'] (0, 0) _ rfl HXM.out Tryd.underlying45 rfl size45b) rfl ?_)
                have KW := keeps_end (w := w) HG.out
                exact ⟨blw_grown HFF.out.blw HG.out (fun i e => by cases e; omega), _, _, _, _, xb', xk', xa', rfl, HR4.out.keeps KW, HR5.out.1.keeps KW, isBs_keeps KW _ _ HR5.out.2, HR6.out.1.keeps KW, isEs_keeps KW _ _ HR6.out.2, HR7.out.1.keeps KW, isAs_keeps KW _ _ HR7.out.2⟩
  · rw [if_neg hk] at hs2
    obtain rfl : s2 = sB := hs2.trans hsB.symm
    have hkb : (k == 1) = false := beq_eq_false_iff_ne.2 hk
    clear hs2 hsB hk TC
    go_wp2
    have FX := Xs.start w #[.int .i64 k, .int .i64 a, .string s2, .int .i64 m, .slice h4 n4 z4, .slice h5 n5 z5, .slice h6 n6 z6, .slice h7 n7 z7] #[.int .i64 k, .int .i64 a, .string s2, .int .i64 m, .slice none 0 0, .slice h5 n5 z5, .slice none 0 0, .slice none 0 0]
    generalize (((w.alloc (.cells #[.int .i64 k, .int .i64 a, .string s2, .int .i64 m, .slice h4 n4 z4, .slice h5 n5 z5, .slice h6 n6 z6, .slice h7 n7 z7] 45)).alloc (.cells #[.int .i64 0, .int .i64 0, .string ⟨#[]⟩, .int .i64 0, .slice none 0 0, .slice none 0 0, .slice none 0 0, .slice none 0 0] 45)).alloc (.cells #[.int .i64 k, .int .i64 a, .string s2, .int .i64 m, .slice none 0 0, .slice h5 n5 z5, .slice none 0 0, .slice none 0 0] 45)) = W0 at FX ⊢
    obtain ⟨cB, Q, FX⟩ : ∃ cB : Array Value, Hid (cB[4]? = some (.slice h4 n4 z4) ∧ cB[5]? = some (.slice h5 n5 z5) ∧ cB[6]? = some (.slice h6 n6 z6) ∧ cB[7]? = some (.slice h7 n7 z7)) ∧ Xs w W0 cB #[.int .i64 k, .int .i64 a, .string s2, .int .i64 m, .slice none 0 0, .slice h5 n5 z5, .slice none 0 0, .slice none 0 0] := ⟨_, ⟨rfl, rfl, rfl, rfl⟩, FX⟩
    clear hkb
    have HFX := Hid.mk FX
    clear FX
    obtain ⟨i40, ih40, iz0, iz1, iz2⟩ := info_parts info40
    go_loopw [4] (fun c wr => ∃ (i : Nat) (v : Value), c = .int .i64 i ∧ i ≤ n4 ∧ Hid (Xs w wr cB #[.int .i64 k, .int .i64 a, .string s2, .int .i64 m, v, .slice h5 n5 z5, .slice none 0 0, .slice none 0 0]) ∧ Hid (wr.ownsRow (w.heap.size + 3) 40 2 v i (atmC ((ts.take i).map turnT)))) (fun c _ => n4 - (intOf c).toNat)
    case atStart => exact ⟨0, .slice none 0 0, rfl, Nat.zero_le _, HFX, ⟨by rw [List.take_zero]; exact World.ownsRow_nil _ _ _ _⟩⟩
    case round =>
      clear HFX
      obtain ⟨i, v, rfl, hi, HF, OW⟩ := hrel
      have y4 : wr.cell? ⟨w.heap.size, 4, none⟩ = some (.slice h4 n4 z4) := (HF.out.b.cell 4).trans Q.out.1
      by_cases hlt : i < n4
      · have kl : i < ts.length := by rw [HN.out.1]; exact hlt
        obtain ⟨_, _, e, _, hx⟩ := HALL.out.1
        simp only [Value.slice.injEq] at e
        obtain ⟨rfl, _, rfl⟩ := e
        obtain ⟨g, off, rfl, _, hx⟩ := hx (by omega)
        have bl : ∀ (j : Nat) (u : Value), (atmC ts)[j]? = some u → wr.cell? ⟨g, off + j, none⟩ = some u := fun j u hj => (HF.out.blw.cell (World.block_lt_of_cell? _ _ (hx j u hj))).trans (hx j u hj)
        have c0 := bl _ _ (atmC_get ts i kl).1
        have c1 := bl _ _ (atmC_get ts i kl).2
        rw [← Nat.add_assoc] at c1
        have hsl := wtT_mem (List.getElem_mem kl)
        have hwh := HW.out
        have TC1 := turned_any (ts[i]'kl).name (by omega) wr.drew
        have HTK := Hid.mk (atm_take ts i kl)
        generalize (ts[i]'kl).name = n0 at c0 TC1 HTK
        generalize (ts[i]'kl).num = m0 at c1 HTK
        have x4 : wr.cell? ⟨w.heap.size + 1 + 1, 4, none⟩ = some v := HF.out.x.cell 4
        have xz := HF.out.x.z 4
        have hlt' : (i : Int) < n4 := by omega
        have HFD := Hid.mk (HF.out.drew.alloc (.cells #[.string (str (turn n0)), .int .i64 m0] 40))
        have HOD := Hid.mk ((OW.out.kept (row := none) (grown_drew wr) (by cases v.ownBlock <;> simp)).alloc (.cells #[.string (str (turn n0)), .int .i64 m0] 40))
        have hsz := HF.out.size
        clear bl hsl hwh
        have hgw : g < w.heap.size := World.block_lt_of_cell? _ _ (hx 0 _ (atmC_get ts 0 (by omega)).1)
        have ng1 : ¬ g = w.heap.size + 1 + 1 := by omega
        have ng2 : ¬ w.heap.size + 1 + 1 = g := by omega
        clear hx
        have nX : ¬ w.heap.size + 1 + 1 = wr.heap.size := by omega
        have nX' : ¬ wr.heap.size = w.heap.size + 1 + 1 := by omega
        have x4b : (wr.alloc (.cells #[.string (str (turn n0)), .int .i64 m0] 40)).cell? ⟨w.heap.size + 1 + 1, 4, none⟩ = some v := (HF.out.alloc _).x.cell 4
        have x4a : (wr.drew.alloc (.cells #[.string (str (turn n0)), .int .i64 m0] 40)).cell? ⟨w.heap.size + 1 + 1, 4, none⟩ = some v := HFD.out.x.cell 4
        have y4a : (wr.drew.alloc (.cells #[.string (str (turn n0)), .int .i64 m0] 40)).cell? ⟨w.heap.size, 4, none⟩ = some (.slice (some ⟨g, off, none⟩) n4 z4) := (HFD.out.b.cell 4).trans Q.out.1
        have e0 : (wr.drew.alloc (.cells #[.string (str (turn n0)), .int .i64 m0] 40)).cell? ⟨g, off + i * 2, none⟩ = some (.string (str n0)) := (cell_same HFD.out.blw HF.out.blw hgw).trans c0
        have e1 : (wr.drew.alloc (.cells #[.string (str (turn n0)), .int .i64 m0] 40)).cell? ⟨g, off + i * 2 + 1, none⟩ = some (.int .i64 m0) := (cell_same HFD.out.blw HF.out.blw hgw).trans c1
        go_wp2
        refine wp_region_held_drew (S := (fun w' => w'.cell? ⟨w.heap.size, 4, none⟩ = some (.slice (some ⟨g, off, none⟩) n4 z4) ∧ w'.cell? ⟨g, off + i * 2, none⟩ = some (.string (str n0)) ∧ w'.cell? ⟨g, off + i * 2 + 1, none⟩ = some (.int .i64 m0))) (by kernel_rfl) ?_ (fun hHeld => ?_)
        · try dsimp only
          go_keep
        refine wpAnyH_take (i := 0) (v := ?_) rfl (by kernel_rfl) (by kernel_rfl) (by kernel_rfl) (fun _ _ _ h => h) (Or.inl ⟨by rfl, ?_⟩) (by assumption) ?_
        rotate_left
        · intro w' hSw
          try dsimp only at hSw
          go_simp
          try with_reducible rfl
        try simp only [Act.put, List.setIfInBounds_toArray, List.set_cons_zero, List.set_cons_succ]
        refine wpAnyH_take (i := 2) (v := ?_) rfl (by kernel_rfl) (by kernel_rfl) (by kernel_rfl) (fun _ _ _ h => h) (Or.inl ⟨by rfl, ?_⟩) (by assumption) ?_
        rotate_left
        · intro w' hSw
          try dsimp only at hSw
          go_simp
          try with_reducible rfl
        try simp only [Act.put, List.setIfInBounds_toArray, List.set_cons_zero, List.set_cons_succ]
        refine wpAnyH_take (i := 3) (v := ?_) rfl (by kernel_rfl) (by kernel_rfl) (by kernel_rfl) (fun _ _ _ h => h) (Or.inl ⟨by rfl, ?_⟩) (by assumption) ?_
        rotate_left
        · intro w' hSw
          try dsimp only at hSw
          go_simp
          try with_reducible rfl
        try simp only [Act.put, List.setIfInBounds_toArray, List.set_cons_zero, List.set_cons_succ]
        refine wpAnyH_take (i := 4) (v := ?_) rfl (by kernel_rfl) (by kernel_rfl) (by kernel_rfl) (fun _ _ _ h => h) (Or.inl ⟨by rfl, ?_⟩) (by assumption) ?_
        rotate_left
        · intro w' hSw
          try dsimp only at hSw
          go_simp
          try with_reducible rfl
        try simp only [Act.put, List.setIfInBounds_toArray, List.set_cons_zero, List.set_cons_succ]
        refine wpAnyH_take (i := 5) (v := ?_) rfl (by kernel_rfl) (by kernel_rfl) (by kernel_rfl) (fun _ _ _ h => h) (Or.inl ⟨by rfl, ?_⟩) (by assumption) ?_
        rotate_left
        · intro w' hSw
          try dsimp only at hSw
          go_simp
          try with_reducible rfl
        try simp only [Act.put, List.setIfInBounds_toArray, List.set_cons_zero, List.set_cons_succ]
        refine wpAnyH_take (i := 6) (v := ?_) rfl (by kernel_rfl) (by kernel_rfl) (by kernel_rfl) (fun _ _ _ h => h) (Or.inl ⟨by rfl, ?_⟩) (by assumption) ?_
        rotate_left
        · intro w' hSw
          try dsimp only at hSw
          go_simp
          try with_reducible rfl
        try simp only [Act.put, List.setIfInBounds_toArray, List.set_cons_zero, List.set_cons_succ]
        refine wpAnyH_take (i := 7) (v := ?_) rfl (by kernel_rfl) (by kernel_rfl) (by kernel_rfl) (fun _ _ _ h => h) (Or.inl ⟨by rfl, ?_⟩) (by assumption) ?_
        rotate_left
        · intro w' hSw
          try dsimp only at hSw
          go_simp
          try with_reducible rfl
        try simp only [Act.put, List.setIfInBounds_toArray, List.set_cons_zero, List.set_cons_succ]
        refine wpAnyH_take (i := 9) (v := ?_) rfl (by kernel_rfl) (by kernel_rfl) (by kernel_rfl) (fun _ _ _ h => h) (Or.inl ⟨by rfl, ?_⟩) (by assumption) ?_
        rotate_left
        · intro w' hSw
          try dsimp only at hSw
          go_simp
          try with_reducible rfl
        try simp only [Act.put, List.setIfInBounds_toArray, List.set_cons_zero, List.set_cons_succ]
        refine wpAnyH_take (i := 10) (v := ?_) rfl (by kernel_rfl) (by kernel_rfl) (by kernel_rfl) (fun _ _ _ h => h) (Or.inl ⟨by rfl, ?_⟩) (by assumption) ?_
        rotate_left
        · intro w' hSw
          try dsimp only at hSw
          go_simp
          try with_reducible rfl
        try simp only [Act.put, List.setIfInBounds_toArray, List.set_cons_zero, List.set_cons_succ]
        refine wpAnyH_take (i := 11) (v := ?_) rfl (by kernel_rfl) (by kernel_rfl) (by kernel_rfl) (fun _ _ _ h => h) (Or.inl ⟨by rfl, ?_⟩) (by assumption) ?_
        rotate_left
        · intro w' hSw
          try dsimp only at hSw
          go_simp
          try with_reducible rfl
        try simp only [Act.put, List.setIfInBounds_toArray, List.set_cons_zero, List.set_cons_succ]
        refine wpAnyH_take (i := 12) (v := ?_) rfl (by kernel_rfl) (by kernel_rfl) (by kernel_rfl) (fun _ _ _ h => h) (Or.inl ⟨by rfl, ?_⟩) (by assumption) ?_
        rotate_left
        · intro w' hSw
          try dsimp only at hSw
          go_simp
          try with_reducible rfl
        try simp only [Act.put, List.setIfInBounds_toArray, List.set_cons_zero, List.set_cons_succ]
        refine wpAnyH_take (i := 13) (v := ?_) rfl (by kernel_rfl) (by kernel_rfl) (by kernel_rfl) (fun _ _ _ h => h) (Or.inl ⟨by rfl, ?_⟩) (by assumption) ?_
        rotate_left
        · intro w' hSw
          try dsimp only at hSw
          go_simp
          try with_reducible rfl
        try simp only [Act.put, List.setIfInBounds_toArray, List.set_cons_zero, List.set_cons_succ]
        refine wpAnyH_take (i := 14) (v := ?_) rfl (by kernel_rfl) (by kernel_rfl) (by kernel_rfl) (fun _ _ _ h => h) (Or.inl ⟨by rfl, ?_⟩) (by assumption) ?_
        rotate_left
        · intro w' hSw
          try dsimp only at hSw
          go_simp
          try with_reducible rfl
        try simp only [Act.put, List.setIfInBounds_toArray, List.set_cons_zero, List.set_cons_succ]
        refine wpAnyH_ready (rs := [1, 8]) (by kernel_rfl) (by simp) ?_
        refine AllReadyH.cons rfl (fun K hK => ?_) ?_
        · go_simp
          refine hK.out _ _ ?_ (fun hHeld => ?_)
          · try dsimp only
            go_keep
          clear hK K
          try simp only [Act.put, List.setIfInBounds_toArray, List.set_cons_zero, List.set_cons_succ]
          refine wpAnyH_ready (rs := [8]) (by kernel_rfl) (by simp) ?_
          refine AllReadyH.cons rfl (fun K hK => ?_) ?_
          · go_simp
            go_at_call 27
            refine TC1.mono ?_
            rintro e w8 ⟨rfl, h8⟩
            obtain rfl := h8.symm
            refine hK.out _ _ ?_ (fun hHeld => ?_)
            · try dsimp only
              go_keep
            clear hK K
            try simp only [Act.put, List.setIfInBounds_toArray, List.set_cons_zero, List.set_cons_succ]
            refine wpAnyH_take (i := 15) (v := ?_) rfl (by kernel_rfl) (by kernel_rfl) (by kernel_rfl) (fun _ _ _ h => h) (Or.inl ⟨by rfl, ?_⟩) (by assumption) ?_
            rotate_left
            · intro w' hSw
              try dsimp only at hSw
              go_simp
              try with_reducible rfl
            try simp only [Act.put, List.setIfInBounds_toArray, List.set_cons_zero, List.set_cons_succ]
            refine wpAnyH_ready (rs := [16]) (by kernel_rfl) (by simp) ?_
            refine AllReadyH.cons rfl (fun K hK => ?_) ?_
            · go_simp
              refine hK.out _ _ ?_ (fun hHeld => ?_)
              · try dsimp only
                go_keep
              clear hK K
              try simp only [Act.put, List.setIfInBounds_toArray, List.set_cons_zero, List.set_cons_succ]
              refine wpAnyH_ready (rs := [17]) (by kernel_rfl) (by simp) ?_
              refine AllReadyH.cons rfl (fun K hK => ?_) ?_
              · rw [if_pos (by rfl)]
                refine wp_append_lies _ (.tmp 27) (.tmp 42) 41 rfl (w.heap.size + 3) 40 i40 _ 2 24 Tryd.underlying41 ih40 iz0 iz1 iz2 rfl (by decide) v i (atmC ((ts.take i).map turnT)) (by rfl) HOD.out ⟨_, 0, none⟩ 1 1 [.string (str (turn n0)), .int .i64 m0] (by rfl) rfl (World.news_of_block (heap_alloc_new _ _)) (by simp [Value.oneCell']) (by decide) (by unfold maxLen; omega) (by omega) (by simp; omega) _ rfl ?_
                intro q9 cap9 w9 ho hg hat hlt9
                have HF9 := Hid.mk (HFD.out.grown hg (fun j e => (HOD.out.lt j e).1))
                have x9 : w9.cell? ⟨w.heap.size + 1 + 1, 4, none⟩ = some v := HF9.out.x.cell 4
                have xz9 := HF9.out.x.z 4
                have y9 : w9.cell? ⟨w.heap.size, 4, none⟩ = some (.slice (some ⟨g, off, none⟩) n4 z4) := (HF9.out.b.cell 4).trans Q.out.1
                have d0 : w9.cell? ⟨g, off + i * 2, none⟩ = some (.string (str n0)) := (cell_same HF9.out.blw HF.out.blw hgw).trans c0
                have d1 : w9.cell? ⟨g, off + i * 2 + 1, none⟩ = some (.int .i64 m0) := (cell_same HF9.out.blw HF.out.blw hgw).trans c1
                have HO9 := Hid.mk ho
                clear ho hg hat hlt9
                refine hK.out _ _ ?_ (fun hHeld => ?_)
                · try dsimp only
                  go_keep
                clear hK K
                try simp only [Act.put, List.setIfInBounds_toArray, List.set_cons_zero, List.set_cons_succ]
                refine wpAnyH_take (i := 18) (v := ?_) rfl (by kernel_rfl) (by kernel_rfl) (by kernel_rfl) (fun _ _ _ h => h) (Or.inl ⟨by rfl, ?_⟩) (by assumption) ?_
                rotate_left
                · intro w' hSw
                  try dsimp only at hSw
                  go_simp
                  try with_reducible rfl
                try simp only [Act.put, List.setIfInBounds_toArray, List.set_cons_zero, List.set_cons_succ]
                refine wpAnyH_ready (rs := [19]) (by kernel_rfl) (by simp) ?_
                refine AllReadyH.cons rfl (fun K hK => ?_) ?_
                · go_simp
                  refine hK.out _ _ ?_ (fun hHeld => ?_)
                  · try dsimp only
                    exact ⟨((HF9.out.store 4 _).b.cell 4).trans Q.out.1, (cell_same (HF9.out.store 4 _).blw HF.out.blw hgw).trans c0, (cell_same (HF9.out.store 4 _).blw HF.out.blw hgw).trans c1⟩
                  clear hK K
                  try simp only [Act.put, List.setIfInBounds_toArray, List.set_cons_zero, List.set_cons_succ]
                  refine wpAnyH_done (by kernel_rfl) ?_ _
                  go_wp2
                  exact ⟨⟨i + 1, .slice (some ⟨q9, 0, none⟩) (i + 1) cap9, by go_num, by omega, ⟨HF9.out.store 4 _⟩, ⟨by rw [HTK.out]; exact own_set HO9.out 4 _⟩⟩, by simp [intOf]; omega⟩
                exact AllReadyH.nil
              exact AllReadyH.nil
            exact AllReadyH.nil
          exact AllReadyH.nil
        refine AllReadyH.cons rfl (fun K hK => ?_) ?_
        · go_simp
          go_at_call 27
          refine TC1.mono ?_
          rintro e w8 ⟨rfl, h8⟩
          obtain rfl := h8.symm
          refine hK.out _ _ ?_ (fun hHeld => ?_)
          · try dsimp only
            go_keep
          clear hK K
          try simp only [Act.put, List.setIfInBounds_toArray, List.set_cons_zero, List.set_cons_succ]
          refine wpAnyH_take (i := 15) (v := ?_) rfl (by kernel_rfl) (by kernel_rfl) (by kernel_rfl) (fun _ _ _ h => h) (Or.inl ⟨by rfl, ?_⟩) (by assumption) ?_
          rotate_left
          · intro w' hSw
            try dsimp only at hSw
            go_simp
            try with_reducible rfl
          try simp only [Act.put, List.setIfInBounds_toArray, List.set_cons_zero, List.set_cons_succ]
          refine wpAnyH_ready (rs := [1, 16]) (by kernel_rfl) (by simp) ?_
          refine AllReadyH.cons rfl (fun K hK => ?_) ?_
          · go_simp
            refine hK.out _ _ ?_ (fun hHeld => ?_)
            · try dsimp only
              go_keep
            clear hK K
            try simp only [Act.put, List.setIfInBounds_toArray, List.set_cons_zero, List.set_cons_succ]
            refine wpAnyH_ready (rs := [16]) (by kernel_rfl) (by simp) ?_
            refine AllReadyH.cons rfl (fun K hK => ?_) ?_
            · go_simp
              refine hK.out _ _ ?_ (fun hHeld => ?_)
              · try dsimp only
                go_keep
              clear hK K
              try simp only [Act.put, List.setIfInBounds_toArray, List.set_cons_zero, List.set_cons_succ]
              refine wpAnyH_ready (rs := [17]) (by kernel_rfl) (by simp) ?_
              refine AllReadyH.cons rfl (fun K hK => ?_) ?_
              · rw [if_pos (by rfl)]
                refine wp_append_lies _ (.tmp 27) (.tmp 42) 41 rfl (w.heap.size + 3) 40 i40 _ 2 24 Tryd.underlying41 ih40 iz0 iz1 iz2 rfl (by decide) v i (atmC ((ts.take i).map turnT)) (by rfl) HOD.out ⟨_, 0, none⟩ 1 1 [.string (str (turn n0)), .int .i64 m0] (by rfl) rfl (World.news_of_block (heap_alloc_new _ _)) (by simp [Value.oneCell']) (by decide) (by unfold maxLen; omega) (by omega) (by simp; omega) _ rfl ?_
                intro q9 cap9 w9 ho hg hat hlt9
                have HF9 := Hid.mk (HFD.out.grown hg (fun j e => (HOD.out.lt j e).1))
                have x9 : w9.cell? ⟨w.heap.size + 1 + 1, 4, none⟩ = some v := HF9.out.x.cell 4
                have xz9 := HF9.out.x.z 4
                have y9 : w9.cell? ⟨w.heap.size, 4, none⟩ = some (.slice (some ⟨g, off, none⟩) n4 z4) := (HF9.out.b.cell 4).trans Q.out.1
                have d0 : w9.cell? ⟨g, off + i * 2, none⟩ = some (.string (str n0)) := (cell_same HF9.out.blw HF.out.blw hgw).trans c0
                have d1 : w9.cell? ⟨g, off + i * 2 + 1, none⟩ = some (.int .i64 m0) := (cell_same HF9.out.blw HF.out.blw hgw).trans c1
                have HO9 := Hid.mk ho
                clear ho hg hat hlt9
                refine hK.out _ _ ?_ (fun hHeld => ?_)
                · try dsimp only
                  go_keep
                clear hK K
                try simp only [Act.put, List.setIfInBounds_toArray, List.set_cons_zero, List.set_cons_succ]
                refine wpAnyH_take (i := 18) (v := ?_) rfl (by kernel_rfl) (by kernel_rfl) (by kernel_rfl) (fun _ _ _ h => h) (Or.inl ⟨by rfl, ?_⟩) (by assumption) ?_
                rotate_left
                · intro w' hSw
                  try dsimp only at hSw
                  go_simp
                  try with_reducible rfl
                try simp only [Act.put, List.setIfInBounds_toArray, List.set_cons_zero, List.set_cons_succ]
                refine wpAnyH_ready (rs := [19]) (by kernel_rfl) (by simp) ?_
                refine AllReadyH.cons rfl (fun K hK => ?_) ?_
                · go_simp
                  refine hK.out _ _ ?_ (fun hHeld => ?_)
                  · try dsimp only
                    exact ⟨((HF9.out.store 4 _).b.cell 4).trans Q.out.1, (cell_same (HF9.out.store 4 _).blw HF.out.blw hgw).trans c0, (cell_same (HF9.out.store 4 _).blw HF.out.blw hgw).trans c1⟩
                  clear hK K
                  try simp only [Act.put, List.setIfInBounds_toArray, List.set_cons_zero, List.set_cons_succ]
                  refine wpAnyH_done (by kernel_rfl) ?_ _
                  go_wp2
                  exact ⟨⟨i + 1, .slice (some ⟨q9, 0, none⟩) (i + 1) cap9, by go_num, by omega, ⟨HF9.out.store 4 _⟩, ⟨by rw [HTK.out]; exact own_set HO9.out 4 _⟩⟩, by simp [intOf]; omega⟩
                exact AllReadyH.nil
              exact AllReadyH.nil
            exact AllReadyH.nil
          refine AllReadyH.cons rfl (fun K hK => ?_) ?_
          · go_simp
            refine hK.out _ _ ?_ (fun hHeld => ?_)
            · try dsimp only
              go_keep
            clear hK K
            try simp only [Act.put, List.setIfInBounds_toArray, List.set_cons_zero, List.set_cons_succ]
            refine wpAnyH_ready (rs := [1]) (by kernel_rfl) (by simp) ?_
            refine AllReadyH.cons rfl (fun K hK => ?_) ?_
            · go_simp
              refine hK.out _ _ ?_ (fun hHeld => ?_)
              · try dsimp only
                go_keep
              clear hK K
              try simp only [Act.put, List.setIfInBounds_toArray, List.set_cons_zero, List.set_cons_succ]
              refine wpAnyH_ready (rs := [17]) (by kernel_rfl) (by simp) ?_
              refine AllReadyH.cons rfl (fun K hK => ?_) ?_
              · rw [if_pos (by rfl)]
                refine wp_append_lies _ (.tmp 27) (.tmp 42) 41 rfl (w.heap.size + 3) 40 i40 _ 2 24 Tryd.underlying41 ih40 iz0 iz1 iz2 rfl (by decide) v i (atmC ((ts.take i).map turnT)) (by rfl) HOD.out ⟨_, 0, none⟩ 1 1 [.string (str (turn n0)), .int .i64 m0] (by rfl) rfl (World.news_of_block (heap_alloc_new _ _)) (by simp [Value.oneCell']) (by decide) (by unfold maxLen; omega) (by omega) (by simp; omega) _ rfl ?_
                intro q9 cap9 w9 ho hg hat hlt9
                have HF9 := Hid.mk (HFD.out.grown hg (fun j e => (HOD.out.lt j e).1))
                have x9 : w9.cell? ⟨w.heap.size + 1 + 1, 4, none⟩ = some v := HF9.out.x.cell 4
                have xz9 := HF9.out.x.z 4
                have y9 : w9.cell? ⟨w.heap.size, 4, none⟩ = some (.slice (some ⟨g, off, none⟩) n4 z4) := (HF9.out.b.cell 4).trans Q.out.1
                have d0 : w9.cell? ⟨g, off + i * 2, none⟩ = some (.string (str n0)) := (cell_same HF9.out.blw HF.out.blw hgw).trans c0
                have d1 : w9.cell? ⟨g, off + i * 2 + 1, none⟩ = some (.int .i64 m0) := (cell_same HF9.out.blw HF.out.blw hgw).trans c1
                have HO9 := Hid.mk ho
                clear ho hg hat hlt9
                refine hK.out _ _ ?_ (fun hHeld => ?_)
                · try dsimp only
                  go_keep
                clear hK K
                try simp only [Act.put, List.setIfInBounds_toArray, List.set_cons_zero, List.set_cons_succ]
                refine wpAnyH_take (i := 18) (v := ?_) rfl (by kernel_rfl) (by kernel_rfl) (by kernel_rfl) (fun _ _ _ h => h) (Or.inl ⟨by rfl, ?_⟩) (by assumption) ?_
                rotate_left
                · intro w' hSw
                  try dsimp only at hSw
                  go_simp
                  try with_reducible rfl
                try simp only [Act.put, List.setIfInBounds_toArray, List.set_cons_zero, List.set_cons_succ]
                refine wpAnyH_ready (rs := [19]) (by kernel_rfl) (by simp) ?_
                refine AllReadyH.cons rfl (fun K hK => ?_) ?_
                · go_simp
                  refine hK.out _ _ ?_ (fun hHeld => ?_)
                  · try dsimp only
                    exact ⟨((HF9.out.store 4 _).b.cell 4).trans Q.out.1, (cell_same (HF9.out.store 4 _).blw HF.out.blw hgw).trans c0, (cell_same (HF9.out.store 4 _).blw HF.out.blw hgw).trans c1⟩
                  clear hK K
                  try simp only [Act.put, List.setIfInBounds_toArray, List.set_cons_zero, List.set_cons_succ]
                  refine wpAnyH_done (by kernel_rfl) ?_ _
                  go_wp2
                  exact ⟨⟨i + 1, .slice (some ⟨q9, 0, none⟩) (i + 1) cap9, by go_num, by omega, ⟨HF9.out.store 4 _⟩, ⟨by rw [HTK.out]; exact own_set HO9.out 4 _⟩⟩, by simp [intOf]; omega⟩
                exact AllReadyH.nil
              exact AllReadyH.nil
            exact AllReadyH.nil
          exact AllReadyH.nil
        exact AllReadyH.nil
      · obtain rfl : n4 = i := by omega
        have hh : ts.take n4 = ts := List.take_of_length_le (by rw [HN.out.1]; exact Nat.le_refl _)
        have OW4 := OW.out
        rw [hh] at OW4
        have HOW4 := Hid.mk OW4
        have y5 : wr.cell? ⟨w.heap.size, 5, none⟩ = some (.slice h5 n5 z5) := (HF.out.b.cell 5).trans Q.out.2.1
        have TB := HIH.out.1 wr (.slice h5 n5 z5) xb (by have := HALL.out.2.1.keeps (keeps_all HF.out.blw); rwa [← HN.out.2.1] at this ⊢) (isBs_keeps (keeps_all HF.out.blw) _ _ HALL.out.2.2.1)
        rw [HN.out.2.1] at TB
        clear hh OW4 OW
        go_wp2_with (go_at_call 14; refine TB.mono ?_; rintro e w5 ⟨B5, v5, xb', rfl, R5', I5'⟩; obtain ⟨j5, q5, rfl, -, -⟩ := id R5'; have HF5 := Hid.mk (HF.out.below B5); have x5 := HF5.out.x.cell 5; have xz5 := HF5.out.x.z 5; have HR5 := Hid.mk (And.intro R5' I5'); have HB5 := Hid.mk B5; clear B5 R5' I5' TB)
        have HF6 := Hid.mk (HF5.out.store 5 (.slice j5 n5 q5))
        have I4 : Hid (IsRow (w5.setCell ⟨w.heap.size + 1 + 1, 5, none⟩ (.slice j5 n5 q5)) (inz (w.heap.size + 3) (w5.setCell ⟨w.heap.size + 1 + 1, 5, none⟩ (.slice j5 n5 q5)) nilS) (atmC (ts.map turnT)) n4 v) := ⟨((rowz_nil HOW4.out b4.2).keeps (inz_below HB5.out)).keeps (inz_store (by omega) _ _ _ _)⟩
        have KN : Keeps (new wr w5) (inz (w.heap.size + 3) (w5.setCell ⟨w.heap.size + 1 + 1, 5, none⟩ (.slice j5 n5 q5)) nilS) w5 (w5.setCell ⟨w.heap.size + 1 + 1, 5, none⟩ (.slice j5 n5 q5)) := keeps_trans (inz_new HF.out.size) (inz_store (by omega) _ _ _ _)
        have I5 : Hid (IsRow (w5.setCell ⟨w.heap.size + 1 + 1, 5, none⟩ (.slice j5 n5 q5)) (inz (w.heap.size + 3) (w5.setCell ⟨w.heap.size + 1 + 1, 5, none⟩ (.slice j5 n5 q5)) nilS) xb' n5 (.slice j5 n5 q5) ∧ isBs (w5.setCell ⟨w.heap.size + 1 + 1, 5, none⟩ (.slice j5 n5 q5)) (inz (w.heap.size + 3) (w5.setCell ⟨w.heap.size + 1 + 1, 5, none⟩ (.slice j5 n5 q5)) nilS) (turnBs bs) xb') := ⟨⟨HR5.out.1.keeps KN, isBs_keeps KN _ _ HR5.out.2⟩⟩
        generalize w5.setCell ⟨w.heap.size + 1 + 1, 5, none⟩ (.slice j5 n5 q5) = w6 at HF6 I4 I5 ⊢
        clear KN HR5 HF5 HB5 HF HOW4 x5 xz5 y5 y4 hlt hi b4
        generalize v = v4 at *
        obtain ⟨i45, ih45, jz0, jz1, jz2⟩ := info_parts info45
        go_loopw [5] (fun c wr => ∃ (i : Nat) (v : Value) (xk' : List Value), c = .int .i64 i ∧ i ≤ n6 ∧ Hid (Xs w wr cB #[.int .i64 k, .int .i64 a, .string s2, .int .i64 m, v4, .slice j5 n5 q5, v, .slice none 0 0]) ∧ Hid (wr.ownsRow (w.heap.size + 3) 45 8 v i xk') ∧ Hid (isEs wr (inz (w.heap.size + 3) wr v) (turnEs (ks.take i)) xk') ∧ Hid (IsRow wr (inz (w.heap.size + 3) wr v) (atmC (ts.map turnT)) n4 v4) ∧ Hid (IsRow wr (inz (w.heap.size + 3) wr v) xb' n5 (.slice j5 n5 q5) ∧ isBs wr (inz (w.heap.size + 3) wr v) (turnBs bs) xb')) (fun c _ => n6 - (intOf c).toNat)
        case atStart => exact ⟨0, .slice none 0 0, [], rfl, Nat.zero_le _, HF6, ⟨World.ownsRow_nil _ _ _ _⟩, ⟨by rw [List.take_zero]; simp only [turnEs, isEs]⟩, I4, I5⟩
        case round =>
          clear HF6 I4 I5
          obtain ⟨i, v, xk', rfl, hi, HF, OK, IK, I4, I5⟩ := hrel
          have y6 : wr.cell? ⟨w.heap.size, 6, none⟩ = some (.slice h6 n6 z6) := (HF.out.b.cell 6).trans Q.out.2.2.1
          by_cases hlt : i < n6
          · have kl : i < ks.length := by rw [HN.out.2.2.1]; exact hlt
            obtain ⟨_, _, e, _, hx⟩ := HALL.out.2.2.2.1
            simp only [Value.slice.injEq] at e
            obtain ⟨rfl, _, rfl⟩ := e
            obtain ⟨g, off, rfl, hgw, hx⟩ := hx (by omega)
            obtain ⟨dd, hd, hgd⟩ := isEs_get ks xk HALL.out.2.2.2.2.1 i kl
            have TK := HIH.out.2.1 _ (List.getElem_mem kl) wr.drew dd (isE_keeps (keeps_all HF.out.drew.blw) _ _ hd)
            have HTK := Hid.mk (turnEs_take ks i kl)
            generalize ks[i]'kl = kid at *
            obtain ⟨kk, ka, km, ks', i4, i5, i6, i7, l4, l5, l6, l7, y4, y5', y6', y7, rfl⟩ := isE_eight hd
            have bl : ∀ (j : Nat) (u : Value), [.int .i64 kk, .int .i64 ka, .string ks', .int .i64 km, .slice i4 l4 y4, .slice i5 l5 y5', .slice i6 l6 y6', .slice i7 l7 y7][j]? = some u → wr.cell? ⟨g, off + i * 8 + j, none⟩ = some u := fun j u hj => by
              have h0 := hx _ _ (hgd j u hj)
              rw [← Nat.add_assoc] at h0
              exact (HF.out.blw.cell (World.block_lt_of_cell? _ _ h0)).trans h0
            have d0 := bl 0 _ rfl
            have d1 := bl 1 _ rfl
            have d2 := bl 2 _ rfl
            have d3 := bl 3 _ rfl
            have d4 := bl 4 _ rfl
            have d5 := bl 5 _ rfl
            have d6 := bl 6 _ rfl
            have d7 := bl 7 _ rfl
            rw [Nat.add_zero] at d0
            have x6 : wr.cell? ⟨w.heap.size + 1 + 1, 6, none⟩ = some v := HF.out.x.cell 6
            have hlt' : (i : Int) < n6 := by omega
            have hi0 : (0 : Int) ≤ i := by omega
            have HDR : Hid (Below wr.heap.size wr wr.drew) := ⟨(Below.refl _ _).drew⟩
            clear hx hgd bl hd
            go_wp2
            refine wp_region_held_drew (S := (fun w' => w'.cell? ⟨w.heap.size, 6, none⟩ = some (.slice (some ⟨g, off, none⟩) n6 z6) ∧ w'.cell? ⟨g, off + i * 8, none⟩ = some (.int .i64 kk) ∧ w'.cell? ⟨g, off + i * 8 + 1, none⟩ = some (.int .i64 ka) ∧ w'.cell? ⟨g, off + i * 8 + 2, none⟩ = some (.string ks') ∧ w'.cell? ⟨g, off + i * 8 + 3, none⟩ = some (.int .i64 km) ∧ w'.cell? ⟨g, off + i * 8 + 4, none⟩ = some (.slice i4 l4 y4) ∧ w'.cell? ⟨g, off + i * 8 + 5, none⟩ = some (.slice i5 l5 y5') ∧ w'.cell? ⟨g, off + i * 8 + 6, none⟩ = some (.slice i6 l6 y6') ∧ w'.cell? ⟨g, off + i * 8 + 7, none⟩ = some (.slice i7 l7 y7))) (by kernel_rfl) ?_ (fun hHeld => ?_)
            · try dsimp only
              go_keep
            refine wpAnyH_take (i := 0) (v := ?_) rfl (by kernel_rfl) (by kernel_rfl) (by kernel_rfl) (fun _ _ _ h => h) (Or.inl ⟨by rfl, ?_⟩) (by assumption) ?_
            rotate_left
            · intro w' hSw
              try dsimp only at hSw
              go_simp
              try with_reducible rfl
            try simp only [Act.put, List.setIfInBounds_toArray, List.set_cons_zero, List.set_cons_succ]
            refine wpAnyH_take (i := 2) (v := ?_) rfl (by kernel_rfl) (by kernel_rfl) (by kernel_rfl) (fun _ _ _ h => h) (Or.inl ⟨by rfl, ?_⟩) (by assumption) ?_
            rotate_left
            · intro w' hSw
              try dsimp only at hSw
              go_simp
              try with_reducible rfl
            try simp only [Act.put, List.setIfInBounds_toArray, List.set_cons_zero, List.set_cons_succ]
            refine wpAnyH_take (i := 3) (v := ?_) rfl (by kernel_rfl) (by kernel_rfl) (by kernel_rfl) (fun _ _ _ h => h) (Or.inl ⟨by rfl, ?_⟩) (by assumption) ?_
            rotate_left
            · intro w' hSw
              try dsimp only at hSw
              go_simp
              try with_reducible rfl
            try simp only [Act.put, List.setIfInBounds_toArray, List.set_cons_zero, List.set_cons_succ]
            refine wpAnyH_take (i := 4) (v := ?_) rfl (by kernel_rfl) (by kernel_rfl) (by kernel_rfl) (fun _ _ _ h => h) (Or.inl ⟨by rfl, ?_⟩) (by assumption) ?_
            rotate_left
            · intro w' hSw
              try dsimp only at hSw
              go_simp
              try with_reducible rfl
            try simp only [Act.put, List.setIfInBounds_toArray, List.set_cons_zero, List.set_cons_succ]
            refine wpAnyH_take (i := 5) (v := ?_) rfl (by kernel_rfl) (by kernel_rfl) (by kernel_rfl) (fun _ _ _ h => h) (Or.inl ⟨by rfl, ?_⟩) (by assumption) ?_
            rotate_left
            · intro w' hSw
              try dsimp only at hSw
              go_simp
              try with_reducible rfl
            try simp only [Act.put, List.setIfInBounds_toArray, List.set_cons_zero, List.set_cons_succ]
            refine wpAnyH_take (i := 6) (v := ?_) rfl (by kernel_rfl) (by kernel_rfl) (by kernel_rfl) (fun _ _ _ h => h) (Or.inl ⟨by rfl, ?_⟩) (by assumption) ?_
            rotate_left
            · intro w' hSw
              try dsimp only at hSw
              go_simp
              try with_reducible rfl
            try simp only [Act.put, List.setIfInBounds_toArray, List.set_cons_zero, List.set_cons_succ]
            refine wpAnyH_ready (rs := [1, 7]) (by kernel_rfl) (by simp) ?_
            refine AllReadyH.cons rfl (fun K hK => ?_) ?_
            · go_simp
              refine hK.out _ _ ?_ (fun hHeld => ?_)
              · try dsimp only
                go_keep
              clear hK K
              try simp only [Act.put, List.setIfInBounds_toArray, List.set_cons_zero, List.set_cons_succ]
              refine wpAnyH_ready (rs := [7]) (by kernel_rfl) (by simp) ?_
              refine AllReadyH.cons rfl (fun K hK => ?_) ?_
              · go_simp
                go_at_call 29
                refine TK.mono ?_
                rintro e w8 ⟨B8, c', rfl, I8⟩
                obtain ⟨k2, xa2, xm2, xs2, j4, j5, j6, j7, p4, p5, p6, p7, q4, q5, q6, q7, rfl⟩ := isE_eight I8
                have HF8 := Hid.mk (HF.out.drew.below B8)
                have HB8 := Hid.mk B8
                have HI8 := Hid.mk I8
                have x68 : w8.cell? ⟨w.heap.size + 1 + 1, 6, none⟩ = some v := HF8.out.x.cell 6
                have HF8a := Hid.mk (HF8.out.alloc (.cells #[.int .i64 k2, .int .i64 xa2, .string xs2, .int .i64 xm2, .slice j4 p4 q4, .slice j5 p5 q5, .slice j6 p6 q6, .slice j7 p7 q7] 45))
                have x68a : (w8.alloc (.cells #[.int .i64 k2, .int .i64 xa2, .string xs2, .int .i64 xm2, .slice j4 p4 q4, .slice j5 p5 q5, .slice j6 p6 q6, .slice j7 p7 q7] 45)).cell? ⟨w.heap.size + 1 + 1, 6, none⟩ = some v := HF8a.out.x.cell 6
                have fy : w8.cell? ⟨w.heap.size, 6, none⟩ = some (.slice (some ⟨g, off, none⟩) n6 z6) := (HF8.out.b.cell 6).trans Q.out.2.2.1
                have f0 : w8.cell? ⟨g, off + i * 8, none⟩ = some (.int .i64 kk) := (cell_same HF8.out.blw HF.out.blw hgw).trans d0
                have f1 : w8.cell? ⟨g, off + i * 8 + 1, none⟩ = some (.int .i64 ka) := (cell_same HF8.out.blw HF.out.blw hgw).trans d1
                have f2 : w8.cell? ⟨g, off + i * 8 + 2, none⟩ = some (.string ks') := (cell_same HF8.out.blw HF.out.blw hgw).trans d2
                have f3 : w8.cell? ⟨g, off + i * 8 + 3, none⟩ = some (.int .i64 km) := (cell_same HF8.out.blw HF.out.blw hgw).trans d3
                have f4 : w8.cell? ⟨g, off + i * 8 + 4, none⟩ = some (.slice i4 l4 y4) := (cell_same HF8.out.blw HF.out.blw hgw).trans d4
                have f5 : w8.cell? ⟨g, off + i * 8 + 5, none⟩ = some (.slice i5 l5 y5') := (cell_same HF8.out.blw HF.out.blw hgw).trans d5
                have f6 : w8.cell? ⟨g, off + i * 8 + 6, none⟩ = some (.slice i6 l6 y6') := (cell_same HF8.out.blw HF.out.blw hgw).trans d6
                have f7 : w8.cell? ⟨g, off + i * 8 + 7, none⟩ = some (.slice i7 l7 y7) := (cell_same HF8.out.blw HF.out.blw hgw).trans d7
                have fay : (w8.alloc (.cells #[.int .i64 k2, .int .i64 xa2, .string xs2, .int .i64 xm2, .slice j4 p4 q4, .slice j5 p5 q5, .slice j6 p6 q6, .slice j7 p7 q7] 45)).cell? ⟨w.heap.size, 6, none⟩ = some (.slice (some ⟨g, off, none⟩) n6 z6) := (HF8a.out.b.cell 6).trans Q.out.2.2.1
                have fa0 : (w8.alloc (.cells #[.int .i64 k2, .int .i64 xa2, .string xs2, .int .i64 xm2, .slice j4 p4 q4, .slice j5 p5 q5, .slice j6 p6 q6, .slice j7 p7 q7] 45)).cell? ⟨g, off + i * 8, none⟩ = some (.int .i64 kk) := (cell_same HF8a.out.blw HF.out.blw hgw).trans d0
                have fa1 : (w8.alloc (.cells #[.int .i64 k2, .int .i64 xa2, .string xs2, .int .i64 xm2, .slice j4 p4 q4, .slice j5 p5 q5, .slice j6 p6 q6, .slice j7 p7 q7] 45)).cell? ⟨g, off + i * 8 + 1, none⟩ = some (.int .i64 ka) := (cell_same HF8a.out.blw HF.out.blw hgw).trans d1
                have fa2 : (w8.alloc (.cells #[.int .i64 k2, .int .i64 xa2, .string xs2, .int .i64 xm2, .slice j4 p4 q4, .slice j5 p5 q5, .slice j6 p6 q6, .slice j7 p7 q7] 45)).cell? ⟨g, off + i * 8 + 2, none⟩ = some (.string ks') := (cell_same HF8a.out.blw HF.out.blw hgw).trans d2
                have fa3 : (w8.alloc (.cells #[.int .i64 k2, .int .i64 xa2, .string xs2, .int .i64 xm2, .slice j4 p4 q4, .slice j5 p5 q5, .slice j6 p6 q6, .slice j7 p7 q7] 45)).cell? ⟨g, off + i * 8 + 3, none⟩ = some (.int .i64 km) := (cell_same HF8a.out.blw HF.out.blw hgw).trans d3
                have fa4 : (w8.alloc (.cells #[.int .i64 k2, .int .i64 xa2, .string xs2, .int .i64 xm2, .slice j4 p4 q4, .slice j5 p5 q5, .slice j6 p6 q6, .slice j7 p7 q7] 45)).cell? ⟨g, off + i * 8 + 4, none⟩ = some (.slice i4 l4 y4) := (cell_same HF8a.out.blw HF.out.blw hgw).trans d4
                have fa5 : (w8.alloc (.cells #[.int .i64 k2, .int .i64 xa2, .string xs2, .int .i64 xm2, .slice j4 p4 q4, .slice j5 p5 q5, .slice j6 p6 q6, .slice j7 p7 q7] 45)).cell? ⟨g, off + i * 8 + 5, none⟩ = some (.slice i5 l5 y5') := (cell_same HF8a.out.blw HF.out.blw hgw).trans d5
                have fa6 : (w8.alloc (.cells #[.int .i64 k2, .int .i64 xa2, .string xs2, .int .i64 xm2, .slice j4 p4 q4, .slice j5 p5 q5, .slice j6 p6 q6, .slice j7 p7 q7] 45)).cell? ⟨g, off + i * 8 + 6, none⟩ = some (.slice i6 l6 y6') := (cell_same HF8a.out.blw HF.out.blw hgw).trans d6
                have fa7 : (w8.alloc (.cells #[.int .i64 k2, .int .i64 xa2, .string xs2, .int .i64 xm2, .slice j4 p4 q4, .slice j5 p5 q5, .slice j6 p6 q6, .slice j7 p7 q7] 45)).cell? ⟨g, off + i * 8 + 7, none⟩ = some (.slice i7 l7 y7) := (cell_same HF8a.out.blw HF.out.blw hgw).trans d7
                clear B8 I8
                refine hK.out _ _ ?_ (fun hHeld => ?_)
                · try dsimp only
                  go_keep
                clear hK K
                try simp only [Act.put, List.setIfInBounds_toArray, List.set_cons_zero, List.set_cons_succ]
                refine wpAnyH_ready (rs := [8]) (by kernel_rfl) (by simp) ?_
                refine AllReadyH.cons rfl (fun K hK => ?_) ?_
                · go_simp
                  refine hK.out _ _ ?_ (fun hHeld => ?_)
                  · try dsimp only
                    go_keep
                  clear hK K
                  try simp only [Act.put, List.setIfInBounds_toArray, List.set_cons_zero, List.set_cons_succ]
                  refine wpAnyH_ready (rs := [9]) (by kernel_rfl) (by simp) ?_
                  refine AllReadyH.cons rfl (fun K hK => ?_) ?_
                  · rw [if_pos (by rfl)]
                    refine wp_append_lies _ (.tmp 57) (.tmp 64) 42 rfl (w.heap.size + 3) 45 i45 _ 8 136 Tryd.underlying42 ih45 jz0 jz1 jz2 rfl (by decide) v i xk' (by rfl) (own_blw (own_blw (own_blw OK.out HDR.out) HB8.out) (Joins.below_alloc1 _ _)) ⟨_, 0, none⟩ 1 1 [.int .i64 k2, .int .i64 xa2, .string xs2, .int .i64 xm2, .slice j4 p4 q4, .slice j5 p5 q5, .slice j6 p6 q6, .slice j7 p7 q7] (by rfl) rfl (World.news_of_block (heap_alloc_new _ _)) (by simp [Value.oneCell']) (by decide) (by unfold maxLen; omega) (by omega) (by simp; have := HF8.out.size; omega) _ rfl ?_
                    intro q9 cap9 w9 ho hg hat hlt9
                    have HF9 := Hid.mk (HF8a.out.grown hg (fun j e => (OK.out.lt j e).1))
                    have fby : w9.cell? ⟨w.heap.size, 6, none⟩ = some (.slice (some ⟨g, off, none⟩) n6 z6) := (HF9.out.b.cell 6).trans Q.out.2.2.1
                    have fb0 : w9.cell? ⟨g, off + i * 8, none⟩ = some (.int .i64 kk) := (cell_same HF9.out.blw HF.out.blw hgw).trans d0
                    have fb1 : w9.cell? ⟨g, off + i * 8 + 1, none⟩ = some (.int .i64 ka) := (cell_same HF9.out.blw HF.out.blw hgw).trans d1
                    have fb2 : w9.cell? ⟨g, off + i * 8 + 2, none⟩ = some (.string ks') := (cell_same HF9.out.blw HF.out.blw hgw).trans d2
                    have fb3 : w9.cell? ⟨g, off + i * 8 + 3, none⟩ = some (.int .i64 km) := (cell_same HF9.out.blw HF.out.blw hgw).trans d3
                    have fb4 : w9.cell? ⟨g, off + i * 8 + 4, none⟩ = some (.slice i4 l4 y4) := (cell_same HF9.out.blw HF.out.blw hgw).trans d4
                    have fb5 : w9.cell? ⟨g, off + i * 8 + 5, none⟩ = some (.slice i5 l5 y5') := (cell_same HF9.out.blw HF.out.blw hgw).trans d5
                    have fb6 : w9.cell? ⟨g, off + i * 8 + 6, none⟩ = some (.slice i6 l6 y6') := (cell_same HF9.out.blw HF.out.blw hgw).trans d6
                    have fb7 : w9.cell? ⟨g, off + i * 8 + 7, none⟩ = some (.slice i7 l7 y7) := (cell_same HF9.out.blw HF.out.blw hgw).trans d7
                    have x9 : w9.cell? ⟨w.heap.size + 1 + 1, 6, none⟩ = some v := HF9.out.x.cell 6
                    have xz9 := HF9.out.x.z 6
                    have HO9 := Hid.mk (And.intro ho (And.intro hg hat))
                    clear ho hg hat hlt9
                    refine hK.out _ _ ?_ (fun hHeld => ?_)
                    · try dsimp only
                      go_keep
                    clear hK K
                    try simp only [Act.put, List.setIfInBounds_toArray, List.set_cons_zero, List.set_cons_succ]
                    refine wpAnyH_take (i := 10) (v := ?_) rfl (by kernel_rfl) (by kernel_rfl) (by kernel_rfl) (fun _ _ _ h => h) (Or.inl ⟨by rfl, ?_⟩) (by assumption) ?_
                    rotate_left
                    · intro w' hSw
                      try dsimp only at hSw
                      go_simp
                      try with_reducible rfl
                    try simp only [Act.put, List.setIfInBounds_toArray, List.set_cons_zero, List.set_cons_succ]
                    refine wpAnyH_ready (rs := [11]) (by kernel_rfl) (by simp) ?_
                    refine AllReadyH.cons rfl (fun K hK => ?_) ?_
                    · go_simp
                      refine hK.out _ _ ?_ (fun hHeld => ?_)
                      · try dsimp only
                        exact ⟨((HF9.out.store 6 _).b.cell 6).trans Q.out.2.2.1, (cell_same (HF9.out.store 6 _).blw HF.out.blw hgw).trans d0, (cell_same (HF9.out.store 6 _).blw HF.out.blw hgw).trans d1, (cell_same (HF9.out.store 6 _).blw HF.out.blw hgw).trans d2, (cell_same (HF9.out.store 6 _).blw HF.out.blw hgw).trans d3, (cell_same (HF9.out.store 6 _).blw HF.out.blw hgw).trans d4, (cell_same (HF9.out.store 6 _).blw HF.out.blw hgw).trans d5, (cell_same (HF9.out.store 6 _).blw HF.out.blw hgw).trans d6, (cell_same (HF9.out.store 6 _).blw HF.out.blw hgw).trans d7⟩
                      clear hK K
                      try simp only [Act.put, List.setIfInBounds_toArray, List.set_cons_zero, List.set_cons_succ]
                      refine wpAnyH_done (by kernel_rfl) ?_ _
                      go_wp2
                      have ST := kid_step (X := w.heap.size + 1 + 1) (z := w.heap.size + 3) (j := 6) (u := .slice (some ⟨q9, 0, none⟩) (i + 1) cap9) (cap := cap9) (by omega) HF.out.drew.size HB8.out (Joins.below_alloc1 w8 _) HO9.out.2.1 HO9.out.2.2 (own_blw OK.out HDR.out) (isEs_keeps (inz_below HDR.out) _ _ IK.out) HI8.out
                      rw [← HTK.out] at ST
                      have KD : Keeps (inz (w.heap.size + 3) wr v) (inz (w.heap.size + 3) (w9.setCell ⟨w.heap.size + 1 + 1, 6, none⟩ (.slice (some ⟨q9, 0, none⟩) (i + 1) cap9)) (.slice (some ⟨q9, 0, none⟩) (i + 1) cap9)) wr _ := keeps_trans (inz_below HDR.out) ST.2
                      exact ⟨⟨i + 1, .slice (some ⟨q9, 0, none⟩) (i + 1) cap9, xk' ++ [.int .i64 k2, .int .i64 xa2, .string xs2, .int .i64 xm2, .slice j4 p4 q4, .slice j5 p5 q5, .slice j6 p6 q6, .slice j7 p7 q7], by go_num, by omega, ⟨HF9.out.store 6 _⟩, ⟨own_set HO9.out.1 6 _⟩, ⟨ST.1⟩, ⟨I4.out.keeps KD⟩, ⟨⟨I5.out.1.keeps KD, isBs_keeps KD _ _ I5.out.2⟩⟩⟩, by simp [intOf]; omega⟩
                    exact AllReadyH.nil
                  exact AllReadyH.nil
                exact AllReadyH.nil
              exact AllReadyH.nil
            refine AllReadyH.cons rfl (fun K hK => ?_) ?_
            · go_simp
              go_at_call 29
              refine TK.mono ?_
              rintro e w8 ⟨B8, c', rfl, I8⟩
              obtain ⟨k2, xa2, xm2, xs2, j4, j5, j6, j7, p4, p5, p6, p7, q4, q5, q6, q7, rfl⟩ := isE_eight I8
              have HF8 := Hid.mk (HF.out.drew.below B8)
              have HB8 := Hid.mk B8
              have HI8 := Hid.mk I8
              have x68 : w8.cell? ⟨w.heap.size + 1 + 1, 6, none⟩ = some v := HF8.out.x.cell 6
              have HF8a := Hid.mk (HF8.out.alloc (.cells #[.int .i64 k2, .int .i64 xa2, .string xs2, .int .i64 xm2, .slice j4 p4 q4, .slice j5 p5 q5, .slice j6 p6 q6, .slice j7 p7 q7] 45))
              have x68a : (w8.alloc (.cells #[.int .i64 k2, .int .i64 xa2, .string xs2, .int .i64 xm2, .slice j4 p4 q4, .slice j5 p5 q5, .slice j6 p6 q6, .slice j7 p7 q7] 45)).cell? ⟨w.heap.size + 1 + 1, 6, none⟩ = some v := HF8a.out.x.cell 6
              have fy : w8.cell? ⟨w.heap.size, 6, none⟩ = some (.slice (some ⟨g, off, none⟩) n6 z6) := (HF8.out.b.cell 6).trans Q.out.2.2.1
              have f0 : w8.cell? ⟨g, off + i * 8, none⟩ = some (.int .i64 kk) := (cell_same HF8.out.blw HF.out.blw hgw).trans d0
              have f1 : w8.cell? ⟨g, off + i * 8 + 1, none⟩ = some (.int .i64 ka) := (cell_same HF8.out.blw HF.out.blw hgw).trans d1
              have f2 : w8.cell? ⟨g, off + i * 8 + 2, none⟩ = some (.string ks') := (cell_same HF8.out.blw HF.out.blw hgw).trans d2
              have f3 : w8.cell? ⟨g, off + i * 8 + 3, none⟩ = some (.int .i64 km) := (cell_same HF8.out.blw HF.out.blw hgw).trans d3
              have f4 : w8.cell? ⟨g, off + i * 8 + 4, none⟩ = some (.slice i4 l4 y4) := (cell_same HF8.out.blw HF.out.blw hgw).trans d4
              have f5 : w8.cell? ⟨g, off + i * 8 + 5, none⟩ = some (.slice i5 l5 y5') := (cell_same HF8.out.blw HF.out.blw hgw).trans d5
              have f6 : w8.cell? ⟨g, off + i * 8 + 6, none⟩ = some (.slice i6 l6 y6') := (cell_same HF8.out.blw HF.out.blw hgw).trans d6
              have f7 : w8.cell? ⟨g, off + i * 8 + 7, none⟩ = some (.slice i7 l7 y7) := (cell_same HF8.out.blw HF.out.blw hgw).trans d7
              have fay : (w8.alloc (.cells #[.int .i64 k2, .int .i64 xa2, .string xs2, .int .i64 xm2, .slice j4 p4 q4, .slice j5 p5 q5, .slice j6 p6 q6, .slice j7 p7 q7] 45)).cell? ⟨w.heap.size, 6, none⟩ = some (.slice (some ⟨g, off, none⟩) n6 z6) := (HF8a.out.b.cell 6).trans Q.out.2.2.1
              have fa0 : (w8.alloc (.cells #[.int .i64 k2, .int .i64 xa2, .string xs2, .int .i64 xm2, .slice j4 p4 q4, .slice j5 p5 q5, .slice j6 p6 q6, .slice j7 p7 q7] 45)).cell? ⟨g, off + i * 8, none⟩ = some (.int .i64 kk) := (cell_same HF8a.out.blw HF.out.blw hgw).trans d0
              have fa1 : (w8.alloc (.cells #[.int .i64 k2, .int .i64 xa2, .string xs2, .int .i64 xm2, .slice j4 p4 q4, .slice j5 p5 q5, .slice j6 p6 q6, .slice j7 p7 q7] 45)).cell? ⟨g, off + i * 8 + 1, none⟩ = some (.int .i64 ka) := (cell_same HF8a.out.blw HF.out.blw hgw).trans d1
              have fa2 : (w8.alloc (.cells #[.int .i64 k2, .int .i64 xa2, .string xs2, .int .i64 xm2, .slice j4 p4 q4, .slice j5 p5 q5, .slice j6 p6 q6, .slice j7 p7 q7] 45)).cell? ⟨g, off + i * 8 + 2, none⟩ = some (.string ks') := (cell_same HF8a.out.blw HF.out.blw hgw).trans d2
              have fa3 : (w8.alloc (.cells #[.int .i64 k2, .int .i64 xa2, .string xs2, .int .i64 xm2, .slice j4 p4 q4, .slice j5 p5 q5, .slice j6 p6 q6, .slice j7 p7 q7] 45)).cell? ⟨g, off + i * 8 + 3, none⟩ = some (.int .i64 km) := (cell_same HF8a.out.blw HF.out.blw hgw).trans d3
              have fa4 : (w8.alloc (.cells #[.int .i64 k2, .int .i64 xa2, .string xs2, .int .i64 xm2, .slice j4 p4 q4, .slice j5 p5 q5, .slice j6 p6 q6, .slice j7 p7 q7] 45)).cell? ⟨g, off + i * 8 + 4, none⟩ = some (.slice i4 l4 y4) := (cell_same HF8a.out.blw HF.out.blw hgw).trans d4
              have fa5 : (w8.alloc (.cells #[.int .i64 k2, .int .i64 xa2, .string xs2, .int .i64 xm2, .slice j4 p4 q4, .slice j5 p5 q5, .slice j6 p6 q6, .slice j7 p7 q7] 45)).cell? ⟨g, off + i * 8 + 5, none⟩ = some (.slice i5 l5 y5') := (cell_same HF8a.out.blw HF.out.blw hgw).trans d5
              have fa6 : (w8.alloc (.cells #[.int .i64 k2, .int .i64 xa2, .string xs2, .int .i64 xm2, .slice j4 p4 q4, .slice j5 p5 q5, .slice j6 p6 q6, .slice j7 p7 q7] 45)).cell? ⟨g, off + i * 8 + 6, none⟩ = some (.slice i6 l6 y6') := (cell_same HF8a.out.blw HF.out.blw hgw).trans d6
              have fa7 : (w8.alloc (.cells #[.int .i64 k2, .int .i64 xa2, .string xs2, .int .i64 xm2, .slice j4 p4 q4, .slice j5 p5 q5, .slice j6 p6 q6, .slice j7 p7 q7] 45)).cell? ⟨g, off + i * 8 + 7, none⟩ = some (.slice i7 l7 y7) := (cell_same HF8a.out.blw HF.out.blw hgw).trans d7
              clear B8 I8
              refine hK.out _ _ ?_ (fun hHeld => ?_)
              · try dsimp only
                go_keep
              clear hK K
              try simp only [Act.put, List.setIfInBounds_toArray, List.set_cons_zero, List.set_cons_succ]
              refine wpAnyH_ready (rs := [1, 8]) (by kernel_rfl) (by simp) ?_
              refine AllReadyH.cons rfl (fun K hK => ?_) ?_
              · go_simp
                refine hK.out _ _ ?_ (fun hHeld => ?_)
                · try dsimp only
                  go_keep
                clear hK K
                try simp only [Act.put, List.setIfInBounds_toArray, List.set_cons_zero, List.set_cons_succ]
                refine wpAnyH_ready (rs := [8]) (by kernel_rfl) (by simp) ?_
                refine AllReadyH.cons rfl (fun K hK => ?_) ?_
                · go_simp
                  refine hK.out _ _ ?_ (fun hHeld => ?_)
                  · try dsimp only
                    go_keep
                  clear hK K
                  try simp only [Act.put, List.setIfInBounds_toArray, List.set_cons_zero, List.set_cons_succ]
                  refine wpAnyH_ready (rs := [9]) (by kernel_rfl) (by simp) ?_
                  refine AllReadyH.cons rfl (fun K hK => ?_) ?_
                  · rw [if_pos (by rfl)]
                    refine wp_append_lies _ (.tmp 57) (.tmp 64) 42 rfl (w.heap.size + 3) 45 i45 _ 8 136 Tryd.underlying42 ih45 jz0 jz1 jz2 rfl (by decide) v i xk' (by rfl) (own_blw (own_blw (own_blw OK.out HDR.out) HB8.out) (Joins.below_alloc1 _ _)) ⟨_, 0, none⟩ 1 1 [.int .i64 k2, .int .i64 xa2, .string xs2, .int .i64 xm2, .slice j4 p4 q4, .slice j5 p5 q5, .slice j6 p6 q6, .slice j7 p7 q7] (by rfl) rfl (World.news_of_block (heap_alloc_new _ _)) (by simp [Value.oneCell']) (by decide) (by unfold maxLen; omega) (by omega) (by simp; have := HF8.out.size; omega) _ rfl ?_
                    intro q9 cap9 w9 ho hg hat hlt9
                    have HF9 := Hid.mk (HF8a.out.grown hg (fun j e => (OK.out.lt j e).1))
                    have fby : w9.cell? ⟨w.heap.size, 6, none⟩ = some (.slice (some ⟨g, off, none⟩) n6 z6) := (HF9.out.b.cell 6).trans Q.out.2.2.1
                    have fb0 : w9.cell? ⟨g, off + i * 8, none⟩ = some (.int .i64 kk) := (cell_same HF9.out.blw HF.out.blw hgw).trans d0
                    have fb1 : w9.cell? ⟨g, off + i * 8 + 1, none⟩ = some (.int .i64 ka) := (cell_same HF9.out.blw HF.out.blw hgw).trans d1
                    have fb2 : w9.cell? ⟨g, off + i * 8 + 2, none⟩ = some (.string ks') := (cell_same HF9.out.blw HF.out.blw hgw).trans d2
                    have fb3 : w9.cell? ⟨g, off + i * 8 + 3, none⟩ = some (.int .i64 km) := (cell_same HF9.out.blw HF.out.blw hgw).trans d3
                    have fb4 : w9.cell? ⟨g, off + i * 8 + 4, none⟩ = some (.slice i4 l4 y4) := (cell_same HF9.out.blw HF.out.blw hgw).trans d4
                    have fb5 : w9.cell? ⟨g, off + i * 8 + 5, none⟩ = some (.slice i5 l5 y5') := (cell_same HF9.out.blw HF.out.blw hgw).trans d5
                    have fb6 : w9.cell? ⟨g, off + i * 8 + 6, none⟩ = some (.slice i6 l6 y6') := (cell_same HF9.out.blw HF.out.blw hgw).trans d6
                    have fb7 : w9.cell? ⟨g, off + i * 8 + 7, none⟩ = some (.slice i7 l7 y7) := (cell_same HF9.out.blw HF.out.blw hgw).trans d7
                    have x9 : w9.cell? ⟨w.heap.size + 1 + 1, 6, none⟩ = some v := HF9.out.x.cell 6
                    have xz9 := HF9.out.x.z 6
                    have HO9 := Hid.mk (And.intro ho (And.intro hg hat))
                    clear ho hg hat hlt9
                    refine hK.out _ _ ?_ (fun hHeld => ?_)
                    · try dsimp only
                      go_keep
                    clear hK K
                    try simp only [Act.put, List.setIfInBounds_toArray, List.set_cons_zero, List.set_cons_succ]
                    refine wpAnyH_take (i := 10) (v := ?_) rfl (by kernel_rfl) (by kernel_rfl) (by kernel_rfl) (fun _ _ _ h => h) (Or.inl ⟨by rfl, ?_⟩) (by assumption) ?_
                    rotate_left
                    · intro w' hSw
                      try dsimp only at hSw
                      go_simp
                      try with_reducible rfl
                    try simp only [Act.put, List.setIfInBounds_toArray, List.set_cons_zero, List.set_cons_succ]
                    refine wpAnyH_ready (rs := [11]) (by kernel_rfl) (by simp) ?_
                    refine AllReadyH.cons rfl (fun K hK => ?_) ?_
                    · go_simp
                      refine hK.out _ _ ?_ (fun hHeld => ?_)
                      · try dsimp only
                        exact ⟨((HF9.out.store 6 _).b.cell 6).trans Q.out.2.2.1, (cell_same (HF9.out.store 6 _).blw HF.out.blw hgw).trans d0, (cell_same (HF9.out.store 6 _).blw HF.out.blw hgw).trans d1, (cell_same (HF9.out.store 6 _).blw HF.out.blw hgw).trans d2, (cell_same (HF9.out.store 6 _).blw HF.out.blw hgw).trans d3, (cell_same (HF9.out.store 6 _).blw HF.out.blw hgw).trans d4, (cell_same (HF9.out.store 6 _).blw HF.out.blw hgw).trans d5, (cell_same (HF9.out.store 6 _).blw HF.out.blw hgw).trans d6, (cell_same (HF9.out.store 6 _).blw HF.out.blw hgw).trans d7⟩
                      clear hK K
                      try simp only [Act.put, List.setIfInBounds_toArray, List.set_cons_zero, List.set_cons_succ]
                      refine wpAnyH_done (by kernel_rfl) ?_ _
                      go_wp2
                      have ST := kid_step (X := w.heap.size + 1 + 1) (z := w.heap.size + 3) (j := 6) (u := .slice (some ⟨q9, 0, none⟩) (i + 1) cap9) (cap := cap9) (by omega) HF.out.drew.size HB8.out (Joins.below_alloc1 w8 _) HO9.out.2.1 HO9.out.2.2 (own_blw OK.out HDR.out) (isEs_keeps (inz_below HDR.out) _ _ IK.out) HI8.out
                      rw [← HTK.out] at ST
                      have KD : Keeps (inz (w.heap.size + 3) wr v) (inz (w.heap.size + 3) (w9.setCell ⟨w.heap.size + 1 + 1, 6, none⟩ (.slice (some ⟨q9, 0, none⟩) (i + 1) cap9)) (.slice (some ⟨q9, 0, none⟩) (i + 1) cap9)) wr _ := keeps_trans (inz_below HDR.out) ST.2
                      exact ⟨⟨i + 1, .slice (some ⟨q9, 0, none⟩) (i + 1) cap9, xk' ++ [.int .i64 k2, .int .i64 xa2, .string xs2, .int .i64 xm2, .slice j4 p4 q4, .slice j5 p5 q5, .slice j6 p6 q6, .slice j7 p7 q7], by go_num, by omega, ⟨HF9.out.store 6 _⟩, ⟨own_set HO9.out.1 6 _⟩, ⟨ST.1⟩, ⟨I4.out.keeps KD⟩, ⟨⟨I5.out.1.keeps KD, isBs_keeps KD _ _ I5.out.2⟩⟩⟩, by simp [intOf]; omega⟩
                    exact AllReadyH.nil
                  exact AllReadyH.nil
                exact AllReadyH.nil
              refine AllReadyH.cons rfl (fun K hK => ?_) ?_
              · go_simp
                refine hK.out _ _ ?_ (fun hHeld => ?_)
                · try dsimp only
                  go_keep
                clear hK K
                try simp only [Act.put, List.setIfInBounds_toArray, List.set_cons_zero, List.set_cons_succ]
                refine wpAnyH_ready (rs := [1]) (by kernel_rfl) (by simp) ?_
                refine AllReadyH.cons rfl (fun K hK => ?_) ?_
                · go_simp
                  refine hK.out _ _ ?_ (fun hHeld => ?_)
                  · try dsimp only
                    go_keep
                  clear hK K
                  try simp only [Act.put, List.setIfInBounds_toArray, List.set_cons_zero, List.set_cons_succ]
                  refine wpAnyH_ready (rs := [9]) (by kernel_rfl) (by simp) ?_
                  refine AllReadyH.cons rfl (fun K hK => ?_) ?_
                  · rw [if_pos (by rfl)]
                    refine wp_append_lies _ (.tmp 57) (.tmp 64) 42 rfl (w.heap.size + 3) 45 i45 _ 8 136 Tryd.underlying42 ih45 jz0 jz1 jz2 rfl (by decide) v i xk' (by rfl) (own_blw (own_blw (own_blw OK.out HDR.out) HB8.out) (Joins.below_alloc1 _ _)) ⟨_, 0, none⟩ 1 1 [.int .i64 k2, .int .i64 xa2, .string xs2, .int .i64 xm2, .slice j4 p4 q4, .slice j5 p5 q5, .slice j6 p6 q6, .slice j7 p7 q7] (by rfl) rfl (World.news_of_block (heap_alloc_new _ _)) (by simp [Value.oneCell']) (by decide) (by unfold maxLen; omega) (by omega) (by simp; have := HF8.out.size; omega) _ rfl ?_
                    intro q9 cap9 w9 ho hg hat hlt9
                    have HF9 := Hid.mk (HF8a.out.grown hg (fun j e => (OK.out.lt j e).1))
                    have fby : w9.cell? ⟨w.heap.size, 6, none⟩ = some (.slice (some ⟨g, off, none⟩) n6 z6) := (HF9.out.b.cell 6).trans Q.out.2.2.1
                    have fb0 : w9.cell? ⟨g, off + i * 8, none⟩ = some (.int .i64 kk) := (cell_same HF9.out.blw HF.out.blw hgw).trans d0
                    have fb1 : w9.cell? ⟨g, off + i * 8 + 1, none⟩ = some (.int .i64 ka) := (cell_same HF9.out.blw HF.out.blw hgw).trans d1
                    have fb2 : w9.cell? ⟨g, off + i * 8 + 2, none⟩ = some (.string ks') := (cell_same HF9.out.blw HF.out.blw hgw).trans d2
                    have fb3 : w9.cell? ⟨g, off + i * 8 + 3, none⟩ = some (.int .i64 km) := (cell_same HF9.out.blw HF.out.blw hgw).trans d3
                    have fb4 : w9.cell? ⟨g, off + i * 8 + 4, none⟩ = some (.slice i4 l4 y4) := (cell_same HF9.out.blw HF.out.blw hgw).trans d4
                    have fb5 : w9.cell? ⟨g, off + i * 8 + 5, none⟩ = some (.slice i5 l5 y5') := (cell_same HF9.out.blw HF.out.blw hgw).trans d5
                    have fb6 : w9.cell? ⟨g, off + i * 8 + 6, none⟩ = some (.slice i6 l6 y6') := (cell_same HF9.out.blw HF.out.blw hgw).trans d6
                    have fb7 : w9.cell? ⟨g, off + i * 8 + 7, none⟩ = some (.slice i7 l7 y7) := (cell_same HF9.out.blw HF.out.blw hgw).trans d7
                    have x9 : w9.cell? ⟨w.heap.size + 1 + 1, 6, none⟩ = some v := HF9.out.x.cell 6
                    have xz9 := HF9.out.x.z 6
                    have HO9 := Hid.mk (And.intro ho (And.intro hg hat))
                    clear ho hg hat hlt9
                    refine hK.out _ _ ?_ (fun hHeld => ?_)
                    · try dsimp only
                      go_keep
                    clear hK K
                    try simp only [Act.put, List.setIfInBounds_toArray, List.set_cons_zero, List.set_cons_succ]
                    refine wpAnyH_take (i := 10) (v := ?_) rfl (by kernel_rfl) (by kernel_rfl) (by kernel_rfl) (fun _ _ _ h => h) (Or.inl ⟨by rfl, ?_⟩) (by assumption) ?_
                    rotate_left
                    · intro w' hSw
                      try dsimp only at hSw
                      go_simp
                      try with_reducible rfl
                    try simp only [Act.put, List.setIfInBounds_toArray, List.set_cons_zero, List.set_cons_succ]
                    refine wpAnyH_ready (rs := [11]) (by kernel_rfl) (by simp) ?_
                    refine AllReadyH.cons rfl (fun K hK => ?_) ?_
                    · go_simp
                      refine hK.out _ _ ?_ (fun hHeld => ?_)
                      · try dsimp only
                        exact ⟨((HF9.out.store 6 _).b.cell 6).trans Q.out.2.2.1, (cell_same (HF9.out.store 6 _).blw HF.out.blw hgw).trans d0, (cell_same (HF9.out.store 6 _).blw HF.out.blw hgw).trans d1, (cell_same (HF9.out.store 6 _).blw HF.out.blw hgw).trans d2, (cell_same (HF9.out.store 6 _).blw HF.out.blw hgw).trans d3, (cell_same (HF9.out.store 6 _).blw HF.out.blw hgw).trans d4, (cell_same (HF9.out.store 6 _).blw HF.out.blw hgw).trans d5, (cell_same (HF9.out.store 6 _).blw HF.out.blw hgw).trans d6, (cell_same (HF9.out.store 6 _).blw HF.out.blw hgw).trans d7⟩
                      clear hK K
                      try simp only [Act.put, List.setIfInBounds_toArray, List.set_cons_zero, List.set_cons_succ]
                      refine wpAnyH_done (by kernel_rfl) ?_ _
                      go_wp2
                      have ST := kid_step (X := w.heap.size + 1 + 1) (z := w.heap.size + 3) (j := 6) (u := .slice (some ⟨q9, 0, none⟩) (i + 1) cap9) (cap := cap9) (by omega) HF.out.drew.size HB8.out (Joins.below_alloc1 w8 _) HO9.out.2.1 HO9.out.2.2 (own_blw OK.out HDR.out) (isEs_keeps (inz_below HDR.out) _ _ IK.out) HI8.out
                      rw [← HTK.out] at ST
                      have KD : Keeps (inz (w.heap.size + 3) wr v) (inz (w.heap.size + 3) (w9.setCell ⟨w.heap.size + 1 + 1, 6, none⟩ (.slice (some ⟨q9, 0, none⟩) (i + 1) cap9)) (.slice (some ⟨q9, 0, none⟩) (i + 1) cap9)) wr _ := keeps_trans (inz_below HDR.out) ST.2
                      exact ⟨⟨i + 1, .slice (some ⟨q9, 0, none⟩) (i + 1) cap9, xk' ++ [.int .i64 k2, .int .i64 xa2, .string xs2, .int .i64 xm2, .slice j4 p4 q4, .slice j5 p5 q5, .slice j6 p6 q6, .slice j7 p7 q7], by go_num, by omega, ⟨HF9.out.store 6 _⟩, ⟨own_set HO9.out.1 6 _⟩, ⟨ST.1⟩, ⟨I4.out.keeps KD⟩, ⟨⟨I5.out.1.keeps KD, isBs_keeps KD _ _ I5.out.2⟩⟩⟩, by simp [intOf]; omega⟩
                    exact AllReadyH.nil
                  exact AllReadyH.nil
                exact AllReadyH.nil
              exact AllReadyH.nil
            exact AllReadyH.nil
          · obtain rfl : n6 = i := by omega
            have hh : ks.take n6 = ks := List.take_of_length_le (by rw [HN.out.2.2.1]; exact Nat.le_refl _)
            have IK0 := IK.out
            rw [hh] at IK0
            have J4 := Hid.mk (I4.out.keeps inz_nil)
            have J5 := Hid.mk (And.intro (I5.out.1.keeps inz_nil) (isBs_keeps inz_nil _ _ I5.out.2))
            have J6 := Hid.mk (And.intro (rowz_nil OK.out b6.2) (isEs_keeps inz_nil _ _ IK0))
            clear hh IK0 I4 I5 IK OK hlt hi b6
            generalize v = v6 at *
            obtain ⟨i92, ih92, kz0, kz1, kz2⟩ := info_parts info92
            go_wp2
            obtain ⟨wq, hwq⟩ : ∃ x, x = wr := ⟨_, rfl⟩
            rw [← hwq] at HF J4 J5 J6 y6
            go_loopw [6] (fun c wr => ∃ (i : Nat) (v : Value) (xa' : List Value), c = .int .i64 i ∧ i ≤ n7 ∧ Hid (Xs w wr cB #[.int .i64 k, .int .i64 a, .string s2, .int .i64 m, v4, .slice j5 n5 q5, v6, v]) ∧ Hid (wr.ownsRow (w.heap.size + 3) 92 13 v i xa') ∧ Hid (isAs wr (inz (w.heap.size + 3) wr v) (turnAs (al.take i)) xa') ∧ Hid (IsRow wr (inz (w.heap.size + 3) wr v) (atmC (ts.map turnT)) n4 v4) ∧ Hid (IsRow wr (inz (w.heap.size + 3) wr v) xb' n5 (.slice j5 n5 q5) ∧ isBs wr (inz (w.heap.size + 3) wr v) (turnBs bs) xb') ∧ Hid (IsRow wr (inz (w.heap.size + 3) wr v) xk' n6 v6 ∧ isEs wr (inz (w.heap.size + 3) wr v) (turnEs ks) xk')) (fun c _ => n7 - (intOf c).toNat)
            case atStart => exact ⟨0, .slice none 0 0, [], rfl, Nat.zero_le _, by rw [← hwq]; exact HF, ⟨World.ownsRow_nil _ _ _ _⟩, ⟨by rw [List.take_zero]; simp only [turnAs, isAs]⟩, by rw [← hwq]; exact J4, by rw [← hwq]; exact J5, by rw [← hwq]; exact J6⟩
            case round =>
              clear HF J4 J5 J6 y6 hwq
              obtain ⟨i, v, xa', rfl, hi, HF, OA, IA, I4, I5, I6⟩ := hrel
              have y7 : wr.cell? ⟨w.heap.size, 7, none⟩ = some (.slice h7 n7 z7) := (HF.out.b.cell 7).trans Q.out.2.2.2
              by_cases hlt : i < n7
              · have kl : i < al.length := by rw [HN.out.2.2.2]; exact hlt
                obtain ⟨_, _, e, _, hx⟩ := HALL.out.2.2.2.2.2.1
                simp only [Value.slice.injEq] at e
                obtain ⟨rfl, _, rfl⟩ := e
                obtain ⟨g, off, rfl, hgw, hx⟩ := hx (by omega)
                obtain ⟨dd, hd, hgd⟩ := isAs_get al xa HALL.out.2.2.2.2.2.2 i kl
                have hm := List.getElem_mem kl
                have hwa := wtAs_get al _ hm
                have hbd := HIH.out.2.2 _ hm
                have HTK0 := turnAs_take al i kl
                generalize al[i]'kl = alt at *
                obtain ⟨ak, aa, anm, am, vs, y, hA, zA, k1, xa1, xm, xs, r4, r5, r6, r7, o4, o5, o6, o7, t4, t5, t6, t7, rfl, rfl, RA, IE⟩ := isA_opened hd
                have bl : ∀ (j : Nat) (u : Value), [.int .i64 ak, .int .i64 aa, .string (str anm), .int .i64 am, .slice hA vs.length zA, .int .i64 k1, .int .i64 xa1, .string xs, .int .i64 xm, .slice r4 o4 t4, .slice r5 o5 t5, .slice r6 o6 t6, .slice r7 o7 t7][j]? = some u → wr.cell? ⟨g, off + i * 13 + j, none⟩ = some u := fun j u hj => by
                  have h0 := hx _ _ (hgd j u hj)
                  rw [← Nat.add_assoc] at h0
                  exact (HF.out.blw.cell (World.block_lt_of_cell? _ _ h0)).trans h0
                have c0 := bl 0 _ rfl
                have c1 := bl 1 _ rfl
                have c2 := bl 2 _ rfl
                have c3 := bl 3 _ rfl
                have c4 := bl 4 _ rfl
                have c5 := bl 5 _ rfl
                have c6 := bl 6 _ rfl
                have c7 := bl 7 _ rfl
                have c8 := bl 8 _ rfl
                have c9 := bl 9 _ rfl
                have c10 := bl 10 _ rfl
                have c11 := bl 11 _ rfl
                have c12 := bl 12 _ rfl
                rw [Nat.add_zero] at c0
                simp only [wtA] at hwa
                have hwt := HW.out
                have HTE := Hid.mk (show TE y from hbd)
                have HAL := Hid.mk (fun (W : World) (R : IsRow W (all W) (strC vs) vs.length (.slice hA vs.length zA)) => turnall_any vs _ R (fun s hs => by have := wtN_mem hs; omega))
                have hla := RA.choose_spec.choose_spec.2.1.2
                have HRA := Hid.mk (And.intro RA IE)
                have hlt' : (i : Int) < n7 := by omega
                have hzz := HF.out.size
                have HM : Hid (i + 1 ≤ maxLen ∧ (i + 1) * 200 ≤ 140737488355328) := ⟨by unfold maxLen; omega, by omega⟩
                obtain ⟨s3, hs3⟩ : ∃ s, s = str (if ak = 3 then turn anm else anm) := ⟨_, rfl⟩
                have HS3 := Hid.mk hs3
                have HTK : Hid (turnAs (al.take (i + 1)) = turnAs (al.take i) ++ [.mk ak aa (if ak = 3 then turn anm else anm) am (vs.map turn) (turnE y)]) := ⟨by rw [HTK0]; rfl⟩
                have TC := turned_any anm (by omega) (wr.alloc (.cells #[.int .i64 ak, .int .i64 aa, .string (str anm), .int .i64 am, .slice hA vs.length zA, .int .i64 k1, .int .i64 xa1, .string xs, .int .i64 xm, .slice r4 o4 t4, .slice r5 o5 t5, .slice r6 o6 t6, .slice r7 o7 t7] 92))
                generalize hnA : vs.length = nA at *
                have HNA := Hid.mk hnA
                have XW : Bx (wr.alloc (.cells #[.int .i64 ak, .int .i64 aa, .string (str anm), .int .i64 am, .slice hA nA zA, .int .i64 k1, .int .i64 xa1, .string xs, .int .i64 xm, .slice r4 o4 t4, .slice r5 o5 t5, .slice r6 o6 t6, .slice r7 o7 t7] 92)) wr.heap.size #[.int .i64 ak, .int .i64 aa, .string (str anm), .int .i64 am, .slice hA nA zA, .int .i64 k1, .int .i64 xa1, .string xs, .int .i64 xm, .slice r4 o4 t4, .slice r5 o5 t5, .slice r6 o6 t6, .slice r7 o7 t7] 92 := heap_alloc_new wr _
                have yy0 := XW.cell 0
                have yy2 := XW.cell 2
                have xx2 := XW.z 2
                have X1 : Bx (wr.alloc (.cells #[.int .i64 ak, .int .i64 aa, .string s3, .int .i64 am, .slice hA nA zA, .int .i64 k1, .int .i64 xa1, .string xs, .int .i64 xm, .slice r4 o4 t4, .slice r5 o5 t5, .slice r6 o6 t6, .slice r7 o7 t7] 92)) wr.heap.size #[.int .i64 ak, .int .i64 aa, .string s3, .int .i64 am, .slice hA nA zA, .int .i64 k1, .int .i64 xa1, .string xs, .int .i64 xm, .slice r4 o4 t4, .slice r5 o5 t5, .slice r6 o6 t6, .slice r7 o7 t7] 92 := heap_alloc_new wr _
                have yy4 := X1.cell 4
                have xx4 := X1.z 4
                have yy0' := X1.cell 0
                have HX1 := Hid.mk X1
                have HB1 := Hid.mk (Joins.below_alloc1 wr (.cells #[.int .i64 ak, .int .i64 aa, .string s3, .int .i64 am, .slice hA nA zA, .int .i64 k1, .int .i64 xa1, .string xs, .int .i64 xm, .slice r4 o4 t4, .slice r5 o5 t5, .slice r6 o6 t6, .slice r7 o7 t7] 92))
                have HF1 := Hid.mk (HF.out.alloc (.cells #[.int .i64 ak, .int .i64 aa, .string s3, .int .i64 am, .slice hA nA zA, .int .i64 k1, .int .i64 xa1, .string xs, .int .i64 xm, .slice r4 o4 t4, .slice r5 o5 t5, .slice r6 o6 t6, .slice r7 o7 t7] 92))
                have C28 := HAL.out _ (HRA.out.1.keeps (keeps_all (blw_below HF.out.blw HB1.out)))
                clear hx hd hgd bl hm hwa hbd HTK0 RA IE hnA XW X1 HAL
                by_cases hk3 : ak = 3
                · have q3 : (ak == 3) = true := beq_iff_eq.2 hk3
                  rw [if_pos hk3] at hs3
                  rw [← hs3] at TC
                  clear hs3 hk3
                  go_wp2_with (first
                    | (at_builtin; (refine wpList_append_G rfl (.tmp 95) (.tmp 97) 43 rfl (w.heap.size + 3) 92 i92 _ 13 200 Tryd.underlying43 ih92 kz0 kz1 kz2 rfl (by decide) v i xa' rfl (own_blw OA.out HB5.out) ⟨w5.heap.size, 0, none⟩ 1 [.int .i64 ak, .int .i64 aa, .string s3, .int .i64 am, .slice gA nA cA, .int .i64 k2, .int .i64 xa2, .string xs2, .int .i64 xm2, .slice u4 p4 w4', .slice u5 p5 w5', .slice u6 p6 w6', .slice u7 p7 w7'] rfl rfl (World.news_of_block (heap_alloc_new _ _)) (by simp [Value.oneCell']) HM.out.1 HM.out.2 HZ5.out ?_); intro q9 cap9 w6 O6 G6 A6; have H6 := Hid.mk (And.intro O6 (And.intro G6 A6)); have HF6 := Hid.mk ((HF5.out.alloc (.cells #[.int .i64 ak, .int .i64 aa, .string s3, .int .i64 am, .slice gA nA cA, .int .i64 k2, .int .i64 xa2, .string xs2, .int .i64 xm2, .slice u4 p4 w4', .slice u5 p5 w5', .slice u6 p6 w6', .slice u7 p7 w7'] 92)).grown G6 (fun j e => (OA.out.lt j e).1)); have xx7 := HF6.out.x.cell 7; have xxz7 := HF6.out.x.z 7; clear O6 G6 A6)
                    | (refine wpList_load_row rfl 92 _ rfl wr.heap.size rfl 92 _ (0, 0) _ HX5.out Tryd.underlying92 rfl size92b ?_)
                    | ((refine wpList_store_mid rfl 45 _ _ rfl wr.heap.size 5 #[.int .i64 k2, .int .i64 xa2, .string xs2, .int .i64 xm2, .slice u4 p4 w4', .slice u5 p5 w5', .slice u6 p6 w6', .slice u7 p7 w7'] rfl rfl (HX4.out.there 5 8 (Nat.le_refl 13)) size45b (by simp [Value.oneCell']) ?_); have HX5 := Hid.mk (HX4.out.mid13 (.int .i64 k2) (.int .i64 xa2) (.string xs2) (.int .i64 xm2) (.slice u4 p4 w4') (.slice u5 p5 w5') (.slice u6 p6 w6') (.slice u7 p7 w7')); have HG5 := Hid.mk (grown_setCells w4 wr.heap.size 5 [.int .i64 k2, .int .i64 xa2, .string xs2, .int .i64 xm2, .slice u4 p4 w4', .slice u5 p5 w5', .slice u6 p6 w6', .slice u7 p7 w7']); have e5 : (#[.int .i64 k2, .int .i64 xa2, .string xs2, .int .i64 xm2, .slice u4 p4 w4', .slice u5 p5 w5', .slice u6 p6 w6', .slice u7 p7 w7'] : Array Value).toList = [.int .i64 k2, .int .i64 xa2, .string xs2, .int .i64 xm2, .slice u4 p4 w4', .slice u5 p5 w5', .slice u6 p6 w6', .slice u7 p7 w7'] := rfl; rw [e5]; clear e5; have HF5 := Hid.mk (HF4.out.grown HG5.out (fun i e => by cases e; exact hzz)); generalize (w4.setCells wr.heap.size 5 [.int .i64 k2, .int .i64 xa2, .string xs2, .int .i64 xm2, .slice u4 p4 w4', .slice u5 p5 w5', .slice u6 p6 w6', .slice u7 p7 w7']) = w5 at HX5 HG5 HF5 ⊢; have HB5 := Hid.mk (blw_below (blw_grown HB4.out HG5.out (fun i e => by cases e; exact Nat.le_refl _)) (Joins.below_alloc1 w5 (.cells #[.int .i64 ak, .int .i64 aa, .string s3, .int .i64 am, .slice gA nA cA, .int .i64 k2, .int .i64 xa2, .string xs2, .int .i64 xm2, .slice u4 p4 w4', .slice u5 p5 w5', .slice u6 p6 w6', .slice u7 p7 w7'] 92))); have HU5 := Hid.mk (And.intro ((HU3.out.grown HG5.out (fun i e => by cases e; exact Nat.lt_succ_self _)).alloc (.cells #[.int .i64 ak, .int .i64 aa, .string s3, .int .i64 am, .slice gA nA cA, .int .i64 k2, .int .i64 xa2, .string xs2, .int .i64 xm2, .slice u4 p4 w4', .slice u5 p5 w5', .slice u6 p6 w6', .slice u7 p7 w7'] 92)) (((Up.refl (wr.heap.size + 1) w4).grown HG5.out (fun i e => by cases e; exact Nat.lt_succ_self _)).alloc (.cells #[.int .i64 ak, .int .i64 aa, .string s3, .int .i64 am, .slice gA nA cA, .int .i64 k2, .int .i64 xa2, .string xs2, .int .i64 xm2, .slice u4 p4 w4', .slice u5 p5 w5', .slice u6 p6 w6', .slice u7 p7 w7'] 92))); have HZ5 := Hid.mk (Nat.le_trans hzz HB5.out.size); have x75 := HF5.out.x.cell 7)
                    | (go_at_call 27; refine TC.mono ?_; rintro e w9 ⟨rfl, h9⟩; obtain rfl := h9.symm; clear TC)
                    | (go_at_call 29; refine C29.mono ?_; rintro e w4 ⟨B4, c', rfl, I4'⟩; obtain ⟨k2, xa2, xm2, xs2, u4, u5, u6, u7, p4, p5, p6, p7, w4', w5', w6', w7', rfl⟩ := isE_eight I4'; have HX4 := Hid.mk (HX3.out.later B4); have HB4 := Hid.mk (blw_below HB3.out B4); have HF4 := Hid.mk (HF3.out.below B4); have HU3 := Hid.mk ((((Up.refl (wr.heap.size + 1) _).set (Nat.lt_succ_self _) 4 (.slice gA nA cA)).below B4)); have HI4 := Hid.mk I4'; clear B4 I4' C29 rr5 rr6 rr7 rr8 rr9 rr10 rr11 rr12 x2' y2')
                    | (go_at_call 28; refine C28.mono ?_; rintro e w3 ⟨v3, rfl, B3, N3⟩; obtain ⟨gA, cA, e3⟩ := N3.slice; rw [List.length_map, HNA.out] at e3; subst e3; have X3 := HX1.out.later B3; have x2' := X3.z 4; have y2' := X3.cell 4; have X3p := X3.store 4 (.slice gA nA cA); have rr5 : (w3.setCell ⟨wr.heap.size, 4, none⟩ (.slice gA nA cA)).cell? ⟨wr.heap.size, 5, none⟩ = some (.int .i64 k1) := X3p.cell 5; have rr6 : (w3.setCell ⟨wr.heap.size, 4, none⟩ (.slice gA nA cA)).cell? ⟨wr.heap.size, 6, none⟩ = some (.int .i64 xa1) := X3p.cell 6; have rr7 : (w3.setCell ⟨wr.heap.size, 4, none⟩ (.slice gA nA cA)).cell? ⟨wr.heap.size, 7, none⟩ = some (.string xs) := X3p.cell 7; have rr8 : (w3.setCell ⟨wr.heap.size, 4, none⟩ (.slice gA nA cA)).cell? ⟨wr.heap.size, 8, none⟩ = some (.int .i64 xm) := X3p.cell 8; have rr9 : (w3.setCell ⟨wr.heap.size, 4, none⟩ (.slice gA nA cA)).cell? ⟨wr.heap.size, 9, none⟩ = some (.slice r4 o4 t4) := X3p.cell 9; have rr10 : (w3.setCell ⟨wr.heap.size, 4, none⟩ (.slice gA nA cA)).cell? ⟨wr.heap.size, 10, none⟩ = some (.slice r5 o5 t5) := X3p.cell 10; have rr11 : (w3.setCell ⟨wr.heap.size, 4, none⟩ (.slice gA nA cA)).cell? ⟨wr.heap.size, 11, none⟩ = some (.slice r6 o6 t6) := X3p.cell 11; have rr12 : (w3.setCell ⟨wr.heap.size, 4, none⟩ (.slice gA nA cA)).cell? ⟨wr.heap.size, 12, none⟩ = some (.slice r7 o7 t7) := X3p.cell 12; have HX3 : Hid (Bx (w3.setCell ⟨wr.heap.size, 4, none⟩ (.slice gA nA cA)) wr.heap.size #[.int .i64 ak, .int .i64 aa, .string s3, .int .i64 am, .slice gA nA cA, .int .i64 k1, .int .i64 xa1, .string xs, .int .i64 xm, .slice r4 o4 t4, .slice r5 o5 t5, .slice r6 o6 t6, .slice r7 o7 t7] 92) := ⟨X3p⟩; have HB3 := Hid.mk (blw_set (blw_below HB1.out B3) (Nat.le_refl _) 4 (.slice gA nA cA)); have HF3 := Hid.mk ((HF1.out.below B3).grown (grown_set w3 wr.heap.size 4 (.slice gA nA cA)) (fun i e => by cases e; exact hzz)); have C29 := HTE.out _ _ (isE_keeps (keeps_all (blw_below HF.out.blw HB3.out)) _ _ HRA.out.2); have HN3 := Hid.mk N3; clear X3 X3p C28 B3 N3))
                  have hv : ∀ i, v.ownBlock = some i → i ≤ wr.heap.size := fun i e => Nat.le_of_lt (OA.out.lt i e).2
                  have K3 := keeps_inz_new (z := w.heap.size + 3) (m := i + 1) (cap := cap9) HX1.out.lt HU5.out.1 H6.out.2.1 hv H6.out.2.2 hzz
                  have K4 := keeps_inz_new (z := w.heap.size + 3) (m := i + 1) (cap := cap9) HX3.out.lt HU5.out.2 H6.out.2.1 hv H6.out.2.2 hzz
                  have K1 := keeps_inz_old (z := w.heap.size + 3) (m := i + 1) (cap := cap9) HB5.out H6.out.2.1 H6.out.2.2
                  have KS := inz_store (X := w.heap.size + 1 + 1) (z := w.heap.size + 3) (by omega) w6 (.slice (some ⟨q9, 0, none⟩) (i + 1) cap9) 7 (.slice (some ⟨q9, 0, none⟩) (i + 1) cap9)
                  have KD := keeps_trans K1 KS
                  have RN := (HN3.out.new (by rw [List.length_map, HNA.out]; exact hla)).keeps (keeps_trans K3 KS)
                  rw [List.length_map, HNA.out] at RN
                  refine ⟨⟨i + 1, .slice (some ⟨q9, 0, none⟩) (i + 1) cap9, xa' ++ [.int .i64 ak, .int .i64 aa, .string s3, .int .i64 am, .slice gA nA cA, .int .i64 k2, .int .i64 xa2, .string xs2, .int .i64 xm2, .slice u4 p4 w4', .slice u5 p5 w5', .slice u6 p6 w6', .slice u7 p7 w7'], by go_num, by omega, ⟨HF6.out.store 7 _⟩, ⟨own_set H6.out.1 7 _⟩, ⟨?_⟩, ⟨I4.out.keeps KD⟩, ⟨⟨I5.out.1.keeps KD, isBs_keeps KD _ _ I5.out.2⟩⟩, ⟨⟨I6.out.1.keeps KD, isEs_keeps KD _ _ I6.out.2⟩⟩⟩, by simp [intOf]; omega⟩
                  rw [HTK.out]
                  refine isAs_snoc _ _ _ _ (isAs_keeps KD _ _ IA.out) ?_
                  simp only [isA]
                  exact ⟨_, _, by rw [← HS3.out]; rfl, by rw [List.length_map, HNA.out]; exact RN, isE_keeps (keeps_trans K4 KS) _ _ HI4.out⟩
                · have q3 : (ak == 3) = false := beq_eq_false_iff_ne.2 hk3
                  rw [if_neg hk3] at hs3
                  rw [← hs3] at yy0 yy2 xx2 c2
                  clear hs3 hk3 TC
                  go_wp2_with (first
                    | (at_builtin; (refine wpList_append_G rfl (.tmp 95) (.tmp 97) 43 rfl (w.heap.size + 3) 92 i92 _ 13 200 Tryd.underlying43 ih92 kz0 kz1 kz2 rfl (by decide) v i xa' rfl (own_blw OA.out HB5.out) ⟨w5.heap.size, 0, none⟩ 1 [.int .i64 ak, .int .i64 aa, .string s3, .int .i64 am, .slice gA nA cA, .int .i64 k2, .int .i64 xa2, .string xs2, .int .i64 xm2, .slice u4 p4 w4', .slice u5 p5 w5', .slice u6 p6 w6', .slice u7 p7 w7'] rfl rfl (World.news_of_block (heap_alloc_new _ _)) (by simp [Value.oneCell']) HM.out.1 HM.out.2 HZ5.out ?_); intro q9 cap9 w6 O6 G6 A6; have H6 := Hid.mk (And.intro O6 (And.intro G6 A6)); have HF6 := Hid.mk ((HF5.out.alloc (.cells #[.int .i64 ak, .int .i64 aa, .string s3, .int .i64 am, .slice gA nA cA, .int .i64 k2, .int .i64 xa2, .string xs2, .int .i64 xm2, .slice u4 p4 w4', .slice u5 p5 w5', .slice u6 p6 w6', .slice u7 p7 w7'] 92)).grown G6 (fun j e => (OA.out.lt j e).1)); have xx7 := HF6.out.x.cell 7; have xxz7 := HF6.out.x.z 7; clear O6 G6 A6)
                    | (refine wpList_load_row rfl 92 _ rfl wr.heap.size rfl 92 _ (0, 0) _ HX5.out Tryd.underlying92 rfl size92b ?_)
                    | ((refine wpList_store_mid rfl 45 _ _ rfl wr.heap.size 5 #[.int .i64 k2, .int .i64 xa2, .string xs2, .int .i64 xm2, .slice u4 p4 w4', .slice u5 p5 w5', .slice u6 p6 w6', .slice u7 p7 w7'] rfl rfl (HX4.out.there 5 8 (Nat.le_refl 13)) size45b (by simp [Value.oneCell']) ?_); have HX5 := Hid.mk (HX4.out.mid13 (.int .i64 k2) (.int .i64 xa2) (.string xs2) (.int .i64 xm2) (.slice u4 p4 w4') (.slice u5 p5 w5') (.slice u6 p6 w6') (.slice u7 p7 w7')); have HG5 := Hid.mk (grown_setCells w4 wr.heap.size 5 [.int .i64 k2, .int .i64 xa2, .string xs2, .int .i64 xm2, .slice u4 p4 w4', .slice u5 p5 w5', .slice u6 p6 w6', .slice u7 p7 w7']); have e5 : (#[.int .i64 k2, .int .i64 xa2, .string xs2, .int .i64 xm2, .slice u4 p4 w4', .slice u5 p5 w5', .slice u6 p6 w6', .slice u7 p7 w7'] : Array Value).toList = [.int .i64 k2, .int .i64 xa2, .string xs2, .int .i64 xm2, .slice u4 p4 w4', .slice u5 p5 w5', .slice u6 p6 w6', .slice u7 p7 w7'] := rfl; rw [e5]; clear e5; have HF5 := Hid.mk (HF4.out.grown HG5.out (fun i e => by cases e; exact hzz)); generalize (w4.setCells wr.heap.size 5 [.int .i64 k2, .int .i64 xa2, .string xs2, .int .i64 xm2, .slice u4 p4 w4', .slice u5 p5 w5', .slice u6 p6 w6', .slice u7 p7 w7']) = w5 at HX5 HG5 HF5 ⊢; have HB5 := Hid.mk (blw_below (blw_grown HB4.out HG5.out (fun i e => by cases e; exact Nat.le_refl _)) (Joins.below_alloc1 w5 (.cells #[.int .i64 ak, .int .i64 aa, .string s3, .int .i64 am, .slice gA nA cA, .int .i64 k2, .int .i64 xa2, .string xs2, .int .i64 xm2, .slice u4 p4 w4', .slice u5 p5 w5', .slice u6 p6 w6', .slice u7 p7 w7'] 92))); have HU5 := Hid.mk (And.intro ((HU3.out.grown HG5.out (fun i e => by cases e; exact Nat.lt_succ_self _)).alloc (.cells #[.int .i64 ak, .int .i64 aa, .string s3, .int .i64 am, .slice gA nA cA, .int .i64 k2, .int .i64 xa2, .string xs2, .int .i64 xm2, .slice u4 p4 w4', .slice u5 p5 w5', .slice u6 p6 w6', .slice u7 p7 w7'] 92)) (((Up.refl (wr.heap.size + 1) w4).grown HG5.out (fun i e => by cases e; exact Nat.lt_succ_self _)).alloc (.cells #[.int .i64 ak, .int .i64 aa, .string s3, .int .i64 am, .slice gA nA cA, .int .i64 k2, .int .i64 xa2, .string xs2, .int .i64 xm2, .slice u4 p4 w4', .slice u5 p5 w5', .slice u6 p6 w6', .slice u7 p7 w7'] 92))); have HZ5 := Hid.mk (Nat.le_trans hzz HB5.out.size); have x75 := HF5.out.x.cell 7)
                    | (go_at_call 29; refine C29.mono ?_; rintro e w4 ⟨B4, c', rfl, I4'⟩; obtain ⟨k2, xa2, xm2, xs2, u4, u5, u6, u7, p4, p5, p6, p7, w4', w5', w6', w7', rfl⟩ := isE_eight I4'; have HX4 := Hid.mk (HX3.out.later B4); have HB4 := Hid.mk (blw_below HB3.out B4); have HF4 := Hid.mk (HF3.out.below B4); have HU3 := Hid.mk ((((Up.refl (wr.heap.size + 1) _).set (Nat.lt_succ_self _) 4 (.slice gA nA cA)).below B4)); have HI4 := Hid.mk I4'; clear B4 I4' C29 rr5 rr6 rr7 rr8 rr9 rr10 rr11 rr12 x2' y2')
                    | (go_at_call 28; refine C28.mono ?_; rintro e w3 ⟨v3, rfl, B3, N3⟩; obtain ⟨gA, cA, e3⟩ := N3.slice; rw [List.length_map, HNA.out] at e3; subst e3; have X3 := HX1.out.later B3; have x2' := X3.z 4; have y2' := X3.cell 4; have X3p := X3.store 4 (.slice gA nA cA); have rr5 : (w3.setCell ⟨wr.heap.size, 4, none⟩ (.slice gA nA cA)).cell? ⟨wr.heap.size, 5, none⟩ = some (.int .i64 k1) := X3p.cell 5; have rr6 : (w3.setCell ⟨wr.heap.size, 4, none⟩ (.slice gA nA cA)).cell? ⟨wr.heap.size, 6, none⟩ = some (.int .i64 xa1) := X3p.cell 6; have rr7 : (w3.setCell ⟨wr.heap.size, 4, none⟩ (.slice gA nA cA)).cell? ⟨wr.heap.size, 7, none⟩ = some (.string xs) := X3p.cell 7; have rr8 : (w3.setCell ⟨wr.heap.size, 4, none⟩ (.slice gA nA cA)).cell? ⟨wr.heap.size, 8, none⟩ = some (.int .i64 xm) := X3p.cell 8; have rr9 : (w3.setCell ⟨wr.heap.size, 4, none⟩ (.slice gA nA cA)).cell? ⟨wr.heap.size, 9, none⟩ = some (.slice r4 o4 t4) := X3p.cell 9; have rr10 : (w3.setCell ⟨wr.heap.size, 4, none⟩ (.slice gA nA cA)).cell? ⟨wr.heap.size, 10, none⟩ = some (.slice r5 o5 t5) := X3p.cell 10; have rr11 : (w3.setCell ⟨wr.heap.size, 4, none⟩ (.slice gA nA cA)).cell? ⟨wr.heap.size, 11, none⟩ = some (.slice r6 o6 t6) := X3p.cell 11; have rr12 : (w3.setCell ⟨wr.heap.size, 4, none⟩ (.slice gA nA cA)).cell? ⟨wr.heap.size, 12, none⟩ = some (.slice r7 o7 t7) := X3p.cell 12; have HX3 : Hid (Bx (w3.setCell ⟨wr.heap.size, 4, none⟩ (.slice gA nA cA)) wr.heap.size #[.int .i64 ak, .int .i64 aa, .string s3, .int .i64 am, .slice gA nA cA, .int .i64 k1, .int .i64 xa1, .string xs, .int .i64 xm, .slice r4 o4 t4, .slice r5 o5 t5, .slice r6 o6 t6, .slice r7 o7 t7] 92) := ⟨X3p⟩; have HB3 := Hid.mk (blw_set (blw_below HB1.out B3) (Nat.le_refl _) 4 (.slice gA nA cA)); have HF3 := Hid.mk ((HF1.out.below B3).grown (grown_set w3 wr.heap.size 4 (.slice gA nA cA)) (fun i e => by cases e; exact hzz)); have C29 := HTE.out _ _ (isE_keeps (keeps_all (blw_below HF.out.blw HB3.out)) _ _ HRA.out.2); have HN3 := Hid.mk N3; clear X3 X3p C28 B3 N3))
                  have hv : ∀ i, v.ownBlock = some i → i ≤ wr.heap.size := fun i e => Nat.le_of_lt (OA.out.lt i e).2
                  have K3 := keeps_inz_new (z := w.heap.size + 3) (m := i + 1) (cap := cap9) HX1.out.lt HU5.out.1 H6.out.2.1 hv H6.out.2.2 hzz
                  have K4 := keeps_inz_new (z := w.heap.size + 3) (m := i + 1) (cap := cap9) HX3.out.lt HU5.out.2 H6.out.2.1 hv H6.out.2.2 hzz
                  have K1 := keeps_inz_old (z := w.heap.size + 3) (m := i + 1) (cap := cap9) HB5.out H6.out.2.1 H6.out.2.2
                  have KS := inz_store (X := w.heap.size + 1 + 1) (z := w.heap.size + 3) (by omega) w6 (.slice (some ⟨q9, 0, none⟩) (i + 1) cap9) 7 (.slice (some ⟨q9, 0, none⟩) (i + 1) cap9)
                  have KD := keeps_trans K1 KS
                  have RN := (HN3.out.new (by rw [List.length_map, HNA.out]; exact hla)).keeps (keeps_trans K3 KS)
                  rw [List.length_map, HNA.out] at RN
                  refine ⟨⟨i + 1, .slice (some ⟨q9, 0, none⟩) (i + 1) cap9, xa' ++ [.int .i64 ak, .int .i64 aa, .string s3, .int .i64 am, .slice gA nA cA, .int .i64 k2, .int .i64 xa2, .string xs2, .int .i64 xm2, .slice u4 p4 w4', .slice u5 p5 w5', .slice u6 p6 w6', .slice u7 p7 w7'], by go_num, by omega, ⟨HF6.out.store 7 _⟩, ⟨own_set H6.out.1 7 _⟩, ⟨?_⟩, ⟨I4.out.keeps KD⟩, ⟨⟨I5.out.1.keeps KD, isBs_keeps KD _ _ I5.out.2⟩⟩, ⟨⟨I6.out.1.keeps KD, isEs_keeps KD _ _ I6.out.2⟩⟩⟩, by simp [intOf]; omega⟩
                  rw [HTK.out]
                  refine isAs_snoc _ _ _ _ (isAs_keeps KD _ _ IA.out) ?_
                  simp only [isA]
                  exact ⟨_, _, by rw [← HS3.out]; rfl, by rw [List.length_map, HNA.out]; exact RN, isE_keeps (keeps_trans K4 KS) _ _ HI4.out⟩
              · obtain rfl : n7 = i := by omega
                have hh : al.take n7 = al := List.take_of_length_le (by rw [HN.out.2.2.2]; exact Nat.le_refl _)
                have IA0 := IA.out
                rw [hh] at IA0
                have R7' := rowz_nil OA.out b7.2
                have HR7 := Hid.mk (And.intro R7' (isAs_keeps inz_nil _ _ IA0))
                have HR4 := Hid.mk (I4.out.keeps inz_nil)
                have HR5 := Hid.mk (And.intro (I5.out.1.keeps inz_nil) (isBs_keeps inz_nil _ _ I5.out.2))
                have HR6 := Hid.mk (And.intro (I6.out.1.keeps inz_nil) (isEs_keeps inz_nil _ _ I6.out.2))
                obtain ⟨a7, d7', rfl, -, -⟩ := id R7'
                obtain ⟨a6, d6', rfl, -, -⟩ := id I6.out.1
                obtain ⟨a4, d4', rfl, -, -⟩ := id I4.out
                have HFF := Hid.mk HF.out
                clear hh IA0 R7' IA I4 I5 I6 OA hi hlt
                have xq0 := HFF.out.x.cell 0
                have zc0 := HFF.out.m.cell 0
                have zz0 := HFF.out.m.z 0
                have xq1 := HFF.out.x.cell 1
                have zc1 := HFF.out.m.cell 1
                have zz1 := HFF.out.m.z 1
                have xq2 := HFF.out.x.cell 2
                have zc2 := HFF.out.m.cell 2
                have zz2 := HFF.out.m.z 2
                have xq3 := HFF.out.x.cell 3
                have zc3 := HFF.out.m.cell 3
                have zz3 := HFF.out.m.z 3
                have xq4 := HFF.out.x.cell 4
                have zc4 := HFF.out.m.cell 4
                have zz4 := HFF.out.m.z 4
                have xq5 := HFF.out.x.cell 5
                have zc5 := HFF.out.m.cell 5
                have zz5 := HFF.out.m.z 5
                have xq6 := HFF.out.x.cell 6
                have zc6 := HFF.out.m.cell 6
                have zz6 := HFF.out.m.z 6
                have xq7 := HFF.out.x.cell 7
                have zc7 := HFF.out.m.cell 7
                have zz7 := HFF.out.m.z 7
                go_wp2
                have HXM : Hid (Bx ((((((((wr.setCell ⟨w.heap.size + 1, 0, none⟩ (.int .i64 k)).setCell ⟨w.heap.size + 1, 1, none⟩ (.int .i64 a)).setCell ⟨w.heap.size + 1, 2, none⟩ (.string s2)).setCell ⟨w.heap.size + 1, 3, none⟩ (.int .i64 m)).setCell ⟨w.heap.size + 1, 4, none⟩ (.slice a4 n4 d4')).setCell ⟨w.heap.size + 1, 5, none⟩ (.slice j5 n5 q5)).setCell ⟨w.heap.size + 1, 6, none⟩ (.slice a6 n6 d6')).setCell ⟨w.heap.size + 1, 7, none⟩ (.slice a7 n7 d7')) (w.heap.size + 1) #[.int .i64 k, .int .i64 a, .string s2, .int .i64 m, .slice a4 n4 d4', .slice j5 n5 q5, .slice a6 n6 d6', .slice a7 n7 d7'] 45) := ⟨HFF.out.m.store8 (.int .i64 k) (.int .i64 a) (.string s2) (.int .i64 m) (.slice a4 n4 d4') (.slice j5 n5 q5) (.slice a6 n6 d6') (.slice a7 n7 d7')⟩
                have HG : Hid (wr.grownBy ((((((((wr.setCell ⟨w.heap.size + 1, 0, none⟩ (.int .i64 k)).setCell ⟨w.heap.size + 1, 1, none⟩ (.int .i64 a)).setCell ⟨w.heap.size + 1, 2, none⟩ (.string s2)).setCell ⟨w.heap.size + 1, 3, none⟩ (.int .i64 m)).setCell ⟨w.heap.size + 1, 4, none⟩ (.slice a4 n4 d4')).setCell ⟨w.heap.size + 1, 5, none⟩ (.slice j5 n5 q5)).setCell ⟨w.heap.size + 1, 6, none⟩ (.slice a6 n6 d6')).setCell ⟨w.heap.size + 1, 7, none⟩ (.slice a7 n7 d7')) (some (w.heap.size + 1))) := ⟨grown_setCells wr (w.heap.size + 1) 0 [.int .i64 k, .int .i64 a, .string s2, .int .i64 m, .slice a4 n4 d4', .slice j5 n5 q5, .slice a6 n6 d6', .slice a7 n7 d7']⟩
                generalize ((((((((wr.setCell ⟨w.heap.size + 1, 0, none⟩ (.int .i64 k)).setCell ⟨w.heap.size + 1, 1, none⟩ (.int .i64 a)).setCell ⟨w.heap.size + 1, 2, none⟩ (.string s2)).setCell ⟨w.heap.size + 1, 3, none⟩ (.int .i64 m)).setCell ⟨w.heap.size + 1, 4, none⟩ (.slice a4 n4 d4')).setCell ⟨w.heap.size + 1, 5, none⟩ (.slice j5 n5 q5)).setCell ⟨w.heap.size + 1, 6, none⟩ (.slice a6 n6 d6')).setCell ⟨w.heap.size + 1, 7, none⟩ (.slice a7 n7 d7')) = wz at HXM HG ⊢
                ((try simp only [Exit.inBlock, Exit.then]); refine bodyPost_ret (results_cell_row Tryd.results29 _ _ (w.heap.size + 1) 45 #[.int .i64 k, .int .i64 a, .string s2, .int .i64 m, .slice a4 n4 d4', .slice j5 n5 q5, .slice a6 n6 d6', .slice a7 n7 d7'] (0, 0) _ rfl HXM.out Tryd.underlying45 rfl size45b) rfl ?_)
                have KW := keeps_end (w := w) HG.out
                exact ⟨blw_grown HFF.out.blw HG.out (fun i e => by cases e; omega), _, _, _, _, xb', xk', xa', rfl, HR4.out.keeps KW, HR5.out.1.keeps KW, isBs_keeps KW _ _ HR5.out.2, HR6.out.1.keeps KW, isEs_keeps KW _ _ HR6.out.2, HR7.out.1.keeps KW, isAs_keeps KW _ _ HR7.out.2⟩
end Go.Proofs.YtcbdolflgpmaoaaDoor
