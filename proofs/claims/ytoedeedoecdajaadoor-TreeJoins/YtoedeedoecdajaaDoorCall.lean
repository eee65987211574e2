/- Package tree's parser: a call: a head and its atoms. -/
import Derived.Test.YtoedeedoecdajaaDoorTakes
import Derived.Deep.RegionLaw
namespace Go.Proofs.YtoedeedoecdajaaDoor
open Go.RowKit
set_option linter.unusedVariables false
set_option linter.unusedSimpArgs false

/-- a block's cells -/
def Blk (w : World) (m : Nat) (cs : Array Value) (t : TypeId) : Prop := w.heap[m]? = some (.cells cs t (0, 0))
theorem Blk.kept {w w' : World} {m : Nat} {cs : Array Value} {t : TypeId} {row : Option Nat} (h : Blk w m cs t) (k : w.grownBy w' row) (hr : row ≠ some m) : Blk w' m cs t :=
  (k.block m (Array.getElem?_eq_some_iff.1 h).1 (fun e => hr e.symm)).trans h
theorem Blk.alloc {w : World} {m : Nat} {cs : Array Value} {t : TypeId} (h : Blk w m cs t) (o : Obj) : Blk (w.alloc o) m cs t := h.kept (grown_alloc _ _) (by simp)
theorem Blk.fresh (w : World) (cs : Array Value) (t : TypeId) : Blk (w.alloc (.cells cs t)) w.heap.size cs t := heap_alloc_new w _
theorem Blk.cell {w : World} {m : Nat} {cs : Array Value} {t : TypeId} (h : Blk w m cs t) (j : Nat) : w.cell? ⟨m, j, none⟩ = cs[j]? := by
  rw [Joins.cell_of_block h]
theorem Blk.z {w : World} {m : Nat} {cs : Array Value} {t : TypeId} (h : Blk w m cs t) (j : Nat) : w.frozen? ⟨m, j, none⟩ = false := Joins.unfrozen_of_block h j
theorem Blk.lt {w : World} {m : Nat} {cs : Array Value} {t : TypeId} (h : Blk w m cs t) : m < w.heap.size := (Array.getElem?_eq_some_iff.1 h).1
abbrev nil3 : Value := .slice none 0 0
abbrev zero46 : Array Value := #[.int .i64 0, .int .i64 0, .string ⟨#[]⟩, .int .i64 0, nil3, nil3, nil3, nil3]
def isEV (w : World) (ok : Nat → Prop) (x : E) (v : Value) : Prop := ∃ c, v = .agg c.toArray ∧ isE w ok x c

/-- a thing in the making: the result's block M, its own block X, the parser -/
structure Ob (w W : World) (b M X : Nat) (n : Int) (l : List Tok) (zs : Array Value) (tM : TypeId) (cs : Array Value) (tX : TypeId) : Prop where
  rd : Rd W b l n 0
  fr : Fr b w W
  m : Blk W M zs tM
  x : Blk W X cs tX
  lo : b < w.heap.size ∧ w.heap.size ≤ M ∧ M < X
section
variable {w W W' : World} {b M X : Nat} {n : Int} {l l' : List Tok} {zs cs : Array Value} {tM tX : TypeId}
theorem Ob.kept {row : Option Nat} (h : Ob w W b M X n l zs tM cs tX) (k : W.grownBy W' row) (hr : ∀ i, row = some i → X < i) : Ob w W' b M X n l zs tM cs tX :=
  ⟨h.rd.kept k (fun i e => by have := hr i e; have := h.lo; omega), h.fr.grown k (fun i e => by have := hr i e; have := h.lo; omega), h.m.kept k (fun e => by have := hr _ e; have := h.lo; omega), h.x.kept k (fun e => by have := hr _ e; omega), h.lo⟩
theorem Ob.alloc (h : Ob w W b M X n l zs tM cs tX) (o : Obj) : Ob w (W.alloc o) b M X n l zs tM cs tX := h.kept (grown_alloc _ _) (fun i e => by cases e)
theorem Ob.drew (h : Ob w W b M X n l zs tM cs tX) : Ob w W.drew b M X n l zs tM cs tX := h.kept (grown_drew _) (fun i e => by cases e)
theorem Ob.call (h : Ob w W b M X n l zs tM cs tX) (F : Fr b W W') (R : Rd W' b l' n 0) : Ob w W' b M X n l' zs tM cs tX :=
  ⟨R, h.fr.trans F, h.m.kept F (fun e => by cases e; have := h.lo; omega), h.x.kept F (fun e => by cases e; have := h.lo; omega), h.lo⟩
theorem Ob.row {size m : Nat} {e : TypeId} {v : Value} {xs : List Value} (h : Ob w W b M X n l zs tM cs tX) (o : W.ownsRow (X + 1) e size v m xs) (k : W.grownBy W' v.ownBlock) : Ob w W' b M X n l zs tM cs tX :=
  h.kept k (fun i hi => (o.lt i hi).1)
theorem Ob.store (h : Ob w W b M X n l zs tM cs tX) (j : Nat) (v : Value) : Ob w (W.setCell ⟨X, j, none⟩ v) b M X n l zs tM (cs.setIfInBounds j v) tX :=
  have g : W.grownBy (W.setCell ⟨X, j, none⟩ v) (some X) := ⟨rfl, rfl, rfl, by simp, fun i _ hb => setCell_block _ _ _ _ (fun e => hb (by rw [e]))⟩
  ⟨h.rd.kept g (fun i e => by cases e; have := h.lo; omega), h.fr.grown g (fun i e => by cases e; have := h.lo; omega), h.m.kept g (fun e => by cases e; have := h.lo; omega), Joins.block_setCell h.x v, h.lo⟩
theorem Ob.lts (h : Ob w W b M X n l zs tM cs tX) : b < W.heap.size ∧ M < W.heap.size ∧ X < W.heap.size := ⟨h.rd.lt, h.m.lt, h.x.lt⟩
end
theorem own_store {W : World} {X size m : Nat} {e : TypeId} {v : Value} {xs : List Value} (h : W.ownsRow (X + 1) e size v m xs) (j : Nat) (u : Value) : (W.setCell ⟨X, j, none⟩ u).ownsRow (X + 1) e size v m xs :=
  ownsRow_setCell_below h (Nat.lt_succ_self _) u
theorem own_call {W W' : World} {b X size m : Nat} {e : TypeId} {v : Value} {xs : List Value} (h : W.ownsRow (X + 1) e size v m xs) (F : Fr b W W') (hb : b ≤ X) : W'.ownsRow (X + 1) e size v m xs := own_fr h F (by omega)
theorem grown_setCells (M : Nat) : ∀ (vs : List Value) (o : Nat) (w : World), w.grownBy (w.setCells M o vs) (some M)
  | [], _, w => ⟨rfl, rfl, rfl, Nat.le_refl _, fun _ _ _ => rfl⟩
  | v :: vs, o, w => by
    have h := grown_setCells M vs (o + 1) (w.setCell ⟨M, o, none⟩ v)
    exact ⟨h.os, h.tape, h.output, by have := h.size; rw [World.size_setCell] at this; exact this, fun i hi hb => (h.block i (by simpa using hi) hb).trans (setCell_block _ _ _ _ (fun e => hb (by rw [e])))⟩
theorem isRow_nil (w : World) (ok : Nat → Prop) (xs : List Value) : IsRow w ok xs 0 nil3 := ⟨none, 0, rfl, ⟨Nat.le_refl _, by decide⟩, fun z => absurd z (Nat.lt_irrefl 0)⟩
theorem own_new {w W : World} {X size m : Nat} {e : TypeId} {v : Value} {xs : List Value} (h : W.ownsRow (X + 1) e size v m xs) (hX : w.heap.size ≤ X) (hm : m ≤ 1000000000) : IsRow W (new w W) xs m v :=
  row_of_owns h (fun g hg => ⟨by have := (h.lt g hg).1; omega, (h.lt g hg).2⟩) hm
theorem own_kept {W W' : World} {X M size m : Nat} {e : TypeId} {v : Value} {xs : List Value} (h : W.ownsRow (X + 1) e size v m xs) (k : W.grownBy W' (some M)) (hM : M ≤ X) : W'.ownsRow (X + 1) e size v m xs := own_fr h k (by omega)
theorem grown_setRow (w : World) (M : Nat) (cs : Array Value) : w.grownBy (w.setRow M cs) (some M) :=
  ⟨rfl, rfl, rfl, by simp [World.setRow], fun i _ hb => by
    simp only [World.setRow, Array.getElem?_modify]
    rw [if_neg (fun e => hb (by rw [e]))]⟩
theorem Blk.set {w : World} {m : Nat} {cs cs' : Array Value} {t : TypeId} (h : Blk w m cs t) : Blk (w.setRow m cs') m cs' t := setRow_heap w m _ _ t _ h
/-- the thing is handed out: its cells go into the result's block -/
theorem Ob.out {w W : World} {b M X : Nat} {n : Int} {l : List Tok} {zs cs : Array Value} {tM tX : TypeId} (h : Ob w W b M X n l zs tM cs tX) (vs : Array Value) : Fr b w (W.setRow M vs) ∧ Rd (W.setRow M vs) b l n 0 :=
  ⟨h.fr.grown (grown_setRow W M vs) (fun i e => by cases e; exact h.lo.2.1), h.rd.kept (grown_setRow W M vs) (fun i e => by cases e; have := h.lo; omega)⟩
theorem size46 : (Tryd.prog.info? 46).map (·.size) = some 8 := by kernel_rfl
theorem own_form {W : World} {base size m : Nat} {e : TypeId} {v : Value} {xs : List Value} (h : W.ownsRow base e size v m xs) : ∃ ga cap, v = .slice ga m cap := by
  rcases h.2 with ⟨rfl, h0⟩ | ⟨g, cap, cur, rfl, _⟩
  · exact ⟨none, 0, by rw [h0]⟩
  · exact ⟨_, _, rfl⟩
theorem info84 : (Tryd.prog.info? 84).map (fun i => (i.zero, i.size, i.bytes)) = some (some (.agg #[.string ⟨#[]⟩, .int .i64 0]), 2, 24) := by kernel_rfl
theorem atmC_snoc (l : List Atm) (a : Atm) : atmC (l ++ [a]) = atmC l ++ [.string (str a.name), .int .i64 a.num] := by simp [atmC]
theorem new_two {w : World} {u v : Value} {t : TypeId} : ∀ j x, [u, v][j]? = some x → (w.alloc (.cells #[u, v] t)).cell? ((⟨w.heap.size, 0, none⟩ : Addr).add j) = some x := World.news_of_block (heap_alloc_new w _)

set_option maxRecDepth 100000 in
set_option maxHeartbeats 8000000 in
theorem call_any {w : World} {b : Nat} {t : Tok} {r : List Tok} {n : Int} (R : Rd w b (t :: r) n 0) (hk : t.kind = 1 ∨ t.kind = 2 ∨ t.kind = 3) :
    Calls Tryd.prog 85 #[ptr b, .int .i64 t.kind] w (Ans b n w isEV (.ok (.mk t.kind t.at' t.text 0 (pAtoms r).1 [] [] [], (pAtoms r).2))) := by
  have lt := R.lt
  have len := R.len
  have f0 := field0
  have f2 := field2
  have L := fun o => look_any (R.alloc o)
  simp only [hdV] at L
  have T := fun o o' => take_any ((R.alloc o).alloc o') t.kind (by omega)
  simp only [pKind, if_true] at T
  have lt1 : b < w.heap.size + 1 := by omega
  have lt2 : b < w.heap.size + 1 + 1 := by omega
  obtain ⟨P, hP⟩ : ∃ P, pAtoms r = P := ⟨_, rfl⟩
  rw [hP]
  go_enter Tryd.func85, Tryd.ntmps85
  go_wp2_with (first
    | (go_at_call 22; refine (L _).mono ?_; rintro e w1 ⟨rfl, o, rfl⟩)
    | (go_at_call 69; refine (T _ _).mono ?_; rintro e w2 ⟨F2, v2, rfl, rfl, R2⟩; unfold hdV))
  have s2 := F2.size
  simp at s2
  have O1 : Ob w ((w2.alloc (.cells #[.int .i64 t.kind, .string (str t.text), .int .i64 t.num, .int .i64 t.at'] 39)).alloc (.cells #[.int .i64 t.kind, .int .i64 t.at', .string (str t.text), .int .i64 0, nil3, nil3, nil3, nil3] 46)) b w.heap.size (w2.heap.size + 1) n r zero46 46 #[.int .i64 t.kind, .int .i64 t.at', .string (str t.text), .int .i64 0, nil3, nil3, nil3, nil3] 46 :=
    ⟨(R2.alloc _).alloc _, ((((Fr.refl b w).alloc _).alloc _).trans F2).alloc _ |>.alloc _, ((((Blk.fresh w _ _).alloc _).kept F2 (fun e => by cases e; omega)).alloc _).alloc _, (by have := Blk.fresh (w2.alloc (.cells #[.int .i64 t.kind, .string (str t.text), .int .i64 t.num, .int .i64 t.at'] 39)) #[.int .i64 t.kind, .int .i64 t.at', .string (str t.text), .int .i64 0, nil3, nil3, nil3, nil3] 46; simpa using this), ⟨lt, Nat.le_refl _, by omega⟩⟩
  clear F2 R2 L T R
  generalize w2.heap.size + 1 = X at *
  go_loopw [20] (fun _ wr => ∃ as' l' va, Ob w wr b w.heap.size X n l' zero46 46 #[.int .i64 t.kind, .int .i64 t.at', .string (str t.text), .int .i64 0, va, nil3, nil3, nil3] 46 ∧ Hid (as' ++ (pAtoms l').1 = P.1 ∧ (pAtoms l').2 = P.2) ∧ as'.length + l'.length ≤ 16384 ∧ wr.ownsRow (X + 1) 84 2 va as'.length (atmC as')) (fun _ wr => leftN wr b)
  case atStart => exact ⟨[], r, nil3, O1, ⟨by rw [hP]; exact ⟨rfl, rfl⟩⟩, by simp at len ⊢; omega, World.ownsRow_nil _ _ _ _⟩
  case round =>
    clear O1 hP len
    obtain ⟨as', l', va, O, H, hl, OW⟩ := hrel
    have L := look_any O.rd
    have HL : Hid (leftN wr b = l'.length) := ⟨O.rd.left⟩
    obtain ⟨ltb, ltM, ltX⟩ := O.lts
    have hbX : b ≤ X := by have := O.lo; omega
    have x0 : wr.cell? ⟨X, 0, none⟩ = some (.int .i64 t.kind) := O.x.cell 0
    have x1 : wr.cell? ⟨X, 1, none⟩ = some (.int .i64 t.at') := O.x.cell 1
    have x2 : wr.cell? ⟨X, 2, none⟩ = some (.string (str t.text)) := O.x.cell 2
    have x3 : wr.cell? ⟨X, 3, none⟩ = some (.int .i64 0) := O.x.cell 3
    have x4 : wr.cell? ⟨X, 4, none⟩ = some va := O.x.cell 4
    have x5 : wr.cell? ⟨X, 5, none⟩ = some nil3 := O.x.cell 5
    have x6 : wr.cell? ⟨X, 6, none⟩ = some nil3 := O.x.cell 6
    have x7 : wr.cell? ⟨X, 7, none⟩ = some nil3 := O.x.cell 7
    have ways : l' = [] ∨ ∃ u q, l' = u :: q := by cases l' with
      | nil => exact .inl rfl
      | cons u q => exact .inr ⟨u, q, rfl⟩
    by_cases hgo : ∃ u q, l' = u :: q ∧ (u.kind = 1 ∨ u.kind = 4)
    · obtain ⟨u, q, rfl, hu⟩ := hgo
      simp only [hdV] at L
      have xa : wr.frozen? ⟨X, 4, none⟩ = false := O.x.z 4
      obtain ⟨i0, hi, hz0, hz1, hz2⟩ := info_parts info84
      have GK := O.rd.g.head
      have HN : Hid ((as' ++ [⟨u.text, u.num⟩]) ++ (pAtoms q).1 = P.1 ∧ (pAtoms q).2 = P.2) := ⟨by
        have := H.out
        simp only [pAtoms, if_pos hu] at this
        simpa using this⟩
      simp only [List.length_cons] at hl HL
      have HO : Hid (Ob w wr b w.heap.size X n (u :: q) zero46 46 #[.int .i64 t.kind, .int .i64 t.at', .string (str t.text), .int .i64 0, va, nil3, nil3, nil3] 46) := ⟨O⟩
      rcases hu with hu | hu
      · have TN := fun o => takeName_any ((O.rd.alloc o).drew)
        simp only [pKind, if_pos hu] at TN
        have n0 : u.num = 0 := GK.name hu
        clear O H ways GK
        go_wp2_with (go_at_call 22; refine L.mono ?_; rintro e w3 ⟨rfl, o, rfl⟩)
        go_region_law (first
          | (refine step_append_lies _ (by rfl) _ _ _ (by rfl) (X + 1) 84 i0 _ 2 24 Tryd.underlying42 hi hz0 hz1 hz2 rfl (by decide) va as'.length (atmC as') (by rfl) (own_alloc OW4 _) ⟨_, 0, none⟩ 1 1 [.string (str u.text), .int .i64 0] (by rfl) rfl new_two (by simp [Value.oneCell']) (by decide) (by unfold maxLen; omega) (by omega) (by simp; omega) _ rfl ?_; intro g5 cap5 w5 ho hg hat hlt; have O5 := (O4.alloc _).row (own_alloc OW4 _) hg; have y5 : w5.cell? ⟨X, 4, none⟩ = some va := O5.x.cell 4; have z5 : w5.frozen? ⟨X, 4, none⟩ = false := O5.x.z 4; clear hg hat hlt)
          | (go_simp; go_at_call 78; refine (TN _).mono ?_; rintro e w4 ⟨F4, v4, rfl, rfl, R4⟩; have O4 := ((HO.out.alloc o).drew).call F4 R4; have OW4 := own_call ((own_alloc OW o).drew) F4 hbX; have y4 : w4.cell? ⟨X, 4, none⟩ = some va := O4.x.cell 4; have lt4 := O4.lts.2.2; clear F4 R4))
        all_goals go_wp2
        all_goals
          refine ⟨⟨as' ++ [⟨u.text, u.num⟩], q, .slice (some ⟨g5, 0, none⟩) (as'.length + 1) cap5, O5.store 4 _, HN, by simp; omega, ?_⟩, ?_⟩
          · rw [atmC_snoc, List.length_append, n0]
            exact own_store ho 4 _
          · rw [(O5.store 4 _).rd.left, HL.out]
            omega
      · have TN := fun o => take_any ((O.rd.alloc o).drew) 4 (by decide)
        simp only [pKind, if_pos hu] at TN
        have n0 : u.text = [] := GK.int hu
        clear O H ways GK
        go_wp2_with (go_at_call 22; refine L.mono ?_; rintro e w3 ⟨rfl, o, rfl⟩)
        go_region_law (first
          | (refine step_append_lies _ (by rfl) _ _ _ (by rfl) (X + 1) 84 i0 _ 2 24 Tryd.underlying42 hi hz0 hz1 hz2 rfl (by decide) va as'.length (atmC as') (by rfl) (own_alloc OW4 _) ⟨_, 0, none⟩ 1 1 [.string ⟨#[]⟩, .int .i64 u.num] (by rfl) rfl new_two (by simp [Value.oneCell']) (by decide) (by unfold maxLen; omega) (by omega) (by simp; omega) _ rfl ?_; intro g5 cap5 w5 ho hg hat hlt; have O5 := (O4.alloc _).row (own_alloc OW4 _) hg; have y5 : w5.cell? ⟨X, 4, none⟩ = some va := O5.x.cell 4; have z5 : w5.frozen? ⟨X, 4, none⟩ = false := O5.x.z 4; clear hg hat hlt)
          | (go_simp; go_at_call 69; refine (TN _).mono ?_; rintro e w4 ⟨F4, v4, rfl, rfl, R4⟩; unfold hdV; have O4 := ((HO.out.alloc o).drew).call F4 R4; have OW4 := own_call ((own_alloc OW o).drew) F4 hbX; have y4 : w4.cell? ⟨X, 4, none⟩ = some va := O4.x.cell 4; have lt4 := O4.lts.2.2; clear F4 R4))
        all_goals go_wp2
        all_goals
          refine ⟨⟨as' ++ [⟨u.text, u.num⟩], q, .slice (some ⟨g5, 0, none⟩) (as'.length + 1) cap5, O5.store 4 _, HN, by simp; omega, ?_⟩, ?_⟩
          · rw [atmC_snoc, List.length_append, n0]
            exact own_store ho 4 _
          · rw [(O5.store 4 _).rd.left, HL.out]
            omega
    · have HP : Hid (as' = P.1 ∧ l' = P.2) := ⟨by
        have := H.out
        rcases ways with rfl | ⟨u, q, rfl⟩
        · simpa [pAtoms] using this
        · have hu : ¬ (u.kind = 1 ∨ u.kind = 4) := fun z => hgo ⟨u, q, rfl, z⟩
          simpa [pAtoms, if_neg hu] using this⟩
      have kd : ∃ k : Int, k ≠ 1 ∧ k ≠ 4 ∧ ∃ s m a, hdV l' n = .agg #[.int .i64 k, s, m, a] := by
        rcases ways with rfl | ⟨u, q, rfl⟩
        · exact ⟨0, by decide, by decide, _, _, _, rfl⟩
        · exact ⟨u.kind, fun z => hgo ⟨u, q, rfl, .inl z⟩, fun z => hgo ⟨u, q, rfl, .inr z⟩, _, _, _, rfl⟩
      obtain ⟨k, k1, k4, s, m, a, hh⟩ := kd
      rw [hh] at L
      have d1 : (k == 1) = false := by simp [k1]
      have d4 : (k == 4) = false := by simp [k4]
      have HO : Hid (Ob w wr b w.heap.size X n l' zero46 46 #[.int .i64 t.kind, .int .i64 t.at', .string (str t.text), .int .i64 0, va, nil3, nil3, nil3] 46) := ⟨O⟩
      clear O H ways hgo hh
      obtain ⟨ga, cap, rfl⟩ := own_form OW
      clear x0 x1 x2 x3 x4 x5 x6 x7
      go_wp2_with (first
        | (go_at_call 22; refine L.mono ?_; rintro e w3 ⟨rfl, o, rfl⟩)
        | (refine wpList_load_row rfl 46 _ rfl X rfl 46 _ (0, 0) _ (HO.out.alloc o).x Tryd.underlying46 rfl size46 ?_)
        | (refine wpList_store_row rfl 46 _ _ rfl w.heap.size _ rfl rfl 46 _ (HO.out.alloc o).m size46 rfl (by simp [Value.oneCell']) ?_))
      have OO := HO.out.alloc o
      have oo := OO.out #[.int .i64 t.kind, .int .i64 t.at', .string (str t.text), .int .i64 0, .slice ga as'.length cap, nil3, nil3, nil3]
      have lo := OO.lo
      have OW2 := own_kept (OW.alloc o) (grown_setRow (wr.alloc o) w.heap.size #[.int .i64 t.kind, .int .i64 t.at', .string (str t.text), .int .i64 0, .slice ga as'.length cap, nil3, nil3, nil3]) (by omega)
      obtain ⟨p1, p2⟩ := HP.out
      rw [← p1, ← p2]
      refine bodyPost_ret (results_cell_row Tryd.results85 _ _ w.heap.size 46 #[.int .i64 t.kind, .int .i64 t.at', .string (str t.text), .int .i64 0, .slice ga as'.length cap, nil3, nil3, nil3] (0, 0) _ rfl OO.m.set Tryd.underlying46 rfl size46) rfl (Ans.ok oo.1 oo.2 ?_)
      refine ⟨[.int .i64 t.kind, .int .i64 t.at', .string (str t.text), .int .i64 0, .slice ga as'.length cap, nil3, nil3, nil3], rfl, ?_⟩
      simp only [isE]
      exact ⟨_, _, _, _, [], [], [], rfl, own_new OW2 (by omega) (by omega), isRow_nil _ _ _, by simp only [isBs], isRow_nil _ _ _, by simp only [isEs], isRow_nil _ _ _, by simp only [isAs]⟩

end Go.Proofs.YtoedeedoecdajaaDoor
