/- Package lazy: what a bind of a let is. -/
import Derived.Test.YtbajpejnnfacbaaGreatDoorLzv
import Derived.Deep.RegionHeld3
namespace Go.Proofs.YtbajpejnnfacbaaGreatDoor.Lz
open Go.RowKit
set_option linter.unusedVariables false
set_option linter.unusedSimpArgs false


theorem store8 {W : World} {Y : Nat} {a0 a1 a2 a3 a4 a5 a6 a7 : Value} {t : TypeId} (h : W.heap[Y]? = some (.cells #[a0, a1, a2, a3, a4, a5, a6, a7] t (0, 0))) (v0 v1 v2 v3 v4 v5 v6 v7 : Value) :
    ((((((((W.setCell ⟨Y, 0, none⟩ v0).setCell ⟨Y, 1, none⟩ v1).setCell ⟨Y, 2, none⟩ v2).setCell ⟨Y, 3, none⟩ v3).setCell ⟨Y, 4, none⟩ v4).setCell ⟨Y, 5, none⟩ v5).setCell ⟨Y, 6, none⟩ v6).setCell ⟨Y, 7, none⟩ v7).heap[Y]? = some (.cells #[v0, v1, v2, v3, v4, v5, v6, v7] t (0, 0)) := by
  have h0 : (W.setCell ⟨Y, 0, none⟩ v0).heap[Y]? = some (.cells #[v0, a1, a2, a3, a4, a5, a6, a7] t (0, 0)) := Joins.block_setCell (i := 0) h v0
  have h1 : ((W.setCell ⟨Y, 0, none⟩ v0).setCell ⟨Y, 1, none⟩ v1).heap[Y]? = some (.cells #[v0, v1, a2, a3, a4, a5, a6, a7] t (0, 0)) := Joins.block_setCell (i := 1) h0 v1
  have h2 : (((W.setCell ⟨Y, 0, none⟩ v0).setCell ⟨Y, 1, none⟩ v1).setCell ⟨Y, 2, none⟩ v2).heap[Y]? = some (.cells #[v0, v1, v2, a3, a4, a5, a6, a7] t (0, 0)) := Joins.block_setCell (i := 2) h1 v2
  have h3 : ((((W.setCell ⟨Y, 0, none⟩ v0).setCell ⟨Y, 1, none⟩ v1).setCell ⟨Y, 2, none⟩ v2).setCell ⟨Y, 3, none⟩ v3).heap[Y]? = some (.cells #[v0, v1, v2, v3, a4, a5, a6, a7] t (0, 0)) := Joins.block_setCell (i := 3) h2 v3
  have h4 : (((((W.setCell ⟨Y, 0, none⟩ v0).setCell ⟨Y, 1, none⟩ v1).setCell ⟨Y, 2, none⟩ v2).setCell ⟨Y, 3, none⟩ v3).setCell ⟨Y, 4, none⟩ v4).heap[Y]? = some (.cells #[v0, v1, v2, v3, v4, a5, a6, a7] t (0, 0)) := Joins.block_setCell (i := 4) h3 v4
  have h5 : ((((((W.setCell ⟨Y, 0, none⟩ v0).setCell ⟨Y, 1, none⟩ v1).setCell ⟨Y, 2, none⟩ v2).setCell ⟨Y, 3, none⟩ v3).setCell ⟨Y, 4, none⟩ v4).setCell ⟨Y, 5, none⟩ v5).heap[Y]? = some (.cells #[v0, v1, v2, v3, v4, v5, a6, a7] t (0, 0)) := Joins.block_setCell (i := 5) h4 v5
  have h6 : (((((((W.setCell ⟨Y, 0, none⟩ v0).setCell ⟨Y, 1, none⟩ v1).setCell ⟨Y, 2, none⟩ v2).setCell ⟨Y, 3, none⟩ v3).setCell ⟨Y, 4, none⟩ v4).setCell ⟨Y, 5, none⟩ v5).setCell ⟨Y, 6, none⟩ v6).heap[Y]? = some (.cells #[v0, v1, v2, v3, v4, v5, v6, a7] t (0, 0)) := Joins.block_setCell (i := 6) h5 v6
  have h7 : ((((((((W.setCell ⟨Y, 0, none⟩ v0).setCell ⟨Y, 1, none⟩ v1).setCell ⟨Y, 2, none⟩ v2).setCell ⟨Y, 3, none⟩ v3).setCell ⟨Y, 4, none⟩ v4).setCell ⟨Y, 5, none⟩ v5).setCell ⟨Y, 6, none⟩ v6).setCell ⟨Y, 7, none⟩ v7).heap[Y]? = some (.cells #[v0, v1, v2, v3, v4, v5, v6, v7] t (0, 0)) := Joins.block_setCell (i := 7) h6 v7
  exact h7
theorem store8_oth (W : World) (Y : Nat) (v0 v1 v2 v3 v4 v5 v6 v7 : Value) (i : Nat) (hi : i ≠ Y) :
    ((((((((W.setCell ⟨Y, 0, none⟩ v0).setCell ⟨Y, 1, none⟩ v1).setCell ⟨Y, 2, none⟩ v2).setCell ⟨Y, 3, none⟩ v3).setCell ⟨Y, 4, none⟩ v4).setCell ⟨Y, 5, none⟩ v5).setCell ⟨Y, 6, none⟩ v6).setCell ⟨Y, 7, none⟩ v7).heap[i]? = W.heap[i]? := by
  rw [setCell_block _ _ _ _ hi, setCell_block _ _ _ _ hi, setCell_block _ _ _ _ hi, setCell_block _ _ _ _ hi, setCell_block _ _ _ _ hi, setCell_block _ _ _ _ hi, setCell_block _ _ _ _ hi, setCell_block _ _ _ _ hi]
theorem size_set (W : World) (a : Addr) (v : Value) : (W.setCell a v).heap.size = W.heap.size := by simp [World.setCell]
theorem store8_env (W : World) (Y : Nat) (v0 v1 v2 v3 v4 v5 v6 v7 : Value) (W9 : World) (h : W9 = ((((((((W.setCell ⟨Y, 0, none⟩ v0).setCell ⟨Y, 1, none⟩ v1).setCell ⟨Y, 2, none⟩ v2).setCell ⟨Y, 3, none⟩ v3).setCell ⟨Y, 4, none⟩ v4).setCell ⟨Y, 5, none⟩ v5).setCell ⟨Y, 6, none⟩ v6).setCell ⟨Y, 7, none⟩ v7)) :
    W9.os = W.os ∧ W9.tape = W.tape ∧ W9.output = W.output ∧ W9.heap.size = W.heap.size := by
  have st : ∀ (V : World) (a : Addr) (v : Value), (V.setCell a v).os = V.os ∧ (V.setCell a v).tape = V.tape ∧ (V.setCell a v).output = V.output ∧ (V.setCell a v).heap.size = V.heap.size := fun V a v => ⟨rfl, rfl, rfl, size_set V a v⟩
  have tr : ∀ {A B C : World}, (B.os = A.os ∧ B.tape = A.tape ∧ B.output = A.output ∧ B.heap.size = A.heap.size) → (C.os = B.os ∧ C.tape = B.tape ∧ C.output = B.output ∧ C.heap.size = B.heap.size) → (C.os = A.os ∧ C.tape = A.tape ∧ C.output = A.output ∧ C.heap.size = A.heap.size) := fun h k => ⟨k.1.trans h.1, k.2.1.trans h.2.1, k.2.2.1.trans h.2.2.1, k.2.2.2.trans h.2.2.2⟩
  rw [h]
  exact tr (tr (tr (tr (tr (tr (tr (st _ _ _) (st _ _ _)) (st _ _ _)) (st _ _ _)) (st _ _ _)) (st _ _ _)) (st _ _ _)) (st _ _ _)
/-- a list of things that was made just now is tagged -/
theorem NewRow.row {w : World} {G : Gm} {th : List T} {rows : List (List Nat)} {g : Nat} {ids : List Nat} (h : Rep w G th rows) (k : NewRow w G g ids) : Rep w (Lz.tag G g (.row ids)) th rows ∧ ∀ cap, ids.length ≤ cap → pRow (Lz.tag G g (.row ids)) ids (.slice (some ⟨g, 0, none⟩) ids.length cap) := by
  obtain ⟨c, hc, hz, ht⟩ := k.blk
  refine ⟨h.tag k.free ⟨lt_of_block hc, fun j i hj => ?_⟩ (fun i => by simp) (fun j => by simp), fun cap hcap => ⟨_, _, rfl, hcap, fun _ => ⟨g, 0, ids, rfl, tag_self _ _ _, fun j hj => by rw [Nat.zero_add]⟩⟩⟩
  obtain ⟨v, hv, pv⟩ := ht j i hj
  exact ⟨v, (Joins.cell_of_block hc j).trans hv, pT.le (le_tag k.free _) pv⟩
section
variable {w w' : World} {G G' : Gm} {th : List T} {rows : List (List Nat)}
theorem Rep.expB (h : Rep w G th rows) {b : Nat} {x : X} (k : G b = some (.exp x)) : ∃ c, w.heap[b]? = some (.cells c 147 (0, 0)) ∧ isX G x c := h.cont b _ k
theorem Rep.formB (h : Rep w G th rows) {b a : Nat} {x : X} (k : G b = some (.form a x)) : ∃ bx, Bx w b #[.int .i64 a, ptr bx] 119 ∧ G bx = some (.exp x) := by
  obtain ⟨v, hb, bx, rfl, hx⟩ := h.cont b _ k
  exact ⟨bx, hb, hx⟩
set_option maxRecDepth 100000 in
set_option maxHeartbeats 4000000 in
theorem bound_any {ar : List Nat} (h : Rep w G th rows) {b fb : Nat} {e : Env} {cl : Int} {a : Nat} {x : X} (hb : G b = some (.env e)) (hf : G fb = some (.form a x)) (he : okE th.length e)
    (ok : (cl = 3 ↔ 0 < a) ∧ a ≤ 8 ∧ (cl = 1 → isConX x) ∧ (cl = 2 → isIntX x) ∧ okX ar (pushN a (shE e)) x ∧ (shE e).length + 1 ≤ 1000000000) :
    Calls Tryz.prog 101 #[ptr b, .agg #[.int .i64 cl, ptr fb]] w fun r w' => ∃ c G', r = .returned (.agg c) ∧ Fx G G' w w' ∧ Rep w' G' (boundP e (.mk cl a x) th).2 rows ∧ ∀ i, isT w' G' i (boundP e (.mk cl a x) th).1 c := by
  obtain ⟨W, hW⟩ : ∃ W, W = (w.alloc (.cells #[.int .i64 cl, ptr fb] 180)).alloc (.cells (thC 0 0 nilp nilp nilp nils nilm 0) 91) := ⟨_, rfl⟩
  have KW : Below w.heap.size w W := by rw [hW]; exact (Joins.below_alloc1 w _).alloc (Joins.below_alloc1 w _).size _
  have XR : Bx W (w.heap.size + 1) (thC 0 0 nilp nilp nilp nils nilm 0) 91 := by
    rw [hW]
    have := heap_alloc_new (w.alloc (.cells #[.int .i64 cl, ptr fb] 180)) (.cells (thC 0 0 nilp nilp nilp nils nilm 0) 91)
    rwa [World.size_alloc] at this
  have XP : Bx W w.heap.size #[.int .i64 cl, ptr fb] 180 := by
    rw [hW]
    exact later' (heap_alloc_new w _) (Joins.below_alloc1 _ _)
  have R0 := h.below KW
  have p0 := XP.cell 0
  have p1 := XP.cell 1
  have HW := Hid.mk (And.intro KW (And.intro XR (And.intro XP R0)))
  have HF := Hid.mk (And.intro hb (And.intro hf h))
  have fr : G (w.heap.size + 1) = none := h.free (by omega)
  have HFR := Hid.mk fr
  have HFR0 : Hid (G w.heap.size = none) := ⟨h.free (Nat.le_refl _)⟩
  -- what is left behind a plain store
  have FIN : Hid (∀ (c : Array Value) (W' : World) (G1 : Gm) (th1 : List T), (W'.heap[w.heap.size + 1]? = some (.cells (thC 0 0 nilp nilp nilp nils nilm 0) 91 (0, 0))) → Fx G G1 w W' → Rep W' G1 th1 rows → G1 (w.heap.size + 1) = none → Fx G G1 w (W'.setRow (w.heap.size + 1) c) ∧ Rep (W'.setRow (w.heap.size + 1) c) G1 th1 rows) := ⟨fun c W' G1 th1 hx F R hfr => by
    have e4 := setRow_oth W' (w.heap.size + 1) c
    exact ⟨F.more rfl rfl rfl (by rw [setRow_size]; exact Nat.le_refl _) (fun i hi => e4 i (by omega)) (Le.refl _) (fun _ _ q => q), R.later (by rw [setRow_size]; exact Nat.le_refl _) (fun x ty hx => e4 x (fun z => by rw [z, hfr] at hx; cases hx))⟩⟩
  have XN : ∀ c : Array Value, ((w.alloc (.cells #[.int .i64 cl, ptr fb] 180)).alloc (.cells c 91)).heap[w.heap.size + 1]? = some (.cells c 91 (0, 0)) := fun c => by
    have := heap_alloc_new (w.alloc (.cells #[.int .i64 cl, ptr fb] 180)) (.cells c 91)
    rwa [World.size_alloc] at this
  have KN : ∀ c : Array Value, Below w.heap.size w ((w.alloc (.cells #[.int .i64 cl, ptr fb] 180)).alloc (.cells c 91)) := fun c => (Joins.below_alloc1 w _).alloc (Joins.below_alloc1 w _).size _
  have HN := Hid.mk (And.intro XN KN)
  by_cases c3 : cl = 3
  · subst c3
    have eb : boundP e (.mk 3 a x) th = (.fn a x e, th) := by unfold boundP; simp
    rw [eb]
    clear h hb hf KW XR XP R0 fr XN KN hW FIN
    go_enter Tryz.func101, Tryz.ntmps101
    go_wp2
    exact bodyPost_ret (results_cell_row Tryz.results101 _ _ (w.heap.size + 1) 91 (thC 2 0 (ptr fb) (ptr b) nilp nils nilm 0) (0, 0) _ rfl (HN.out.1 _) Tryz.underlying91 rfl size91) rfl ⟨_, rfl, G, Fx.of_below (HN.out.2 _), HF.out.2.2.below (HN.out.2 _), fun i => ⟨_, _, ⟨fb, rfl, HF.out.2.1⟩, ⟨b, rfl, HF.out.1⟩, rfl⟩⟩
  · have a0 : a = 0 := by rcases Nat.eq_zero_or_pos a with z | z; exact z; exact absurd (ok.1.2 z) c3
    have g3 : (cl == 3) = false := beq_eq_false_iff_ne.2 c3
    obtain ⟨bx, XF, hx⟩ := h.formB hf
    have f1 := (XF.later KW).cell 1
    have q1 := XF.cell 1
    have fblt := h.lt hf
    have bxlt := h.lt hx
    by_cases c1 : cl = 1
    · subst c1
      have ix := ok.2.2.1 rfl
      cases x <;> simp only [isConX] at ix
      rename_i n l
      have eb : boundP e (.mk 1 a (.con n l)) th = (.con n (atomsP e l th).1, (atomsP e l th).2) := by unfold boundP; simp
      rw [eb]
      have okx := ok.2.2.2.2.1
      rw [a0] at okx
      simp only [pushN, if_true, okX] at okx
      obtain ⟨cx, hcx, av, pa, e1⟩ := h.expB hx
      have XX : Bx w bx (xC 2 n 0 .nilFunc 0 0 av nils nilp nilm nilp) 147 := by rw [← e1]; exact hcx
      have x1 := (XX.later KW).cell 1
      have x6 := (XX.later KW).cell 6
      have AT := latoms_any (R0.later (w' := W.drew) (Nat.le_refl _) (fun _ _ _ => rfl)) hb he l pa okx.2.2
      have HX := Hid.mk (And.intro (XX.later KW) (XF.later KW))
      have fbx : fb < W.heap.size := Nat.lt_of_lt_of_le fblt KW.size
      have bxx : bx < W.heap.size := Nat.lt_of_lt_of_le bxlt KW.size
      have tf := h.lt hf
      have n1 : ¬ fb = w.heap.size + 1 := by omega
      have n2 : ¬ bx = w.heap.size + 1 := by omega
      have n3 : ¬ w.heap.size + 1 = fb := by omega
      have n4 : ¬ w.heap.size + 1 = bx := by omega
      have HG := Hid.mk (And.intro hf hx)
      obtain ⟨ga, cap, rfl, _⟩ := id pa
      obtain ⟨nl, hnl⟩ : ∃ n, l.length = n := ⟨_, rfl⟩
      have HNL := Hid.mk hnl
      rw [hnl] at AT x6 HX
      clear h hb hf KW XR XP R0 fr XN KN XF XX hcx e1 ok okx pa hx eb q1 HN hnl
      go_enter Tryz.func101, Tryz.ntmps101
      go_wp2
      rw [← hW]
      clear hW
      go_wp2
      go_region_held3 (fun w' => w'.cell? ⟨w.heap.size, 1, none⟩ = some (ptr fb) ∧ w'.cell? ⟨fb, 1, none⟩ = some (ptr bx) ∧ w'.cell? ⟨bx, 1, none⟩ = some (.int .i64 n) ∧ w'.cell? ⟨bx, 6, none⟩ = some (.slice ga nl cap)) (go_keep) (first
        | (go_at_call 68; refine AT.mono ?_; rintro r w8 ⟨g, gc, G8, rfl, hgc, hg8, N8, F8, R8⟩; have XP8 : Bx w8 w.heap.size #[.int .i64 1, ptr fb] 180 := (F8.block _ (lt_of_block HW.out.2.2.1) (by rw [HFR0.out]; trivial)).trans HW.out.2.2.1; have XR8 : Bx w8 (w.heap.size + 1) (thC 0 0 nilp nilp nilp nils nilm 0) 91 := (F8.block _ (lt_of_block HW.out.2.1) (by rw [HFR.out]; trivial)).trans HW.out.2.1; have XF8 : Bx w8 fb #[.int .i64 a, ptr bx] 119 := (F8.block _ fbx (by rw [HG.out.1]; trivial)).trans HX.out.2; have XX8 : Bx w8 bx (xC 2 n 0 .nilFunc 0 0 (.slice ga nl cap) nils nilp nilm nilp) 147 := (F8.block _ bxx (by rw [HG.out.2]; trivial)).trans HX.out.1; have s1 : w8.cell? ⟨w.heap.size, 1, none⟩ = some (ptr fb) := XP8.cell 1; have s2 : w8.cell? ⟨fb, 1, none⟩ = some (ptr bx) := XF8.cell 1; have s3 : w8.cell? ⟨bx, 1, none⟩ = some (.int .i64 n) := XX8.cell 1; have s4 : w8.cell? ⟨bx, 6, none⟩ = some (.slice ga nl cap) := XX8.cell 6; have u0 : w8.cell? ⟨w.heap.size + 1, 0, none⟩ = some (.int .i64 0) := XR8.cell 0; have uz0 : w8.frozen? ⟨w.heap.size + 1, 0, none⟩ = false := Joins.unfrozen_of_block XR8 0; have u1 : w8.cell? ⟨w.heap.size + 1, 1, none⟩ = some (.int .i64 0) := XR8.cell 1; have uz1 : w8.frozen? ⟨w.heap.size + 1, 1, none⟩ = false := Joins.unfrozen_of_block XR8 1; have u2 : w8.cell? ⟨w.heap.size + 1, 2, none⟩ = some (nilp) := XR8.cell 2; have uz2 : w8.frozen? ⟨w.heap.size + 1, 2, none⟩ = false := Joins.unfrozen_of_block XR8 2; have u3 : w8.cell? ⟨w.heap.size + 1, 3, none⟩ = some (nilp) := XR8.cell 3; have uz3 : w8.frozen? ⟨w.heap.size + 1, 3, none⟩ = false := Joins.unfrozen_of_block XR8 3; have u4 : w8.cell? ⟨w.heap.size + 1, 4, none⟩ = some (nilp) := XR8.cell 4; have uz4 : w8.frozen? ⟨w.heap.size + 1, 4, none⟩ = false := Joins.unfrozen_of_block XR8 4; have u5 : w8.cell? ⟨w.heap.size + 1, 5, none⟩ = some (nils) := XR8.cell 5; have uz5 : w8.frozen? ⟨w.heap.size + 1, 5, none⟩ = false := Joins.unfrozen_of_block XR8 5; have u6 : w8.cell? ⟨w.heap.size + 1, 6, none⟩ = some (nilm) := XR8.cell 6; have uz6 : w8.frozen? ⟨w.heap.size + 1, 6, none⟩ = false := Joins.unfrozen_of_block XR8 6; have u7 : w8.cell? ⟨w.heap.size + 1, 7, none⟩ = some (.int .i64 0) := XR8.cell 7; have uz7 : w8.frozen? ⟨w.heap.size + 1, 7, none⟩ = false := Joins.unfrozen_of_block XR8 7; have HN8 := Hid.mk (And.intro N8 (And.intro F8 (And.intro R8 (And.intro XR8 (And.intro hgc hg8))))); clear N8 F8 R8 XP8 XR8 XF8 XX8))
      all_goals go_wp2
      obtain ⟨a1, a2, a3, a4, a5, a6⟩ := HN8.out
      obtain ⟨R9, P9⟩ := a1.row a3
      have gl : w.heap.size ≤ g := by have := HW.out.1.size; simp at a6; omega
      have gW : W.heap.size ≤ g := by simpa using a6
      have F8 : Fx G (Lz.tag G8 g (.row (atomsP e l th).1)) w w8 := ((Fx.of_below HW.out.1).trans ((show Fx G G W W.drew from ⟨rfl, rfl, rfl, Nat.le_refl _, fun _ _ _ => rfl, Le.refl _, fun _ _ q => q⟩).trans a2)).more rfl rfl rfl (Nat.le_refl _) (fun _ _ => rfl) (le_tag a1.free _) (fun i hi q => by rw [tag_ne _ _ (by omega)]; exact q)
      have ft : Lz.tag G8 g (.row (atomsP e l th).1) (w.heap.size + 1) = none := by rw [tag_ne _ _ (by have := lt_of_block HW.out.2.1; omega)]; exact a2.new _ (lt_of_block HW.out.2.1) HFR.out
      have hb9 := store8 a4 (.int .i64 1) (.int .i64 n) nilp nilp nilp (.slice (some ⟨g, 0, none⟩) nl gc) nilm (.int .i64 0)
      have ho9 := store8_oth w8 (w.heap.size + 1) (.int .i64 1) (.int .i64 n) nilp nilp nilp (.slice (some ⟨g, 0, none⟩) nl gc) nilm (.int .i64 0)
      obtain ⟨W9, hW9⟩ : ∃ x : World, x = ((((((((w8.setCell ⟨w.heap.size + 1, 0, none⟩ (.int .i64 1)).setCell ⟨w.heap.size + 1, 1, none⟩ (.int .i64 n)).setCell ⟨w.heap.size + 1, 2, none⟩ nilp).setCell ⟨w.heap.size + 1, 3, none⟩ nilp).setCell ⟨w.heap.size + 1, 4, none⟩ nilp).setCell ⟨w.heap.size + 1, 5, none⟩ (.slice (some ⟨g, 0, none⟩) nl gc)).setCell ⟨w.heap.size + 1, 6, none⟩ nilm).setCell ⟨w.heap.size + 1, 7, none⟩ (.int .i64 0)) := ⟨_, rfl⟩
      have o9 : W9.os = w8.os ∧ W9.tape = w8.tape ∧ W9.output = w8.output ∧ W9.heap.size = w8.heap.size := store8_env _ _ _ _ _ _ _ _ _ _ _ hW9
      rw [← hW9] at hb9 ho9
      rw [← hW9]
      clear hW9
      have P9' := P9 gc (by rw [atomsP_len, HNL.out]; exact a5)
      rw [atomsP_len, HNL.out] at P9'
      exact bodyPost_ret (results_cell_row Tryz.results101 _ _ (w.heap.size + 1) 91 _ (0, 0) _ rfl hb9 Tryz.underlying91 rfl size91) rfl ⟨_, _, rfl, F8.more o9.1 o9.2.1 o9.2.2.1 (Nat.le_of_eq o9.2.2.2.symm) (fun i hi => ho9 i (by omega)) (Le.refl _) (fun _ _ q => q), R9.later (Nat.le_of_eq o9.2.2.2.symm) (fun x ty hx => ho9 x (fun z => by rw [z, ft] at hx; cases hx)), fun i => ⟨_, P9', rfl⟩⟩
    · have g1 : (cl == 1) = false := beq_eq_false_iff_ne.2 c1
      by_cases c2 : cl = 2
      · subst c2
        have ix := ok.2.2.2.1 rfl
        cases x <;> simp only [isIntX] at ix
        rename_i n
        have eb : boundP e (.mk 2 a (.int n)) th = (.num n, th) := by unfold boundP; simp
        rw [eb]
        obtain ⟨cx, hcx, e1⟩ := h.expB hx
        have XX : Bx w bx (xC 4 n 0 .nilFunc 0 0 nils nils nilp nilm nilp) 147 := by rw [← show cx = _ from e1]; exact hcx
        have y1 := XX.cell 1
        clear h hb hf KW XR XP R0 fr XN KN hW FIN XF XX hcx e1 ok
        go_enter Tryz.func101, Tryz.ntmps101
        go_wp2
        exact bodyPost_ret (results_cell_row Tryz.results101 _ _ (w.heap.size + 1) 91 (thC 0 n nilp nilp nilp nils nilm 0) (0, 0) _ rfl (HN.out.1 _) Tryz.underlying91 rfl size91) rfl ⟨_, G, rfl, Fx.of_below (HN.out.2 _), HF.out.2.2.below (HN.out.2 _), fun i => rfl⟩
      · have g2 : (cl == 2) = false := beq_eq_false_iff_ne.2 c2
        have eb : boundP e (.mk cl a x) th = (.need x e, th) := by unfold boundP; simp [c3, c1, c2]
        rw [eb]
        clear h hb hf KW XR XP R0 fr XN KN hW FIN XF ok
        go_enter Tryz.func101, Tryz.ntmps101
        go_wp2
        exact bodyPost_ret (results_cell_row Tryz.results101 _ _ (w.heap.size + 1) 91 (thC 6 0 (ptr fb) (ptr b) nilp nils nilm 0) (0, 0) _ rfl (HN.out.1 _) Tryz.underlying91 rfl size91) rfl ⟨_, G, rfl, Fx.of_below (HN.out.2 _), HF.out.2.2.below (HN.out.2 _), fun i => ⟨_, _, a, ⟨fb, rfl, HF.out.2.1⟩, ⟨b, rfl, HF.out.1⟩, rfl⟩⟩
end
end Go.Proofs.YtbajpejnnfacbaaGreatDoor.Lz
