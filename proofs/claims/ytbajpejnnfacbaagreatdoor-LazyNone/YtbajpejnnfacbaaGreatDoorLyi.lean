/- Package lazy: an argument is known; an alternative is chosen. -/
import Derived.Test.YtbajpejnnfacbaaGreatDoorLyh
namespace Go.Proofs.YtbajpejnnfacbaaGreatDoor.Lz
open Go.RowKit
set_option linter.unusedVariables false
set_option linter.unusedSimpArgs false


section
variable {w w' : World} {G G' : Gm} {rb mb : Nat} {mv : Mv} {s : St} {sh : Int}
/-- an item of a primitive's list has turned -/
theorem Run.putR (h : Run w G rb mb mv s sh) {g j k t b : Nat} (hg : G g = some (.prow j)) (hb : G b = some (.thing t)) {l : List Nat} (hr : s.rows[j]? = some l) (hk : k < l.length) :
    ∃ u, w.cell? ⟨g, k, none⟩ = some u ∧ w.frozen? ⟨g, k, none⟩ = false ∧ Run (w.setCell ⟨g, k, none⟩ (ptr b)) G rb mb mv { s with rows := s.rows.set j (l.set k t) } sh ∧ Fx G G w (w.setCell ⟨g, k, none⟩ (ptr b)) := by
  obtain ⟨l', c, e, hc, hz, ht⟩ := h.rep.cont g _ hg
  rw [hr] at e
  cases e
  have kc : k < c.size := by omega
  have oth : ∀ i, i ≠ g → (w.setCell ⟨g, k, none⟩ (ptr b)).heap[i]? = w.heap[i]? := fun i hi => setCell_block _ _ _ _ hi
  have blk := Joins.block_setCell (i := k) hc (ptr b)
  have sz : w.heap.size ≤ (w.setCell ⟨g, k, none⟩ (ptr b)).heap.size := Nat.le_of_eq (size_set _ _ _).symm
  have F : Fx G G w (w.setCell ⟨g, k, none⟩ (ptr b)) := Fx.of_own hg (by simp [fixd]) rfl rfl rfl sz (fun i _ hi => oth i hi)
  refine ⟨c[k], (Joins.cell_of_block hc k).trans (Array.getElem?_eq_getElem kc), Joins.unfrozen_of_block hc k, ?_, F⟩
  refine h.next F (fun x q hx => oth x (fun z => by rw [z, hg] at hx; cases hx)) (h.rep.putrow hg sz ⟨l.set k t, _, List.getElem?_set_self (List.getElem?_eq_some_iff.1 hr).1, blk, by rw [List.length_set, Array.size_setIfInBounds]; exact hz, fun m i hm => ?_⟩ (fun x ty hx hne => oth x hne))
  by_cases q : k = m
  · subst q
    rw [List.getElem?_set_self hk] at hm
    cases hm
    exact ⟨ptr b, by simp [kc], b, rfl, hb⟩
  · rw [List.getElem?_set_ne q] at hm
    obtain ⟨v, hv, pv⟩ := ht m i hm
    exact ⟨v, by rw [Array.getElem?_setIfInBounds_ne q]; exact hv, pv⟩
set_option maxRecDepth 100000 in
set_option maxHeartbeats 4000000 in
theorem argument_any {ar : List Nat} (h : Run w G rb mb mv s sh) {b t k j i xb n cap g : Nat} {la : List Am} (hb : G b = some (.thing t)) {tv : T} (ht : s.th[t]? = some tv) (vv : isVal tv) (hg : G g = some (.prow j)) (hx : G xb = some (.exp (.prim k la))) (hn : (n : Int) = tA k) (hcap : n ≤ cap) (hf : okFm ar s.th s.rows (.prim k j i)) (ok : okAll ar s.th)
    (hw : s.ws.length + 1 ≤ 1000000000) (ho : s.out.length + 1 ≤ 1000000000) :
    Calls Tryz.prog 80 #[ptr rb, ptr b, .agg #[.int .i64 3, nilp, .slice (some ⟨g, 0, none⟩) n cap, ptr xb, nilp, .int .i64 i]] w (Out w G rb mb mv (argumentS s t k j i) sh) := by
  obtain ⟨h1, h16, hi, l, hr, al, ao, ak⟩ := hf
  have il : i < l.length := by omega
  have nl : n = l.length := by omega
  have l8 : n ≤ 8 := by
    have c : k = 1 ∨ k = 2 ∨ k = 3 ∨ k = 4 ∨ k = 5 ∨ k = 6 ∨ k = 7 ∨ k = 8 ∨ k = 9 ∨ k = 10 ∨ k = 11 ∨ k = 12 ∨ k = 13 ∨ k = 14 ∨ k = 15 ∨ k = 16 := by omega
    rcases c with rfl | rfl | rfl | rfl | rfl | rfl | rfl | rfl | rfl | rfl | rfl | rfl | rfl | rfl | rfl | rfl <;> simp only [tA] at hn <;> omega
  obtain ⟨W, hW⟩ : ∃ W, W = w.alloc (.cells #[.int .i64 3, nilp, .slice (some ⟨g, 0, none⟩) n cap, ptr xb, nilp, .int .i64 i] 160) := ⟨_, rfl⟩
  have KW : Below w.heap.size w W := by rw [hW]; exact Joins.below_alloc1 w _
  have XW : Bx W w.heap.size #[.int .i64 3, nilp, .slice (some ⟨g, 0, none⟩) n cap, ptr xb, nilp, .int .i64 i] 160 := by rw [hW]; exact heap_alloc_new w _
  have RW := h.below KW
  obtain ⟨cx, hcx, av, tvv, pa, pt, ecx⟩ := RW.rep.expB hx
  have XX : Bx W xb (xC 3 0 k tvv 0 0 av nils nilp nilm nilp) 147 := by rw [← ecx]; exact hcx
  have ND := need_any k i W.drew RW.drew.tab
  rw [rowN_in (by omega)] at ND
  have x0 := XW.cell 2
  have x3 := XW.cell 3
  have x5 := XW.cell 5
  have y2 := XX.cell 2
  have HH := Hid.mk (And.intro RW (And.intro XW (And.intro XX (And.intro KW (And.intro hb (And.intro hg (And.intro hr ht)))))))
  have ea : argumentS s t k j i = if unlikeT tv (needI k i) = 0 then argsS { s with rows := s.rows.set j (l.set i t) } k j (i + 1) else failS s (unlikeT tv (needI k i)) := by
    unfold argumentS
    rw [thAt_some ht, List.getD_eq_getElem?_getD, hr]
    rfl
  rw [ea]
  have tlt := (List.getElem?_eq_some_iff.1 ht).1
  have jl := (List.getElem?_eq_some_iff.1 hr).1
  have HP := Hid.mk (And.intro h1 (And.intro h16 (And.intro al (And.intro ao (And.intro ak (And.intro ok (And.intro vv hx)))))))
  have BW : Hid (∀ w8, Below W.drew.heap.size W.drew w8 → Below W.heap.size W w8) := ⟨fun w8 B => (Below.refl _ _).drew.trans B⟩
  have xlt := lt_of_block XX
  have wlt := lt_of_block XW
  have nI : (i : Int) < n := by omega
  have HNL := Hid.mk nl
  clear nl
  have hbx : Hid (G w.heap.size = none ∧ True) := ⟨h.rep.free (Nat.le_refl _), trivial⟩
  by_cases z : unlikeT tv (needI k i) = 0
  · rw [if_pos z]
    have HZ := Hid.mk z
    generalize hnd : needI k i = nd at *
    have HND := Hid.mk hnd
    clear h hb ht vv hg hx hn hr al ao ak ok KW XW RW hcx pa pt ecx XX ea h1 hnd
    go_enter Tryz.func80, Tryz.ntmps80
    go_wp2
    rw [← hW]
    clear hW
    go_region_held3 (fun w' => w'.cell? ⟨w.heap.size, 3, none⟩ = some (ptr xb) ∧ w'.cell? ⟨w.heap.size, 5, none⟩ = some (.int .i64 i) ∧ w'.cell? ⟨xb, 2, none⟩ = some (.int .i64 k)) (go_keep) (first
      | (go_at_call 102; refine ND.mono ?_; rintro e w8 ⟨rfl, B8⟩; have B9 := BW.out _ B8; have HB9 := Hid.mk B9; have X9 := HH.out.2.1.later B9; have s3 : w8.cell? ⟨w.heap.size, 3, none⟩ = some (ptr xb) := X9.cell 3; have s5 : w8.cell? ⟨w.heap.size, 5, none⟩ = some (.int .i64 i) := X9.cell 5; have s6 : w8.cell? ⟨xb, 2, none⟩ = some (.int .i64 k) := (HH.out.2.2.1.later B9).cell 2; have UL := unlike_any (HH.out.1.below B9).rep HH.out.2.2.2.2.1 HH.out.2.2.2.2.2.2.2 nd; rw [HZ.out] at UL; clear B8 B9 X9)
      | (go_at_call 104; refine UL.mono ?_; rintro e w9 ⟨rfl, rfl⟩))
    obtain ⟨RW, XW, XX, KW, hb, hg, hr, ht⟩ := HH.out
    obtain ⟨h1, h16', al, ao, ak, ok, vv, hx⟩ := HP.out
    have R9 := RW.below HB9.out
    have X9 := XW.later HB9.out
    have s2 := X9.cell 2
    obtain ⟨u, hu, hz, R10, F10⟩ := R9.putR hg hb hr il
    have AA := args_any (ar := ar) (j := j) (n := n) (k := k) (xb := xb) (i := i + 1) (la := la) R10 ⟨g, cap, rfl, hcap, hg⟩ (l := l.set i t) (List.getElem?_set_self jl) (by rw [List.length_set]; exact HNL.out) hx h1 h16' (by rw [List.length_set]; exact al) (fun y hy => by
      rcases List.mem_or_eq_of_mem_set hy with hy | rfl
      · exact ao y hy
      · exact tlt) (fun m hm => by
      by_cases e : m = i
      · subst e
        rw [List.getD_eq_getElem?_getD, List.getElem?_set_self (by omega)]
        exact ⟨tv, ht, fun _ => vv, by rw [HND.out]; exact HZ.out⟩
      · rw [List.getD_eq_getElem?_getD, List.getElem?_set_ne (fun x => e x.symm), ← List.getD_eq_getElem?_getD]
        exact ak m (by omega)) ok hw ho (by rw [List.length_set]; omega)
    rw [show (((i + 1 : Nat)) : Int) = (i : Int) + 1 by omega] at AA
    have HF := Hid.mk ((Fx.of_below (G := G) KW).trans ((Fx.of_below HB9.out).trans F10))
    have gl := RW.rep.lt hg
    have glw : ¬ w.heap.size = g := fun z => by have := hbx.out.1; rw [z, hg] at this; cases this
    have glw' : ¬ g = w.heap.size := fun z => glw z.symm
    have nIc : (i : Int) < n := nI
    clear RW XW XX KW hb hg hr ht al ao ak ok vv hx R9 X9 R10 F10
    have wi : wrap64 ((i : Int) + 1) = (i : Int) + 1 := by unfold wrap64; omega
    go_wp2_with (go_at_call 74; rw [wi]; refine AA.mono ?_; intro e w10 H9; have HE := Hid.mk (Out.from HF.out H9); obtain ⟨rfl, _⟩ := H9)
    go_end0
    exact HE.out
  · rw [if_neg z]
    have g0 : (unlikeT tv (needI k i) == 0) = false := beq_eq_false_iff_ne.2 z
    have g0' : (unlikeT tv (needI k i) != 0) = true := by simp [z]
    have UE : Hid (∀ w8 : World, Run w8 G rb mb mv s sh → Calls Tryz.prog 75 #[ptr rb, .int .i64 (unlikeT tv (needI k i))] w8 (Out w8 G rb mb mv (failS s (unlikeT tv (needI k i))) sh)) := ⟨fun w8 R8 => fails_any R8 _ (by omega)⟩
    obtain ⟨ue, hue⟩ : ∃ x, unlikeT tv (needI k i) = x := ⟨_, rfl⟩
    have HUE := Hid.mk hue
    rw [hue] at g0 g0' UE ⊢
    generalize needI k i = nd at *
    clear h hb ht vv hg hx hn hr al ao ak ok KW XW RW hcx pa pt ecx XX ea h1 z hue
    go_enter Tryz.func80, Tryz.ntmps80
    go_wp2
    rw [← hW]
    clear hW
    go_region_held3 (fun w' => w'.cell? ⟨w.heap.size, 3, none⟩ = some (ptr xb) ∧ w'.cell? ⟨w.heap.size, 5, none⟩ = some (.int .i64 i) ∧ w'.cell? ⟨xb, 2, none⟩ = some (.int .i64 k)) (go_keep) (first
      | (go_at_call 102; refine ND.mono ?_; rintro e w8 ⟨rfl, B8⟩; have B9 := BW.out _ B8; have HB9 := Hid.mk B9; have X9 := HH.out.2.1.later B9; have s3 : w8.cell? ⟨w.heap.size, 3, none⟩ = some (ptr xb) := X9.cell 3; have s5 : w8.cell? ⟨w.heap.size, 5, none⟩ = some (.int .i64 i) := X9.cell 5; have s6 : w8.cell? ⟨xb, 2, none⟩ = some (.int .i64 k) := (HH.out.2.2.1.later B9).cell 2; have UL := unlike_any (HH.out.1.below B9).rep HH.out.2.2.2.2.1 HH.out.2.2.2.2.2.2.2 nd; rw [HUE.out] at UL; have K := UE.out _ (HH.out.1.below B9); clear B8 B9 X9)
      | (go_at_call 104; refine UL.mono ?_; rintro e w9 ⟨rfl, rfl⟩))
    all_goals go_wp2_with (go_at_call 75; refine K.mono ?_; intro e w10 H9; have HE := Hid.mk (Out.from ((Fx.of_below (G := G) HH.out.2.2.2.1).trans (Fx.of_below HB9.out)) H9); obtain ⟨rfl, _⟩ := H9)
    all_goals go_end0
    all_goals exact HE.out
end
end Go.Proofs.YtbajpejnnfacbaaGreatDoor.Lz
