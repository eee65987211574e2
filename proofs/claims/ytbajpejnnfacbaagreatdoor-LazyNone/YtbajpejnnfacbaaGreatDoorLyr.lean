/- Package lazy: constructors and primitives are evaluated. -/
import Derived.Test.YtbajpejnnfacbaaGreatDoorLyq
namespace Go.Proofs.YtbajpejnnfacbaaGreatDoor.Lz
open Go.RowKit
set_option linter.unusedVariables false
set_option linter.unusedSimpArgs false


theorem NewRow.prow {w : World} {G : Gm} {th : List T} {rows : List (List Nat)} {g : Nat} {ids : List Nat} (h : Rep w G th rows) (k : NewRow w G g ids) : Rep w (Lz.tag G g (.prow rows.length)) th (rows ++ [ids]) := by
  obtain ⟨c, hc, hz, ht⟩ := k.blk
  exact h.prow k.free ⟨ids, c, by simp, hc, hz, fun j i hj => by obtain ⟨v, h1, h2⟩ := ht j i hj; exact ⟨v, h1, pT.le (le_tag k.free _) h2⟩⟩
theorem atomsP_all {ar : List Nat} {e : Env} {sh : List Nat} {l : List Am} {th : List T} (h : okAll ar th) (k : ∀ a ∈ l, okAm sh a) : okAll ar (atomsP e l th).2 := by
  obtain ⟨l', e1, q⟩ := atomsP_th e sh l th k
  rw [e1]
  exact h.app (fun t ht => by obtain ⟨n, rfl, hn⟩ := q t ht; exact hn)
section
variable {w w' : World} {G G' : Gm} {rb mb : Nat} {mv : Mv} {s : St} {sh : Int}
theorem tellNew_more (h : Run w G rb mb mv s sh) {t : T} {c : Array Value} (ht : isT (w.alloc (.cells c 91)) (Lz.tag G w.heap.size (.thing s.th.length)) s.th.length t c) :
    Calls Tryz.prog 67 #[ptr rb, ptr w.heap.size] (w.alloc (.cells c 91)) fun en w' => Out w G rb mb mv (tellNew s t) sh en w' ∧ ∀ i, i ≠ rb → w'.heap[i]? = (w.alloc (.cells c 91)).heap[i]? := by
  obtain ⟨R, F⟩ := h.newT ht
  exact (tells_more R ⟨w.heap.size, rfl, tag_self _ _ _⟩).mono (fun e w8 H => ⟨Out.from F H.1, H.2⟩)
set_option maxRecDepth 100000 in
set_option maxHeartbeats 8000000 in
theorem eval_prim {ar : List Nat} (h : Run w G rb mb mv s sh) {k : Nat} {l : List Am} {e : Env} (hm : s.md = .ev (.prim k l) e) (gd : Good ar s) (f0 : s.fuel ≠ 0) (fb : s.fuel < 9223372036854775808) (sb : s.steps + 1 < 9223372036854775808) (hw : s.ws.length + 1 ≤ 1000000000) (ho : s.out.length + 1 ≤ 1000000000) : Calls Tryz.prog 50 #[ptr rb] w (Out w G rb mb mv (evalX { s with fuel := s.fuel - 1, steps := s.steps + 1 } (.prim k l) e) sh) := by
  obtain ⟨xb, nb, hx, hn, ne, c0, c1, z1, z2, ⟨u2, c2⟩, m6, zm6, TK⟩ := h.tick hm
  obtain ⟨W, hW⟩ : ∃ x, x = (w.setCell ⟨rb, 1, none⟩ (.int .i64 ((s.fuel : Int) - 1))).setCell ⟨mb, 6, none⟩ (.int .i64 ((s.steps : Int) + 1)) := ⟨_, rfl⟩
  obtain ⟨R2, F2, y3, y4⟩ := TK W _ _ hW (by omega) (by omega)
  have mdt := gd.md
  rw [hm] at mdt
  obtain ⟨oe, ox⟩ := mdt
  have oth := gd.th
  obtain ⟨s1, hs1⟩ : ∃ x : St, x = { s with fuel := s.fuel - 1, steps := s.steps + 1 } := ⟨_, rfl⟩
  have t1 : s1.th = s.th := by rw [hs1]
  have w1 : s1.ws = s.ws := by rw [hs1]
  have o1 : s1.out = s.out := by rw [hs1]
  have r1 : s1.rows = s.rows := by rw [hs1]
  rw [← hs1] at R2 ⊢
  rw [← t1] at oe oth
  have oth : okAll ar s1.th := oth
  have fz : ((s.fuel : Int) == 0) = false := beq_eq_false_iff_ne.2 (by omega)
  have ne' : ¬ mb = rb := fun z => ne z.symm
  have ne2 : ¬ rb = mb := ne
  obtain ⟨cx, hcx, qx⟩ := R2.rep.expB hx
  obtain ⟨av, tl, hav, htl, rfl⟩ := qx
  have HA := Hid.mk hav
  obtain ⟨ga, cap, rfl, hq1, hq2, _⟩ := hav
  have XX : Bx W xb _ 147 := hcx
  have HX := Hid.mk XX
  have HXN := Hid.mk (And.intro hx (And.intro hn (And.intro oe (And.intro ox oth))))
  have HR2 := Hid.mk R2
  have HF2 := Hid.mk F2
  have HT := Hid.mk (And.intro t1 (And.intro w1 (And.intro o1 r1)))
  generalize s.fuel = fu at *
  generalize s.steps = sp at *
  clear h hm gd TK R2 F2 hx hn oe ox oth hcx XX f0 t1 w1 o1 r1 hs1 ne
  go_enter Tryz.func50, Tryz.ntmps50
  go_wp2
  rw [← hW]
  clear hW
  go_quiet (fail)
  obtain ⟨w3, hw3⟩ : ∃ x, x = W.drewN nq := ⟨_, rfl⟩
  rw [← hw3]
  have HD : Hid (Below W.heap.size W w3) := ⟨by rw [hw3]; exact below_drewN (Below.refl _ _) _⟩
  clear hw3 c0 c1 c2 z1 z2 m6 zm6 y3 y4
  have HF3 : Hid (Fx G G w w3) := ⟨HF2.out.trans (Fx.of_below HD.out)⟩
  have HR3 : Hid (Run w3 G rb mb mv s1 sh) := ⟨HR2.out.below HD.out⟩
  have k0 := (HX.out.later HD.out).cell 0
  have k6 := (HX.out.later HD.out).cell 6
  have LA := latoms_more HR3.out.rep HXN.out.2.1 HXN.out.2.2.1 l HA.out HXN.out.2.2.2.1.2.2.2
  have AFT : Hid (∀ g cap8 G8 w8, l.length ≤ cap8 → w3.heap.size ≤ g → NewRow w8 G8 g (atomsP e l s1.th).1 → Fz G G8 w3 w8 → Rep w8 G8 (atomsP e l s1.th).2 s1.rows → Calls Tryz.prog 74 #[ptr rb, ptr xb, .slice (some ⟨g, 0, none⟩) l.length cap8, .int .i64 0] w8 (Out w G rb mb mv (evalX s1 (.prim k l) e) sh)) := ⟨fun g cap8 G8 w8 hc8 hg8 NR8 F8 R8 => by
    have F9 : Fz G (Lz.tag G8 g (.prow s1.rows.length)) w3 w8 := F8.more rfl rfl rfl (Nat.le_refl _) (fun _ _ => rfl) (le_tag NR8.free _) (fun i hi q => by rw [tag_ne _ _ (by omega)]; exact q)
    have R9 := HR3.out.nextZ F9 (NR8.prow R8)
    obtain ⟨ok1, ok2, ok3, ok4⟩ := HXN.out.2.2.2.1
    have ll : (atomsP e l s1.th).1.length = l.length := atomsP_len e l s1.th
    have AA := args_any (ar := ar) (j := s1.rows.length) (n := l.length) (k := k) (xb := xb) (i := 0) (la := l) R9 ⟨g, cap8, rfl, hc8, tag_self _ _ _⟩ (l := (atomsP e l s1.th).1) (by simp) ll.symm (F9.le _ _ HXN.out.1) ok1 ok2 (by rw [ll]; exact ok3) (atomsP_ok l s1.th HXN.out.2.2.1 ok4) (fun m hm => absurd hm (by omega)) (atomsP_all HXN.out.2.2.2.2 ok4) (by simp only; rw [HT.out.2.1]; exact hw) (by simp only; rw [HT.out.2.2.1]; exact ho) (Nat.zero_le _)
    exact AA.mono (fun en w10 H => Out.from (HF3.out.trans F9.fx) H)⟩
  generalize l.length = nl at *
  go_wp2_with (first
    | (go_at_call 68; refine LA.mono ?_; rintro r w8 ⟨g8, cap8, G8, rfl, hc8, hg8, NR8, F8, R8⟩; have K := AFT.out g8 cap8 G8 w8 hc8 hg8 NR8 F8 R8; clear hc8 hg8 NR8 F8 R8)
    | (go_at_call 74; refine K.mono ?_; intro e9 w10 H9; have HE := Hid.mk H9; obtain ⟨rfl, _⟩ := H9))
  all_goals go_end0
  all_goals exact HE.out
set_option maxRecDepth 100000 in
set_option maxHeartbeats 8000000 in
theorem eval_con {ar : List Nat} (h : Run w G rb mb mv s sh) {n : Nat} {l : List Am} {e : Env} (hm : s.md = .ev (.con n l) e) (gd : Good ar s) (f0 : s.fuel ≠ 0) (fb : s.fuel < 9223372036854775808) (sb : s.steps + 1 < 9223372036854775808) : Calls Tryz.prog 50 #[ptr rb] w (Out w G rb mb mv (evalX { s with fuel := s.fuel - 1, steps := s.steps + 1 } (.con n l) e) sh) := by
  obtain ⟨xb, nb, hx, hn, ne, c0, c1, z1, z2, ⟨u2, c2⟩, m6, zm6, TK⟩ := h.tick hm
  obtain ⟨W, hW⟩ : ∃ x, x = (w.setCell ⟨rb, 1, none⟩ (.int .i64 ((s.fuel : Int) - 1))).setCell ⟨mb, 6, none⟩ (.int .i64 ((s.steps : Int) + 1)) := ⟨_, rfl⟩
  obtain ⟨R2, F2, y3, y4⟩ := TK W _ _ hW (by omega) (by omega)
  have mdt := gd.md
  rw [hm] at mdt
  obtain ⟨oe, ox⟩ := mdt
  have oth := gd.th
  obtain ⟨s1, hs1⟩ : ∃ x : St, x = { s with fuel := s.fuel - 1, steps := s.steps + 1 } := ⟨_, rfl⟩
  have t1 : s1.th = s.th := by rw [hs1]
  have w1 : s1.ws = s.ws := by rw [hs1]
  have o1 : s1.out = s.out := by rw [hs1]
  have r1 : s1.rows = s.rows := by rw [hs1]
  rw [← hs1] at R2 ⊢
  rw [← t1] at oe oth
  have oth : okAll ar s1.th := oth
  have fz : ((s.fuel : Int) == 0) = false := beq_eq_false_iff_ne.2 (by omega)
  have ne' : ¬ mb = rb := fun z => ne z.symm
  have ne2 : ¬ rb = mb := ne
  obtain ⟨cx, hcx, qx⟩ := R2.rep.expB hx
  obtain ⟨av, hav, rfl⟩ := qx
  have HA := Hid.mk hav
  obtain ⟨ga, cap, rfl, hq1, hq2, _⟩ := hav
  have XX : Bx W xb _ 147 := hcx
  have HX := Hid.mk XX
  have HXN := Hid.mk (And.intro hx (And.intro hn (And.intro oe (And.intro ox oth))))
  have HR2 := Hid.mk R2
  have HF2 := Hid.mk F2
  have HT := Hid.mk (And.intro t1 (And.intro w1 (And.intro o1 r1)))
  generalize s.fuel = fu at *
  generalize s.steps = sp at *
  clear h hm gd TK R2 F2 hx hn oe ox oth hcx XX f0 t1 w1 o1 r1 hs1 ne
  go_enter Tryz.func50, Tryz.ntmps50
  go_wp2
  rw [← hW]
  clear hW
  go_quiet (fail)
  obtain ⟨w3, hw3⟩ : ∃ x, x = W.drewN nq := ⟨_, rfl⟩
  rw [← hw3]
  have HD : Hid (Below W.heap.size W w3) := ⟨by rw [hw3]; exact below_drewN (Below.refl _ _) _⟩
  clear hw3 c0 c1 c2 z1 z2 m6 zm6 y3 y4
  have HF3 : Hid (Fx G G w w3) := ⟨HF2.out.trans (Fx.of_below HD.out)⟩
  have HR3 : Hid (Run w3 G rb mb mv s1 sh) := ⟨HR2.out.below HD.out⟩
  have k0 := (HX.out.later HD.out).cell 0
  have k1 := (HX.out.later HD.out).cell 1
  have k6 := (HX.out.later HD.out).cell 6
  have LA := latoms_more HR3.out.drew.rep HXN.out.2.1 HXN.out.2.2.1 l HA.out HXN.out.2.2.2.1.2.2
  have x3l : xb < w3.heap.size := lt_of_block (HX.out.later HD.out)
  have AFT : Hid (∀ g cap8 G8 w8, l.length ≤ cap8 → w3.drew.heap.size ≤ g → NewRow w8 G8 g (atomsP e l s1.th).1 → Fz G G8 w3.drew w8 → Rep w8 G8 (atomsP e l s1.th).2 s1.rows → w8.cell? ⟨xb, 1, none⟩ = some (.int .i64 n) ∧ w8.cell? ⟨xb, 6, none⟩ = some (.slice ga l.length cap) ∧ Calls Tryz.prog 67 #[ptr rb, ptr w8.heap.size] (w8.alloc (.cells (thC 1 n nilp nilp nilp (.slice (some ⟨g, 0, none⟩) l.length cap8) nilm 0) 91)) fun en w' => Out w G rb mb mv (evalX s1 (.con n l) e) sh en w' ∧ w'.cell? ⟨xb, 1, none⟩ = some (.int .i64 n) ∧ w'.cell? ⟨xb, 6, none⟩ = some (.slice ga l.length cap)) := ⟨fun g cap8 G8 w8 hc8 hg8 NR8 F8 R8 => by
    have hg9 : w3.heap.size ≤ g := hg8
    obtain ⟨R9r, PR⟩ := NR8.row R8
    have F9 : Fz G (Lz.tag G8 g (.row (atomsP e l s1.th).1)) w3.drew w8 := F8.more rfl rfl rfl (Nat.le_refl _) (fun _ _ => rfl) (le_tag NR8.free _) (fun i hi q => by rw [tag_ne _ _ (by have : i < w3.heap.size := hi; omega)]; exact q)
    have R9 := HR3.out.drew.nextZ F9 R9r
    have ll : (atomsP e l s1.th).1.length = l.length := atomsP_len e l s1.th
    have PR8 := PR cap8 (by rw [ll]; exact hc8)
    rw [ll] at PR8
    have TN := tellNew_more R9 (t := .con n (atomsP e l s1.th).1) (c := thC 1 n nilp nilp nilp (.slice (some ⟨g, 0, none⟩) l.length cap8) nilm 0) ⟨_, pRow.le (le_tag (R9.rep.free (Nat.le_refl _)) _) PR8, rfl⟩
    have bq := F8.block xb x3l (by rw [HXN.out.1]; trivial)
    have q1 : w8.cell? ⟨xb, 1, none⟩ = some (.int .i64 n) := (World.cell?_of_block (a := ⟨xb, 1, none⟩) bq).trans k1
    have q6 : w8.cell? ⟨xb, 6, none⟩ = some (.slice ga l.length cap) := (World.cell?_of_block (a := ⟨xb, 6, none⟩) bq).trans k6
    have xr : xb ≠ rb := fun z => by have := HXN.out.1; rw [z, HR3.out.rt] at this; cases this
    have xl8 : xb < w8.heap.size := Nat.lt_of_lt_of_le x3l F8.size
    refine ⟨q1, q6, TN.mono (fun en w10 H => ⟨Out.from ((HF3.out.trans (Fx.drewL _ _)).trans F9.fx) H.1, ?_, ?_⟩)⟩
    · exact (World.cell?_of_block (a := ⟨xb, 1, none⟩) (H.2 xb xr)).trans (((Joins.below_alloc1 w8 _).cell xl8).trans q1)
    · exact (World.cell?_of_block (a := ⟨xb, 6, none⟩) (H.2 xb xr)).trans (((Joins.below_alloc1 w8 _).cell xl8).trans q6)⟩
  generalize l.length = nl at *
  go_wp2
  go_region_held3 (fun w' => w'.cell? ⟨xb, 1, none⟩ = some (.int .i64 n) ∧ w'.cell? ⟨xb, 6, none⟩ = some (.slice ga nl cap)) (go_keep) (first
    | (go_at_call 68; refine LA.mono ?_; rintro r w8 ⟨g8, cap8, G8, rfl, hc8, hg8, NR8, F8, R8⟩; obtain ⟨s0, s1', K⟩ := AFT.out g8 cap8 G8 w8 hc8 hg8 NR8 F8 R8; clear hc8 hg8 NR8 F8 R8)
    | (go_at_call 67; refine K.mono ?_; rintro e9 w10 ⟨H9, t0, t1⟩; have HE := Hid.mk H9; obtain ⟨rfl, _⟩ := H9))
  all_goals go_wp2
  all_goals go_end0
  all_goals exact HE.out

end
end Go.Proofs.YtbajpejnnfacbaaGreatDoor.Lz
