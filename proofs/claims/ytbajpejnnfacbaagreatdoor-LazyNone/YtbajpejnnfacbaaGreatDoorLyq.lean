/- Package lazy: an expression is evaluated. -/
import Derived.Test.YtbajpejnnfacbaaGreatDoorLyp
import Derived.Test.YtbajpejnnfacbaaGreatDoorLyg
namespace Go.Proofs.YtbajpejnnfacbaaGreatDoor.Lz
open Go.RowKit
set_option linter.unusedVariables false
set_option linter.unusedSimpArgs false


section
variable {w w' : World} {G G' : Gm} {rb mb : Nat} {mv : Mv} {s : St} {sh : Int}
/-- what is evaluated next, and a step more is counted -/
theorem Run.tick (h : Run w G rb mb mv s sh) {x : X} {e : Env} (hm : s.md = .ev x e) : ∃ xb nb, G xb = some (.exp x) ∧ G nb = some (.env e) ∧ rb ≠ mb ∧ w.cell? ⟨rb, 0, none⟩ = some (ptr mb) ∧ w.cell? ⟨rb, 1, none⟩ = some (.int .i64 s.fuel) ∧ w.frozen? ⟨rb, 1, none⟩ = false ∧ w.frozen? ⟨rb, 2, none⟩ = false ∧ (∃ u, w.cell? ⟨rb, 2, none⟩ = some u) ∧ w.cell? ⟨mb, 6, none⟩ = some (.int .i64 s.steps) ∧ w.frozen? ⟨mb, 6, none⟩ = false ∧
    ∀ W vf vs, W = (w.setCell ⟨rb, 1, none⟩ (.int .i64 vf)).setCell ⟨mb, 6, none⟩ (.int .i64 vs) → vf = ((s.fuel - 1 : Nat) : Int) → vs = ((s.steps + 1 : Nat) : Int) → Run W G rb mb mv { s with fuel := s.fuel - 1, steps := s.steps + 1 } sh ∧ Fx G G w W ∧ W.cell? ⟨rb, 3, none⟩ = some (ptr xb) ∧ W.cell? ⟨rb, 4, none⟩ = some (ptr nb) := by
  obtain ⟨nx, vx, vn, vo, wr, vw, cs, a, b, c, d⟩ := h.r
  obtain ⟨v2, m1, m2⟩ := h.m
  have b0 := b
  rw [hm] at b
  obtain ⟨rfl, ⟨xb, rfl, hx⟩, ⟨nb, rfl, hn⟩⟩ := b
  have ne := h.ne
  refine ⟨xb, nb, hx, hn, ne, a.cell 0, a.cell 1, Joins.unfrozen_of_block a 1, Joins.unfrozen_of_block a 2, ⟨_, a.cell 2⟩, (show Bx w mb _ 74 from m1).cell 6, Joins.unfrozen_of_block m1 6, fun W vf vs hW hf hs => ?_⟩
  have a1 : Bx (w.setCell ⟨rb, 1, none⟩ (.int .i64 vf)) rb (rC mb (s.fuel - 1) 0 (ptr xb) (ptr nb) vo wr vw sh) 101 := by rw [hf]; exact Joins.block_setCell (i := 1) a _
  have a2 : Bx W rb (rC mb (s.fuel - 1) 0 (ptr xb) (ptr nb) vo wr vw sh) 101 := by rw [hW]; exact (setCell_block _ _ _ _ ne).trans a1
  have n1 : (w.setCell ⟨rb, 1, none⟩ (.int .i64 vf)).heap[mb]? = some (.cells (mC mv v2 s.steps) 74 (0, 0)) := (setCell_block _ _ _ _ (fun z => ne z.symm)).trans m1
  have n2 : Bx W mb (mC mv v2 (s.steps + 1)) 74 := by rw [hW, hs]; exact Joins.block_setCell (i := 6) n1 _
  have oth : ∀ i, i ≠ rb → i ≠ mb → W.heap[i]? = w.heap[i]? := fun i h1 h2 => by rw [hW]; exact (setCell_block _ _ _ _ h2).trans (setCell_block _ _ _ _ h1)
  have sz : w.heap.size ≤ W.heap.size := by rw [hW, size_set, size_set]; exact Nat.le_refl _
  have tr : ∀ i ty, G i = some ty → ty ≠ .own 0 → i ≠ rb := fun i ty hi q z => by rw [z, h.rt] at hi; cases hi; exact q rfl
  have tm : ∀ i ty, G i = some ty → ty ≠ .own 1 → i ≠ mb := fun i ty hi q z => by rw [z, h.mt] at hi; cases hi; exact q rfl
  have z0 : (0 : Nat) ≠ rb := fun z => by have := h.rt; rw [← z, h.g0] at this; cases this
  have z1 : (0 : Nat) ≠ mb := fun z => by have := h.mt; rw [← z, h.g0] at this; cases this
  refine ⟨⟨h.rep.owned sz (fun i ty hi hk => oth i (tr i ty hi (hk 0)) (tm i ty hi (hk 1))), Table.of_block h.tab h.pos (oth 0 z0 z1), h.g0, h.rt, h.mt, ⟨_, _, _, _, _, _, cs, a2, b0, c.kept (Le.refl G) (fun g hg => oth g (tr g _ hg (by simp)) (tm g _ hg (by simp))), d⟩, ⟨v2, n2, m2.kept (Le.refl G) (fun g hg => oth g (tr g _ hg (by simp)) (tm g _ hg (by simp)))⟩⟩, ⟨by rw [hW]; rfl, by rw [hW]; rfl, by rw [hW]; rfl, sz, fun i hi k => oth i (fun z => by rw [z, h.rt] at k; exact absurd k (by simp [fixd])) (fun z => by rw [z, h.mt] at k; exact absurd k (by simp [fixd])), Le.refl G, fun _ _ q => q⟩, a2.cell 3, a2.cell 4⟩
set_option maxRecDepth 100000 in
set_option maxHeartbeats 8000000 in
theorem eval_int {ar : List Nat} (h : Run w G rb mb mv s sh) {n : Int} {e : Env} (hm : s.md = .ev (.int n) e) (gd : Good ar s) (f0 : s.fuel ≠ 0) (fb : s.fuel < 9223372036854775808) (sb : s.steps + 1 < 9223372036854775808) : Calls Tryz.prog 50 #[ptr rb] w (Out w G rb mb mv (evalX { s with fuel := s.fuel - 1, steps := s.steps + 1 } (.int n) e) sh) := by
  obtain ⟨xb, nb, hx, hn, ne, c0, c1, z1, z2, ⟨u2, c2⟩, m6, zm6, TK⟩ := h.tick hm
  obtain ⟨W, hW⟩ : ∃ x, x = (w.setCell ⟨rb, 1, none⟩ (.int .i64 ((s.fuel : Int) - 1))).setCell ⟨mb, 6, none⟩ (.int .i64 ((s.steps : Int) + 1)) := ⟨_, rfl⟩
  obtain ⟨R2, F2, y3, y4⟩ := TK W _ _ hW (by omega) (by omega)
  have mdt := gd.md
  rw [hm] at mdt
  obtain ⟨oe, ox⟩ := mdt
  have oth := gd.th
  obtain ⟨s1, hs1⟩ : ∃ x : St, x = { s with fuel := s.fuel - 1, steps := s.steps + 1 } := ⟨_, rfl⟩
  have t1 : s1.th = s.th := by rw [hs1]
  have w1 : s1.ws = s.ws := by rw [hs1]
  have o1 : s1.out = s.out := by rw [hs1]
  have r1 : s1.rows = s.rows := by rw [hs1]
  rw [← hs1] at R2 ⊢
  rw [← t1] at oe oth
  have oth : okAll ar s1.th := oth
  have fz : ((s.fuel : Int) == 0) = false := beq_eq_false_iff_ne.2 (by omega)
  have ne' : ¬ mb = rb := fun z => ne z.symm
  have ne2 : ¬ rb = mb := ne
  obtain ⟨cx, hcx, qx⟩ := R2.rep.expB hx
  obtain rfl := qx
  have XX : Bx W xb _ 147 := hcx
  have HX := Hid.mk XX
  have HXN := Hid.mk (And.intro hx (And.intro hn (And.intro oe (And.intro ox oth))))
  have HR2 := Hid.mk R2
  have HF2 := Hid.mk F2
  have HT := Hid.mk (And.intro t1 (And.intro w1 (And.intro o1 r1)))
  generalize s.fuel = fu at *
  generalize s.steps = sp at *
  clear h hm gd TK R2 F2 hx hn oe ox oth hcx XX f0 t1 w1 o1 r1 hs1 ne
  go_enter Tryz.func50, Tryz.ntmps50
  go_wp2
  rw [← hW]
  clear hW
  go_quiet (fail)
  obtain ⟨w3, hw3⟩ : ∃ x, x = W.drewN nq := ⟨_, rfl⟩
  rw [← hw3]
  have HD : Hid (Below W.heap.size W w3) := ⟨by rw [hw3]; exact below_drewN (Below.refl _ _) _⟩
  clear hw3 c0 c1 c2 z1 z2 m6 zm6 y3 y4
  have HF3 : Hid (Fx G G w w3) := ⟨HF2.out.trans (Fx.of_below HD.out)⟩
  have HR3 : Hid (Run w3 G rb mb mv s1 sh) := ⟨HR2.out.below HD.out⟩
  have k0 := (HX.out.later HD.out).cell 0
  have k1 := (HX.out.later HD.out).cell 1
  have NA := numbered_any w3 n
  have K := tellNew_out HR3.out (t := .num n) (c := numC n) rfl
  go_wp2_with (first
    | (go_at_call 35; refine NA.mono ?_; rintro r w8 ⟨rfl, rfl⟩)
    | (go_at_call 67; refine K.mono ?_; intro e9 w10 H9; have HE := Hid.mk (Out.from HF3.out H9); obtain ⟨rfl, _⟩ := H9))
  all_goals go_end0
  all_goals exact HE.out
set_option maxRecDepth 100000 in
set_option maxHeartbeats 8000000 in
theorem eval_app0 {ar : List Nat} (h : Run w G rb mb mv s sh) {p : Pl} {e : Env} (hm : s.md = .ev (.app p []) e) (gd : Good ar s) (f0 : s.fuel ≠ 0) (fb : s.fuel < 9223372036854775808) (sb : s.steps + 1 < 9223372036854775808) : Calls Tryz.prog 50 #[ptr rb] w (Out w G rb mb mv (evalX { s with fuel := s.fuel - 1, steps := s.steps + 1 } (.app p []) e) sh) := by
  obtain ⟨xb, nb, hx, hn, ne, c0, c1, z1, z2, ⟨u2, c2⟩, m6, zm6, TK⟩ := h.tick hm
  obtain ⟨W, hW⟩ : ∃ x, x = (w.setCell ⟨rb, 1, none⟩ (.int .i64 ((s.fuel : Int) - 1))).setCell ⟨mb, 6, none⟩ (.int .i64 ((s.steps : Int) + 1)) := ⟨_, rfl⟩
  obtain ⟨R2, F2, y3, y4⟩ := TK W _ _ hW (by omega) (by omega)
  have mdt := gd.md
  rw [hm] at mdt
  obtain ⟨oe, ox⟩ := mdt
  have oth := gd.th
  obtain ⟨s1, hs1⟩ : ∃ x : St, x = { s with fuel := s.fuel - 1, steps := s.steps + 1 } := ⟨_, rfl⟩
  have t1 : s1.th = s.th := by rw [hs1]
  have w1 : s1.ws = s.ws := by rw [hs1]
  have o1 : s1.out = s.out := by rw [hs1]
  have r1 : s1.rows = s.rows := by rw [hs1]
  rw [← hs1] at R2 ⊢
  rw [← t1] at oe oth
  have oth : okAll ar s1.th := oth
  have fz : ((s.fuel : Int) == 0) = false := beq_eq_false_iff_ne.2 (by omega)
  have ne' : ¬ mb = rb := fun z => ne z.symm
  have ne2 : ¬ rb = mb := ne
  obtain ⟨cx, hcx, qx⟩ := R2.rep.expB hx
  obtain ⟨av, ⟨ga, cap, rfl, _⟩, rfl⟩ := qx
  rw [show ([] : List Am).length = 0 from rfl] at *
  have XX : Bx W xb _ 147 := hcx
  have HX := Hid.mk XX
  have HXN := Hid.mk (And.intro hx (And.intro hn (And.intro oe (And.intro ox oth))))
  have HR2 := Hid.mk R2
  have HF2 := Hid.mk F2
  have HT := Hid.mk (And.intro t1 (And.intro w1 (And.intro o1 r1)))
  generalize s.fuel = fu at *
  generalize s.steps = sp at *
  clear h hm gd TK R2 F2 hx hn oe ox oth hcx XX f0 t1 w1 o1 r1 hs1 ne
  go_enter Tryz.func50, Tryz.ntmps50
  go_wp2
  rw [← hW]
  clear hW
  go_quiet (fail)
  obtain ⟨w3, hw3⟩ : ∃ x, x = W.drewN nq := ⟨_, rfl⟩
  rw [← hw3]
  have HD : Hid (Below W.heap.size W w3) := ⟨by rw [hw3]; exact below_drewN (Below.refl _ _) _⟩
  clear hw3 c0 c1 c2 z1 z2 m6 zm6 y3 y4
  have HF3 : Hid (Fx G G w w3) := ⟨HF2.out.trans (Fx.of_below HD.out)⟩
  have HR3 : Hid (Run w3 G rb mb mv s1 sh) := ⟨HR2.out.below HD.out⟩
  have k0 := (HX.out.later HD.out).cell 0
  have k4 := (HX.out.later HD.out).cell 4
  have k5 := (HX.out.later HD.out).cell 5
  have k6 := (HX.out.later HD.out).cell 6
  have AT := at_any HR3.out.rep HXN.out.2.1 p HXN.out.2.2.2.1.1 HXN.out.2.2.1.2.2
  go_wp2_with (first
    | (go_at_call 69; refine AT.mono ?_; rintro r w8 ⟨⟨v8, rfl, ⟨b8, rfl, P8⟩⟩, B8⟩; have K := knows_any (HR3.out.below B8) ⟨b8, rfl, P8⟩; have HB8 := Hid.mk B8; clear B8)
    | (go_at_call 49; refine K.mono ?_; intro e9 w10 H9; have HE := Hid.mk (Out.from (HF3.out.trans (Fx.of_below HB8.out)) H9); obtain ⟨rfl, _⟩ := H9))
  all_goals go_end0
  all_goals exact HE.out
set_option maxRecDepth 100000 in
set_option maxHeartbeats 8000000 in
theorem eval_cs {ar : List Nat} (h : Run w G rb mb mv s sh) {kid : X} {al : List Ar} {o : List X} {e : Env} (hm : s.md = .ev (.cs kid al o) e) (gd : Good ar s) (f0 : s.fuel ≠ 0) (fb : s.fuel < 9223372036854775808) (sb : s.steps + 1 < 9223372036854775808) (hw : s.ws.length + 1 ≤ 1000000000) : Calls Tryz.prog 50 #[ptr rb] w (Out w G rb mb mv (evalX { s with fuel := s.fuel - 1, steps := s.steps + 1 } (.cs kid al o) e) sh) := by
  obtain ⟨xb, nb, hx, hn, ne, c0, c1, z1, z2, ⟨u2, c2⟩, m6, zm6, TK⟩ := h.tick hm
  obtain ⟨W, hW⟩ : ∃ x, x = (w.setCell ⟨rb, 1, none⟩ (.int .i64 ((s.fuel : Int) - 1))).setCell ⟨mb, 6, none⟩ (.int .i64 ((s.steps : Int) + 1)) := ⟨_, rfl⟩
  obtain ⟨R2, F2, y3, y4⟩ := TK W _ _ hW (by omega) (by omega)
  have mdt := gd.md
  rw [hm] at mdt
  obtain ⟨oe, ox⟩ := mdt
  have oth := gd.th
  obtain ⟨s1, hs1⟩ : ∃ x : St, x = { s with fuel := s.fuel - 1, steps := s.steps + 1 } := ⟨_, rfl⟩
  have t1 : s1.th = s.th := by rw [hs1]
  have w1 : s1.ws = s.ws := by rw [hs1]
  have o1 : s1.out = s.out := by rw [hs1]
  have r1 : s1.rows = s.rows := by rw [hs1]
  rw [← hs1] at R2 ⊢
  rw [← t1] at oe oth
  have oth : okAll ar s1.th := oth
  have fz : ((s.fuel : Int) == 0) = false := beq_eq_false_iff_ne.2 (by omega)
  have ne' : ¬ mb = rb := fun z => ne z.symm
  have ne2 : ¬ rb = mb := ne
  obtain ⟨cx, hcx, qx⟩ := R2.rep.expB hx
  obtain ⟨xv, mp, ov, ⟨kb, rfl, hk⟩, hm9, ho9, rfl⟩ := qx
  have HK := Hid.mk hk
  have XX : Bx W xb _ 147 := hcx
  have HX := Hid.mk XX
  have HXN := Hid.mk (And.intro hx (And.intro hn (And.intro oe (And.intro ox oth))))
  have HR2 := Hid.mk R2
  have HF2 := Hid.mk F2
  have HT := Hid.mk (And.intro t1 (And.intro w1 (And.intro o1 r1)))
  generalize s.fuel = fu at *
  generalize s.steps = sp at *
  clear h hm gd TK R2 F2 hx hn oe ox oth hcx XX f0 t1 w1 o1 r1 hs1 ne
  go_enter Tryz.func50, Tryz.ntmps50
  go_wp2
  rw [← hW]
  clear hW
  go_quiet (fail)
  obtain ⟨w3, hw3⟩ : ∃ x, x = W.drewN nq := ⟨_, rfl⟩
  rw [← hw3]
  have HD : Hid (Below W.heap.size W w3) := ⟨by rw [hw3]; exact below_drewN (Below.refl _ _) _⟩
  clear hw3 c0 c1 c2 z1 z2 m6 zm6 y3 y4
  have HF3 : Hid (Fx G G w w3) := ⟨HF2.out.trans (Fx.of_below HD.out)⟩
  have HR3 : Hid (Run w3 G rb mb mv s1 sh) := ⟨HR2.out.below HD.out⟩
  have k0 := (HX.out.later HD.out).cell 0
  have k8 := (HX.out.later HD.out).cell 8
  have WA := wait_more HR3.out (.arms al o e) 2 0 none (some ⟨xb, 0, none⟩) (some ⟨nb, 0, none⟩) none 0 0 ⟨_, _, kid, ⟨xb, rfl, HXN.out.1⟩, ⟨nb, rfl, HXN.out.2.1⟩, rfl⟩ (by rw [HT.out.2.1]; exact hw)
  have x3l : xb < w3.heap.size := lt_of_block (HX.out.later HD.out)
  go_wp2_with (first
    | (go_at_call 73; refine WA.mono ?_; rintro r w8 ⟨⟨rfl, G8, F8, R8⟩, O8⟩; have k88 : w8.cell? ⟨xb, 8, none⟩ = some (ptr kb) := (World.cell?_of_block (a := ⟨xb, 8, none⟩) (O8 xb _ HXN.out.1 (fun k => by simp))).trans k8; have K := evaluates_any R8 ⟨kb, rfl, F8.le _ _ HK.out⟩ ⟨nb, rfl, F8.le _ _ HXN.out.2.1⟩; have HF8 := Hid.mk F8; clear F8 R8 O8)
    | (go_at_call 71; refine K.mono ?_; intro e9 w10 H9; have HE := Hid.mk (Out.from (HF3.out.trans HF8.out) H9); obtain ⟨rfl, _⟩ := H9))
  all_goals go_end0
  all_goals exact HE.out
set_option maxRecDepth 100000 in
set_option maxHeartbeats 8000000 in
theorem eval_lt {ar : List Nat} (h : Run w G rb mb mv s sh) {bs : List Bd} {kid : X} {e : Env} (hm : s.md = .ev (.lt bs kid) e) (gd : Good ar s) (f0 : s.fuel ≠ 0) (fb : s.fuel < 9223372036854775808) (sb : s.steps + 1 < 9223372036854775808) : Calls Tryz.prog 50 #[ptr rb] w (Out w G rb mb mv (evalX { s with fuel := s.fuel - 1, steps := s.steps + 1 } (.lt bs kid) e) sh) := by
  obtain ⟨xb, nb, hx, hn, ne, c0, c1, z1, z2, ⟨u2, c2⟩, m6, zm6, TK⟩ := h.tick hm
  obtain ⟨W, hW⟩ : ∃ x, x = (w.setCell ⟨rb, 1, none⟩ (.int .i64 ((s.fuel : Int) - 1))).setCell ⟨mb, 6, none⟩ (.int .i64 ((s.steps : Int) + 1)) := ⟨_, rfl⟩
  obtain ⟨R2, F2, y3, y4⟩ := TK W _ _ hW (by omega) (by omega)
  have mdt := gd.md
  rw [hm] at mdt
  obtain ⟨oe, ox⟩ := mdt
  have oth := gd.th
  obtain ⟨s1, hs1⟩ : ∃ x : St, x = { s with fuel := s.fuel - 1, steps := s.steps + 1 } := ⟨_, rfl⟩
  have t1 : s1.th = s.th := by rw [hs1]
  have w1 : s1.ws = s.ws := by rw [hs1]
  have o1 : s1.out = s.out := by rw [hs1]
  have r1 : s1.rows = s.rows := by rw [hs1]
  rw [← hs1] at R2 ⊢
  rw [← t1] at oe oth
  have oth : okAll ar s1.th := oth
  have fz : ((s.fuel : Int) == 0) = false := beq_eq_false_iff_ne.2 (by omega)
  have ne' : ¬ mb = rb := fun z => ne z.symm
  have ne2 : ¬ rb = mb := ne
  obtain ⟨cx, hcx, qx⟩ := R2.rep.expB hx
  obtain ⟨bv, xv, hbs, ⟨kb, rfl, hk⟩, rfl⟩ := qx
  have HK := Hid.mk (And.intro hk hbs)
  have XX : Bx W xb _ 147 := hcx
  have HX := Hid.mk XX
  have HXN := Hid.mk (And.intro hx (And.intro hn (And.intro oe (And.intro ox oth))))
  have HR2 := Hid.mk R2
  have HF2 := Hid.mk F2
  have HT := Hid.mk (And.intro t1 (And.intro w1 (And.intro o1 r1)))
  generalize s.fuel = fu at *
  generalize s.steps = sp at *
  clear h hm gd TK R2 F2 hx hn oe ox oth hcx XX f0 t1 w1 o1 r1 hs1 ne
  go_enter Tryz.func50, Tryz.ntmps50
  go_wp2
  rw [← hW]
  clear hW
  go_quiet (fail)
  obtain ⟨w3, hw3⟩ : ∃ x, x = W.drewN nq := ⟨_, rfl⟩
  rw [← hw3]
  have HD : Hid (Below W.heap.size W w3) := ⟨by rw [hw3]; exact below_drewN (Below.refl _ _) _⟩
  clear hw3 c0 c1 c2 z1 z2 m6 zm6 y3 y4
  have HF3 : Hid (Fx G G w w3) := ⟨HF2.out.trans (Fx.of_below HD.out)⟩
  have HR3 : Hid (Run w3 G rb mb mv s1 sh) := ⟨HR2.out.below HD.out⟩
  have k0 := (HX.out.later HD.out).cell 0
  have k7 := (HX.out.later HD.out).cell 7
  have k8 := (HX.out.later HD.out).cell 8
  have el : (shE e).length = e.length := by unfold shE; simp
  have GR := group_more (ar := ar) HR3.out.drew.rep HXN.out.2.1 HXN.out.2.2.1 bs HK.out.2 HXN.out.2.2.2.1.1 HXN.out.2.2.2.1.2.1 (by have := HXN.out.2.2.2.1.2.2.2; rw [el] at this; exact this)
  have x3l : xb < w3.heap.size := lt_of_block (HX.out.later HD.out)
  have nr : Hid (xb ≠ rb) := ⟨fun z => by have := HXN.out.1; rw [z, HR3.out.rt] at this; cases this⟩
  go_wp2
  go_region_held3 (fun w' => w'.cell? ⟨xb, 8, none⟩ = some (ptr kb) ∧ w'.cell? ⟨xb, 7, none⟩ = some bv) (go_keep) (first
    | (go_at_call 72; refine GR.mono ?_; rintro r w8 ⟨u8, G8, rfl, ⟨b8, rfl, hb8⟩, F8, R8⟩; have bq := F8.block xb x3l (by rw [HXN.out.1]; trivial); have s0 : w8.cell? ⟨xb, 8, none⟩ = some (ptr kb) := (World.cell?_of_block (a := ⟨xb, 8, none⟩) bq).trans k8; have s1' : w8.cell? ⟨xb, 7, none⟩ = some bv := (World.cell?_of_block (a := ⟨xb, 7, none⟩) bq).trans k7; have K := evaluates_more (HR3.out.drew.nextZ F8 R8) ⟨kb, rfl, F8.le _ _ HK.out.1⟩ ⟨b8, rfl, hb8⟩; have HF8 := Hid.mk F8.fx; clear F8 R8 bq)
    | (go_at_call 71; refine K.mono ?_; rintro e9 w10 ⟨H9, O9⟩; have t0 := (World.cell?_of_block (a := ⟨xb, 8, none⟩) (O9 _ nr.out)).trans s0; have t1 := (World.cell?_of_block (a := ⟨xb, 7, none⟩) (O9 _ nr.out)).trans s1'; have HE := Hid.mk (Out.from ((HF3.out.trans (Fx.drewL _ _)).trans HF8.out) H9); obtain ⟨rfl, _⟩ := H9; clear O9))
  all_goals go_wp2
  all_goals go_end0
  all_goals exact HE.out

end
end Go.Proofs.YtbajpejnnfacbaaGreatDoor.Lz
