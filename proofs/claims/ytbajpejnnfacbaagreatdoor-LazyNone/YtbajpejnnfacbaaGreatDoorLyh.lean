/- Package lazy: small calls, and what they leave as it was. -/
import Derived.Test.YtbajpejnnfacbaaGreatDoorLyg
import Derived.Deep.RegionLaw
namespace Go.Proofs.YtbajpejnnfacbaaGreatDoor.Lz
open Go.RowKit
set_option linter.unusedVariables false
set_option linter.unusedSimpArgs false

section
variable {w w' : World} {G : Gm} {th : List T} {rows : List (List Nat)}
set_option maxHeartbeats 2000000 in
theorem within_more (h : Rep w G th rows) {b : Nat} {e : Env} (hb : G b = some (.env e)) {l : List Nat} {v : Value} (hv : pRow G l v) (hl : e.length + 1 ≤ 1000000000) :
    Calls Tryz.prog 100 #[ptr b, v] w fun r w' => ∃ u G', r = .returned u ∧ pEnv G' (inE e l) u ∧ Fx G G' w w' ∧ Rep w' G' th rows ∧ Below w.heap.size w w' := by
  by_cases z : l.length = 0
  · have ez : inE e l = e := by unfold inE; rw [if_pos z]
    rw [ez]
    obtain ⟨ga, cap, rfl, _, _⟩ := hv
    rw [z]
    have H := Hid.mk h
    have HB := Hid.mk hb
    clear h hb
    go_enter Tryz.func100, Tryz.ntmps100
    go_wp2
    go_ret
    exact ⟨_, G, rfl, ⟨b, rfl, HB.out⟩, Fx.refl _ _, H.out, Below.refl _ _⟩
  · have ez : inE e l = l :: e := by unfold inE; rw [if_neg z]
    rw [ez]
    have HV := Hid.mk hv
    obtain ⟨ga, cap, rfl, hcap, _⟩ := hv
    obtain ⟨t, bu, bf, eu, ef, XB, PR, hu, hf, ne, c1, c2⟩ := h.envB hb
    obtain ⟨t2, bu2, bf2, eu2, ef2, XF, PR2, hu2, hf2, ne2, d1, d2⟩ := h.envB hf
    obtain ⟨t3, bu3, bf3, eu3, ef3, XG, PR3, hu3, hf3, ne3, e1, e2⟩ := h.envB hf2
    have le0 : 0 < e.length := List.length_pos_iff.2 ne
    have sf : ef <:+ e := by
      by_cases q : e.length = 1
      · rw [(c1 q).2]; exact List.suffix_refl e
      · exact (c2 (by omega)).2.1.trans (List.tail_suffix e)
    have le1 : 0 < ef.length := List.length_pos_iff.2 ne2
    have sg : ef2 <:+ e := by
      refine List.IsSuffix.trans ?_ sf
      by_cases q : ef.length = 1
      · rw [(d1 q).2]; exact List.suffix_refl ef
      · exact (d2 (by omega)).2.1.trans (List.tail_suffix ef)
    have lf := sf.length_le
    have lg := sg.length_le
    have y1 := XB.cell 1
    have y3 := XB.cell 3
    have f1 := XF.cell 1
    have f3 := XF.cell 3
    have g1 := XG.cell 1
    have zz : ((l.length : Int) == 0) = false := beq_eq_false_iff_ne.2 (by omega)
    have o1 : IntKind.i64.wrap ((e.length : Int) - 1 + 1) = e.length := by rw [IntKind.wrap_i64]; omega
    have o2 : IntKind.i64.wrap ((e.length : Int) - 1 - ((ef.length : Int) - 1)) = (e.length : Int) - ef.length := by rw [IntKind.wrap_i64]; omega
    have o3 : IntKind.i64.wrap ((ef.length : Int) - 1 - ((ef2.length : Int) - 1)) = (ef.length : Int) - ef2.length := by rw [IntKind.wrap_i64]; omega
    obtain ⟨W, hW⟩ : ∃ W, W = w.alloc (.cells #[.slice ga l.length cap, .int .i64 (e.length : Int), ptr b, ptr b] 86) := ⟨_, rfl⟩
    have KW : Below w.heap.size w W := by rw [hW]; exact Joins.below_alloc1 w _
    have XW : Bx W w.heap.size #[.slice ga l.length cap, .int .i64 (e.length : Int), ptr b, ptr b] 86 := by rw [hW]; exact heap_alloc_new w _
    have x1 := (XB.later KW).cell 1
    have x3 := (XB.later KW).cell 3
    have u1 := (XF.later KW).cell 1
    have u3 := (XF.later KW).cell 3
    have v1 := (XG.later KW).cell 1
    have fr := h.free (Nat.le_refl _)
    have HH := Hid.mk (And.intro (h.below KW) (And.intro hb (And.intro hf (And.intro hf2 (And.intro ne (And.intro sf (And.intro ne2 (And.intro sg (And.intro ne3 fr)))))))))
    have HX := Hid.mk (And.intro XB (And.intro XF (And.intro XG XW)))
    have HK := Hid.mk KW
    have HBF : Hid (b < w.heap.size) := ⟨h.lt hb⟩
    clear h hb XB XF XG XW PR PR2 PR3 hu hu2 hu3 hf hf2 hf3 c1 c2 d1 d2 e1 e2 KW sf sg ne ne2 ne3 fr
    cases q : ((e.length : Int) - ef.length == (ef.length : Int) - ef2.length)
    · go_enter Tryz.func100, Tryz.ntmps100
      go_wp2
      rw [← hW]
      clear hW
      go_quiet (fail)
      all_goals go_wp2
      go_ret
      obtain ⟨R1, h1, h2, h3, h4, h5, h6, h7, h8, h9⟩ := HH.out
      have BD := below_drewN HK.out nq
      have hc : (W.drewN nq).heap[w.heap.size]? = some (.cells #[.slice ga l.length cap, .int .i64 (e.length : Int), ptr b, ptr b] 86 (0, 0)) := HX.out.2.2.2
      have R2 : Rep (W.drewN nq) G th rows := R1.later (Nat.le_refl _) (fun _ _ _ => rfl)
      exact ⟨_, _, rfl, ⟨w.heap.size, rfl, tag_self _ _ _⟩, (Fx.of_tag (Nat.le_refl _) h9 _).trans (Fx.of_below BD), R2.scope h9 h1 h1 HV.out h4 (List.suffix_refl e) h4 hc, BD⟩
    · have nb : w.heap.size ≠ b := by have := HBF.out; omega
      go_enter Tryz.func100, Tryz.ntmps100
      go_wp2
      rw [← hW]
      clear hW
      go_quiet (fail)
      obtain ⟨w1, hw1⟩ : ∃ x, x = W.drewN nq := ⟨_, rfl⟩
      rw [← hw1]
      have HD : Hid (Below w.heap.size w w1 ∧ Below W.heap.size W w1) := ⟨by rw [hw1]; exact below_drewN HK.out _, by rw [hw1]; exact below_drewN (Below.refl _ _) _⟩
      clear hw1 x1 x3 u1 u3 v1 y1 y3 f1 f3 g1
      have s3 := (HX.out.1.later HD.out.1).cell 3
      have t3 := (HX.out.2.1.later HD.out.1).cell 3
      have k0 := (HX.out.2.2.2.later HD.out.2).cell 3
      have k1 : w1.frozen? ⟨w.heap.size, 3, none⟩ = false := Joins.unfrozen_of_block (HX.out.2.2.2.later HD.out.2) 3
      go_wp2
      go_ret
      obtain ⟨R1, h1, h2, h3, h4, h5, h6, h7, h8, h9⟩ := HH.out
      have XX := HX.out.2.2.2.later HD.out.2
      have hc : (w1.setCell ⟨w.heap.size, 3, none⟩ (ptr bf2)).heap[w.heap.size]? = some (.cells #[.slice ga l.length cap, .int .i64 (e.length : Int), ptr b, ptr bf2] 86 (0, 0)) := Joins.block_setCell (i := 3) XX _
      have ho : ∀ i, i ≠ w.heap.size → (w1.setCell ⟨w.heap.size, 3, none⟩ (ptr bf2)).heap[i]? = w1.heap[i]? := fun i hi => setCell_block _ _ _ _ hi
      have R2 : Rep (w1.setCell ⟨w.heap.size, 3, none⟩ (ptr bf2)) G th rows := (R1.below HD.out.2).later (by simp [World.setCell]) (fun x ty hx => ho x (fun e => by rw [e, h9] at hx; cases hx))
      have BD : Below w.heap.size w (w1.setCell ⟨w.heap.size, 3, none⟩ (ptr bf2)) := ⟨HD.out.1.os, HD.out.1.tape, HD.out.1.output, by have := HD.out.1.size; simp [World.setCell]; omega, fun i hi => (ho i (by omega)).trans (HD.out.1.block i hi)⟩
      exact ⟨_, _, rfl, ⟨w.heap.size, rfl, tag_self _ _ _⟩, (Fx.of_tag (Nat.le_refl _) h9 _).trans (Fx.of_below BD), R2.scope h9 h1 h3 HV.out h4 h7 h8 hc, BD⟩
end
section
variable {w w' : World} {G G' : Gm} {rb mb : Nat} {mv : Mv} {s : St} {sh : Int}
theorem knows_more (h : Run w G rb mb mv s sh) {t : Nat} {v : Value} (hv : pT G t v) : Calls Tryz.prog 49 #[ptr rb, v] w fun e w' => Out w G rb mb mv { s with md := .kn t } sh e w' ∧ ∀ i, i ≠ rb → w'.heap[i]? = w.heap[i]? := by
  obtain ⟨nx, vx, vn, vo, wr, vw, cs, a, b, c, d⟩ := h.r
  have H := Hid.mk (And.intro h (And.intro a (And.intro c (And.intro d hv))))
  obtain ⟨bv, rfl, _⟩ := hv
  have c2 := a.cell 2
  have c5 := a.cell 5
  have z2 : w.frozen? ⟨rb, 2, none⟩ = false := Joins.unfrozen_of_block a 2
  have z5 : w.frozen? ⟨rb, 5, none⟩ = false := Joins.unfrozen_of_block a 5
  clear h a b c d
  go_enter Tryz.func49, Tryz.ntmps49
  go_wp2
  go_end0
  obtain ⟨h, a, c, d, hv⟩ := H.out
  have b1 : (w.setCell ⟨rb, 2, none⟩ (.int .i64 1)).heap[rb]? = _ := Joins.block_setCell (i := 2) a (.int .i64 1)
  have b2 : ((w.setCell ⟨rb, 2, none⟩ (.int .i64 1)).setCell ⟨rb, 5, none⟩ (ptr bv)).heap[rb]? = _ := Joins.block_setCell (i := 5) b1 (ptr bv)
  have oth : ∀ i, i ≠ rb → ((w.setCell ⟨rb, 2, none⟩ (.int .i64 1)).setCell ⟨rb, 5, none⟩ (ptr bv)).heap[i]? = w.heap[i]? := fun i hi => (setCell_block _ _ _ _ hi).trans (setCell_block _ _ _ _ hi)
  obtain ⟨R, F⟩ := h.turn (w' := (w.setCell ⟨rb, 2, none⟩ (.int .i64 1)).setCell ⟨rb, 5, none⟩ (ptr bv)) (md' := .kn t) (ws' := s.ws) b2 rfl rfl rfl (by simp [World.setCell]) (fun i _ hi => oth i hi) ⟨rfl, hv⟩ (c.kept (Le.refl G) (fun g hg => oth g (fun e => by rw [e, h.rt] at hg; cases hg))) d
  exact ⟨⟨rfl, G, F, R⟩, oth⟩
theorem tells_more (h : Run w G rb mb mv s sh) {t : Nat} {v : Value} (hv : pT G t v) : Calls Tryz.prog 67 #[ptr rb, v] w fun e w' => Out w G rb mb mv { s with md := .tl t } sh e w' ∧ ∀ i, i ≠ rb → w'.heap[i]? = w.heap[i]? := by
  obtain ⟨nx, vx, vn, vo, wr, vw, cs, a, b, c, d⟩ := h.r
  have H := Hid.mk (And.intro h (And.intro a (And.intro c (And.intro d hv))))
  obtain ⟨bv, rfl, _⟩ := hv
  have c2 := a.cell 2
  have c5 := a.cell 5
  have z2 : w.frozen? ⟨rb, 2, none⟩ = false := Joins.unfrozen_of_block a 2
  have z5 : w.frozen? ⟨rb, 5, none⟩ = false := Joins.unfrozen_of_block a 5
  clear h a b c d
  go_enter Tryz.func67, Tryz.ntmps67
  go_wp2
  go_end0
  obtain ⟨h, a, c, d, hv⟩ := H.out
  have b1 : (w.setCell ⟨rb, 2, none⟩ (.int .i64 2)).heap[rb]? = _ := Joins.block_setCell (i := 2) a (.int .i64 2)
  have b2 : ((w.setCell ⟨rb, 2, none⟩ (.int .i64 2)).setCell ⟨rb, 5, none⟩ (ptr bv)).heap[rb]? = _ := Joins.block_setCell (i := 5) b1 (ptr bv)
  have oth : ∀ i, i ≠ rb → ((w.setCell ⟨rb, 2, none⟩ (.int .i64 2)).setCell ⟨rb, 5, none⟩ (ptr bv)).heap[i]? = w.heap[i]? := fun i hi => (setCell_block _ _ _ _ hi).trans (setCell_block _ _ _ _ hi)
  obtain ⟨R, F⟩ := h.turn (w' := (w.setCell ⟨rb, 2, none⟩ (.int .i64 2)).setCell ⟨rb, 5, none⟩ (ptr bv)) (md' := .tl t) (ws' := s.ws) b2 rfl rfl rfl (by simp [World.setCell]) (fun i _ hi => oth i hi) ⟨rfl, hv⟩ (c.kept (Le.refl G) (fun g hg => oth g (fun e => by rw [e, h.rt] at hg; cases hg))) d
  exact ⟨⟨rfl, G, F, R⟩, oth⟩
theorem evaluates_more (h : Run w G rb mb mv s sh) {x : X} {e : Env} {ux un : Value} (hx : pExp G x ux) (hn : pEnv G e un) : Calls Tryz.prog 71 #[ptr rb, ux, un] w fun en w' => Out w G rb mb mv { s with md := .ev x e } sh en w' ∧ ∀ i, i ≠ rb → w'.heap[i]? = w.heap[i]? := by
  obtain ⟨nx, vx, vn, vo, wr, vw, cs, a, b, c, d⟩ := h.r
  have H := Hid.mk (And.intro h (And.intro a (And.intro c (And.intro d (And.intro hx hn)))))
  obtain ⟨bx, rfl, _⟩ := hx
  obtain ⟨bn, rfl, _⟩ := hn
  have c2 := a.cell 2
  have c3 := a.cell 3
  have c4 := a.cell 4
  have z2 : w.frozen? ⟨rb, 2, none⟩ = false := Joins.unfrozen_of_block a 2
  have z3 : w.frozen? ⟨rb, 3, none⟩ = false := Joins.unfrozen_of_block a 3
  have z4 : w.frozen? ⟨rb, 4, none⟩ = false := Joins.unfrozen_of_block a 4
  clear h a b c d
  go_enter Tryz.func71, Tryz.ntmps71
  go_wp2
  go_end0
  obtain ⟨h, a, c, d, hx, hn⟩ := H.out
  have b1 : (w.setCell ⟨rb, 2, none⟩ (.int .i64 0)).heap[rb]? = _ := Joins.block_setCell (i := 2) a (.int .i64 0)
  have b2 : ((w.setCell ⟨rb, 2, none⟩ (.int .i64 0)).setCell ⟨rb, 3, none⟩ (ptr bx)).heap[rb]? = _ := Joins.block_setCell (i := 3) b1 (ptr bx)
  have b3 : (((w.setCell ⟨rb, 2, none⟩ (.int .i64 0)).setCell ⟨rb, 3, none⟩ (ptr bx)).setCell ⟨rb, 4, none⟩ (ptr bn)).heap[rb]? = _ := Joins.block_setCell (i := 4) b2 (ptr bn)
  have oth : ∀ i, i ≠ rb → (((w.setCell ⟨rb, 2, none⟩ (.int .i64 0)).setCell ⟨rb, 3, none⟩ (ptr bx)).setCell ⟨rb, 4, none⟩ (ptr bn)).heap[i]? = w.heap[i]? := fun i hi => (setCell_block _ _ _ _ hi).trans ((setCell_block _ _ _ _ hi).trans (setCell_block _ _ _ _ hi))
  obtain ⟨R, F⟩ := h.turn (w' := ((w.setCell ⟨rb, 2, none⟩ (.int .i64 0)).setCell ⟨rb, 3, none⟩ (ptr bx)).setCell ⟨rb, 4, none⟩ (ptr bn)) (md' := .ev x e) (ws' := s.ws) b3 rfl rfl rfl (by simp [World.setCell]) (fun i _ hi => oth i hi) ⟨rfl, hx, hn⟩ (c.kept (Le.refl G) (fun g hg => oth g (fun e => by rw [e, h.rt] at hg; cases hg))) d
  exact ⟨⟨rfl, G, F, R⟩, oth⟩
theorem wait_end2 {W w3 : World} {nx : Int} {vx vn vo : Value} {wr : Int} {vw : Value} {cs d : List Value} {f : Fm} {q cap : Nat} (h : Run w G rb mb mv s sh) (a : Bx w rb (rC mb s.fuel nx vx vn vo wr vw sh) 101) (b : mdC G s.md nx vx vn vo wr) (c : Own w G 2 160 6 vw s.ws.length cs) (e : fmsC G s.ws.reverse cs) (hf : fmC G f d)
    (hB : Below w.heap.size w W) (hg : W.grownBy w3 vw.ownBlock) (ho : w3.ownsRow 0 160 6 (.slice (some ⟨q, 0, none⟩) (s.ws.length + 1) cap) (s.ws.length + 1) (cs ++ d)) (hat : vw.ownBlock = some q ∨ q = W.heap.size) :
    (w3.cell? ⟨rb, 7, none⟩ = some vw ∧ w3.frozen? ⟨rb, 7, none⟩ = false) ∧ (Out w G rb mb mv { s with ws := f :: s.ws } sh done (w3.setCell ⟨rb, 7, none⟩ (.slice (some ⟨q, 0, none⟩) (s.ws.length + 1) cap)) ∧ ∀ i ty, G i = some ty → (∀ k, ty ≠ .own k) → (w3.setCell ⟨rb, 7, none⟩ (.slice (some ⟨q, 0, none⟩) (s.ws.length + 1) cap)).heap[i]? = w.heap[i]?) := by
  have nr : some rb ≠ vw.ownBlock := fun z => by have := c.tag rb z.symm; rw [h.rt] at this; cases this
  have b3 : w3.heap[rb]? = some (.cells (rC mb s.fuel nx vx vn vo wr vw sh) 101 (0, 0)) := (hg.block rb (Nat.lt_of_lt_of_le h.rlt hB.size) nr).trans (later' a hB)
  have oth : ∀ i, i < w.heap.size → i ≠ rb → some i ≠ vw.ownBlock → (w3.setCell ⟨rb, 7, none⟩ (.slice (some ⟨q, 0, none⟩) (s.ws.length + 1) cap)).heap[i]? = w.heap[i]? := fun i hi h1 h2 => (setCell_block _ _ _ _ h1).trans ((hg.block i (Nat.lt_of_lt_of_le hi hB.size) h2).trans (hB.block i hi))
  have sz : w.heap.size ≤ (w3.setCell ⟨rb, 7, none⟩ (.slice (some ⟨q, 0, none⟩) (s.ws.length + 1) cap)).heap.size := by have := hB.size; have := hg.size; simp [World.setCell]; omega
  have tg : ∀ i ty, G i = some ty → ty ≠ .own 2 → some i ≠ vw.ownBlock := fun i ty hi hn z => by have := c.tag i z.symm; rw [hi] at this; cases this; exact hn rfl
  refine ⟨⟨Joins.cell_of_block b3 7, Joins.unfrozen_of_block b3 7⟩, ⟨rfl, ?_⟩, fun i ty hi hk => oth i (h.rep.lt hi) (fun z => by rw [z, h.rt] at hi; cases hi; exact hk 0 rfl) (tg i ty hi (hk 2))⟩
  have R0 : Rep (w3.setCell ⟨rb, 7, none⟩ (.slice (some ⟨q, 0, none⟩) (s.ws.length + 1) cap)) G s.th s.rows := h.rep.owned sz (fun i ty hi hk => oth i (h.rep.lt hi) (fun z => by rw [z, h.rt] at hi; cases hi; exact hk 0 rfl) (tg i ty hi (hk 2)))
  have F0 : Fx G G w (w3.setCell ⟨rb, 7, none⟩ (.slice (some ⟨q, 0, none⟩) (s.ws.length + 1) cap)) := ⟨hg.os.trans hB.os, hg.tape.trans hB.tape, hg.output.trans hB.output, sz, fun i hi k => by
    refine oth i hi (fun z => ?_) (fun z => ?_)
    · rw [z, h.rt] at k; exact absurd k (by simp [fixd])
    · have := c.tag i z.symm
      rw [this] at k
      exact absurd k (by simp [fixd]), Le.refl G, fun _ _ h => h⟩
  have qlt : q < w3.heap.size := (ho.lt q rfl).2
  have nq : q ≠ rb := by
    rcases hat with z | z
    · intro y; exact nr (by rw [z, y])
    · have := h.rlt; have := hB.size; omega
  obtain ⟨G', F, R, hq⟩ : ∃ G', Fx G G' w (w3.setCell ⟨rb, 7, none⟩ (.slice (some ⟨q, 0, none⟩) (s.ws.length + 1) cap)) ∧ Rep (w3.setCell ⟨rb, 7, none⟩ (.slice (some ⟨q, 0, none⟩) (s.ws.length + 1) cap)) G' s.th s.rows ∧ G' q = some (.own 2) := by
    rcases hat with z | z
    · exact ⟨G, F0, R0, c.tag q z⟩
    · have fr : G q = none := h.rep.free (by rw [z]; exact hB.size)
      have R1 : Rep (w3.setCell ⟨rb, 7, none⟩ (.slice (some ⟨q, 0, none⟩) (s.ws.length + 1) cap)) (Lz.tag G q (.own 2)) s.th s.rows := R0.tag fr (show q < _ by simp [World.setCell]; exact qlt) (fun i => by simp) (fun i => by simp)
      exact ⟨Lz.tag G q (.own 2), F0.more rfl rfl rfl (Nat.le_refl _) (fun _ _ => rfl) (le_tag fr _) (fun i hi k => by rw [tag_ne _ _ (by have := hB.size; omega)]; exact k), R1, tag_self _ _ _⟩
  have blk : Bx (w3.setCell ⟨rb, 7, none⟩ (.slice (some ⟨q, 0, none⟩) (s.ws.length + 1) cap)) rb (rC mb s.fuel nx vx vn vo wr (.slice (some ⟨q, 0, none⟩) (s.ws.length + 1) cap) sh) 101 := Joins.block_setCell (i := 7) b3 _
  refine ⟨G', F, h.turn2 F R (ws' := f :: s.ws) (md' := s.md) (cs := cs ++ d) blk (fun i k hi hk => oth i (h.rep.lt hi) (fun z => by rw [z, h.rt] at hi; cases hi; omega) (tg i _ hi (fun z => by cases z; omega))) (mdC.le F.le b) ⟨?_, ?_⟩ ?_⟩
  · exact ho.kept (row := some rb) ⟨rfl, rfl, rfl, by simp [World.setCell], fun i _ hi => setCell_block _ _ _ _ (fun z => hi (by rw [z]))⟩ (.inr (fun z => nq (by simpa [Value.ownBlock] using z)))
  · intro g hgq
    simp [Value.ownBlock] at hgq
    rw [← hgq]; exact hq
  · rw [List.reverse_cons]
    exact fmsC_snoc (fmsC.le F.le e) (fmC.le F.le hf)
set_option maxRecDepth 100000 in
set_option maxHeartbeats 4000000 in
theorem wait_more (h : Run w G rb mb mv s sh) (f : Fm) (wh pl : Int) (po px pn : Option Addr) (ga : Option Addr) (gn gc : Nat) (hf : fmC G f [.int .i64 wh, .pointer po, .slice ga gn gc, .pointer px, .pointer pn, .int .i64 pl]) (hn : s.ws.length + 1 ≤ 1000000000) :
    Calls Tryz.prog 73 #[ptr rb, .agg #[.int .i64 wh, .pointer po, .slice ga gn gc, .pointer px, .pointer pn, .int .i64 pl]] w fun e w' => Out w G rb mb mv { s with ws := f :: s.ws } sh e w' ∧ ∀ i ty, G i = some ty → (∀ k, ty ≠ .own k) → w'.heap[i]? = w.heap[i]? := by
  obtain ⟨nx, vx, vn, vo, wr, vw, cs, a, b, c, d⟩ := h.r
  obtain ⟨i0, hi, hz0, hz1, hz2⟩ := info_parts info160
  have H := Hid.mk (And.intro h (And.intro a (And.intro b (And.intro c (And.intro d hf)))))
  have O := c.row
  have c7 := a.cell 7
  have lt := h.rlt
  have nb : ¬ rb = w.heap.size := by omega
  obtain ⟨n, hn0⟩ : ∃ n, s.ws.length = n := ⟨_, rfl⟩
  have HN := Hid.mk hn0
  rw [hn0] at O hn
  clear h a b c d hf hn0
  go_enter Tryz.func73, Tryz.ntmps73
  go_wp2
  go_region_law (first
    | (refine step_append_lies _ (by rfl) _ _ _ (by rfl) 0 160 i0 _ 6 64 Tryz.underlying97 hi hz0 hz1 hz2 rfl (by decide) vw n cs (by rfl) (by repeat (first | with_reducible exact O | refine own_drew' ?_ | refine own_alloc' ?_ _)) ⟨w.heap.size + 1, 0, none⟩ 1 1 [.int .i64 wh, .pointer po, .slice ga gn gc, .pointer px, .pointer pn, .int .i64 pl] (by rfl) rfl (news6 w _ #[.int .i64 wh, .pointer po, .slice ga gn gc, .pointer px, .pointer pn, .int .i64 pl] 160) (by simp [Value.oneCell']) (by decide) (by unfold maxLen; omega) (by omega) (by simp) _ rfl ?_; intro q cap w3 ho hg hat hlt; have HB := below_here' (bal' (bal' (Below.refl _ w) _) _).drew hg; have HE := Hid.mk (wait_end2 H.out.1 H.out.2.1 H.out.2.2.1 H.out.2.2.2.1 H.out.2.2.2.2.1 H.out.2.2.2.2.2 HB hg (by rw [HN.out]; exact ho) hat); rw [HN.out] at HE; obtain ⟨y0, y1⟩ := HE.out.1; clear HB ho hg hat hlt))
  all_goals go_wp2
  all_goals go_end0
  all_goals exact HE.out.2
end
end Go.Proofs.YtbajpejnnfacbaaGreatDoor.Lz
