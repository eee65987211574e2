/- Package lazy: a number is put out. -/
import Derived.Test.YtbajpejnnfacbaaGreatDoorLye
namespace Go.Proofs.YtbajpejnnfacbaaGreatDoor.Lz
open Go.RowKit
set_option linter.unusedVariables false
set_option linter.unusedSimpArgs false


theorem info2' : (Tryz.prog.info? 2).map (fun i => (i.zero, i.size, i.bytes)) = some (some (.int .i64 0), 1, 8) := by kernel_rfl
theorem intC_snoc (l : List Int) (x : Int) : intC (l ++ [x]) = intC l ++ [.int .i64 x] := by simp [intC]
section
variable {w w' : World} {G G' : Gm} {rb mb : Nat} {mv : Mv} {s : St} {sh : Int}
theorem emit_end {W w3 : World} {vo : Value} {x : Int} {q cap : Nat} (h : Run w G rb mb mv s sh) (a : Bx w mb (mC mv vo s.steps) 74) (c : Own w G 3 2 1 vo s.out.length (intC s.out))
    (hB : Below w.heap.size w W) (hg : W.grownBy w3 vo.ownBlock) (ho : w3.ownsRow 0 2 1 (.slice (some ⟨q, 0, none⟩) (s.out.length + 1) cap) (s.out.length + 1) (intC s.out ++ [.int .i64 x])) (hat : vo.ownBlock = some q ∨ q = W.heap.size) :
    (w3.cell? ⟨mb, 5, none⟩ = some vo ∧ w3.frozen? ⟨mb, 5, none⟩ = false ∧ w3.heap[rb]? = w.heap[rb]?) ∧ ∃ G', Fx G G' w (w3.setCell ⟨mb, 5, none⟩ (.slice (some ⟨q, 0, none⟩) (s.out.length + 1) cap)) ∧ Run (w3.setCell ⟨mb, 5, none⟩ (.slice (some ⟨q, 0, none⟩) (s.out.length + 1) cap)) G' rb mb mv { s with out := s.out ++ [x] } sh := by
  have nr : some mb ≠ vo.ownBlock := fun z => by have := c.tag mb z.symm; rw [h.mt] at this; cases this
  have b3 : w3.heap[mb]? = some (.cells (mC mv vo s.steps) 74 (0, 0)) := (hg.block mb (Nat.lt_of_lt_of_le h.mlt hB.size) nr).trans (later' a hB)
  refine ⟨⟨Joins.cell_of_block b3 5, Joins.unfrozen_of_block b3 5, (hg.block rb (Nat.lt_of_lt_of_le h.rlt hB.size) (fun z => by have := c.tag rb z.symm; rw [h.rt] at this; cases this)).trans (hB.block rb h.rlt)⟩, ?_⟩
  have oth : ∀ i, i < w.heap.size → i ≠ mb → some i ≠ vo.ownBlock → (w3.setCell ⟨mb, 5, none⟩ (.slice (some ⟨q, 0, none⟩) (s.out.length + 1) cap)).heap[i]? = w.heap[i]? := fun i hi h1 h2 => (setCell_block _ _ _ _ h1).trans ((hg.block i (Nat.lt_of_lt_of_le hi hB.size) h2).trans (hB.block i hi))
  have sz : w.heap.size ≤ (w3.setCell ⟨mb, 5, none⟩ (.slice (some ⟨q, 0, none⟩) (s.out.length + 1) cap)).heap.size := by have := hB.size; have := hg.size; rw [size_set]; omega
  have tg : ∀ i ty, G i = some ty → ty ≠ .own 3 → some i ≠ vo.ownBlock := fun i ty hi hn z => by have := c.tag i z.symm; rw [hi] at this; cases this; exact hn rfl
  have R0 : Rep (w3.setCell ⟨mb, 5, none⟩ (.slice (some ⟨q, 0, none⟩) (s.out.length + 1) cap)) G s.th s.rows := h.rep.owned sz (fun i ty hi hk => oth i (h.rep.lt hi) (fun z => by rw [z, h.mt] at hi; cases hi; exact hk 1 rfl) (tg i ty hi (hk 3)))
  have F0 : Fx G G w (w3.setCell ⟨mb, 5, none⟩ (.slice (some ⟨q, 0, none⟩) (s.out.length + 1) cap)) := ⟨hg.os.trans hB.os, hg.tape.trans hB.tape, hg.output.trans hB.output, sz, fun i hi k => by
    refine oth i hi (fun z => ?_) (fun z => ?_)
    · rw [z, h.mt] at k; exact absurd k (by simp [fixd])
    · have := c.tag i z.symm
      rw [this] at k
      exact absurd k (by simp [fixd]), Le.refl G, fun _ _ h => h⟩
  have qlt : q < w3.heap.size := (ho.lt q rfl).2
  have nq : q ≠ mb := by
    rcases hat with z | z
    · intro y; exact nr (by rw [z, y])
    · have := h.mlt; have := hB.size; omega
  obtain ⟨G', F, R, hq⟩ : ∃ G', Fx G G' w (w3.setCell ⟨mb, 5, none⟩ (.slice (some ⟨q, 0, none⟩) (s.out.length + 1) cap)) ∧ Rep (w3.setCell ⟨mb, 5, none⟩ (.slice (some ⟨q, 0, none⟩) (s.out.length + 1) cap)) G' s.th s.rows ∧ G' q = some (.own 3) := by
    rcases hat with z | z
    · exact ⟨G, F0, R0, c.tag q z⟩
    · have fr : G q = none := h.rep.free (by rw [z]; exact hB.size)
      have R1 : Rep (w3.setCell ⟨mb, 5, none⟩ (.slice (some ⟨q, 0, none⟩) (s.out.length + 1) cap)) (Lz.tag G q (.own 3)) s.th s.rows := R0.tag fr (show q < _ by rw [size_set]; exact qlt) (fun i => by simp) (fun i => by simp)
      exact ⟨Lz.tag G q (.own 3), F0.more rfl rfl rfl (Nat.le_refl _) (fun _ _ => rfl) (le_tag fr _) (fun i hi k => by rw [tag_ne _ _ (by have := hB.size; omega)]; exact k), R1, tag_self _ _ _⟩
  have blk : Bx (w3.setCell ⟨mb, 5, none⟩ (.slice (some ⟨q, 0, none⟩) (s.out.length + 1) cap)) mb (mC mv (.slice (some ⟨q, 0, none⟩) (s.out.length + 1) cap) s.steps) 74 := Joins.block_setCell (i := 5) b3 _
  obtain ⟨nx, vx, vn, vo2, wr, vw, cs, r1, r2, r3, r4⟩ := h.r
  have ow : ∀ i k, G i = some (.own k) → k = 0 ∨ k = 2 → (w3.setCell ⟨mb, 5, none⟩ (.slice (some ⟨q, 0, none⟩) (s.out.length + 1) cap)).heap[i]? = w.heap[i]? := fun i k hi hk => oth i (h.rep.lt hi) (fun z => by rw [z, h.mt] at hi; cases hi; omega) (tg i _ hi (fun z => by cases z; omega))
  refine ⟨G', F, ⟨R, Table.of_block h.tab h.pos (F.block 0 h.pos (by rw [h.g0]; trivial)), F.new 0 h.pos h.g0, F.le _ _ h.rt, F.le _ _ h.mt, ⟨nx, vx, vn, vo2, wr, vw, cs, (ow rb 0 h.rt (.inl rfl)).trans r1, mdC.le F.le r2, r3.kept F.le (fun g hg => ow g 2 hg (.inr rfl)), fmsC.le F.le r4⟩, ⟨_, blk, ⟨?_, ?_⟩⟩⟩⟩
  · rw [List.length_append, intC_snoc]
    exact ho.kept (row := some mb) ⟨rfl, rfl, rfl, by rw [size_set]; exact Nat.le_refl _, fun i _ hi => setCell_block _ _ _ _ (fun z => hi (by rw [z]))⟩ (.inr (fun z => nq (by simpa [Value.ownBlock] using z)))
  · intro g hgq
    simp [Value.ownBlock] at hgq
    rw [← hgq]; exact hq
theorem news7 (w : World) (cs : Array Value) (t : TypeId) : ∀ j x, cs.toList[j]? = some x → (w.alloc (.cells cs t)).cell? ((⟨w.heap.size, 0, none⟩ : Addr).add j) = some x := World.news_of_block (heap_alloc_new w _)
set_option maxRecDepth 100000 in
set_option maxHeartbeats 4000000 in
theorem emit_any (h : Run w G rb mb mv s sh) {j n : Nat} {v : Value} (hv : pPrw G j n v) {l : List Nat} (hr : s.rows[j]? = some l) (hn : n = l.length) (ha : Args s.th 8 l) (ho : s.out.length + 1 ≤ 1000000000) : Calls Tryz.prog 84 #[ptr rb, v] w (Out w G rb mb mv (primS s 8 l) sh) := by
  obtain ⟨g, cap, rfl, hg⟩ := prw_get h.rep hv hr hn
  have gt : G g = some (.prow j) := by obtain ⟨g', cap', e, _, q⟩ := hv; cases e; exact q
  have ln : l.length = 1 := by have := ha.1; simp [tA] at this; omega
  obtain ⟨b, cb, hb⟩ := hg 0 (by omega)
  obtain ⟨x, hx⟩ := Known.num (show Known s.th (l.getD 0 0) 2 from ha.2.2 0 (by decide))
  have c1 := num_cell h.rep hb hx
  obtain ⟨nx, vx, vn, vo2, wr, vw, cs, r1, _⟩ := h.r
  have k0 := r1.cell 0
  obtain ⟨vo, m1, m2⟩ := h.m
  have k5 := m1.cell 5
  obtain ⟨i0, hi, hz0, hz1, hz2⟩ := info_parts info2'
  have O := m2.row
  have e0 : thAt s (l.getD 0 0) = .num x := thAt_some hx
  have ep : primS s 8 l = { s with out := s.out ++ [x], md := .tl (l.getD 0 0) } := by
    unfold primS
    simp only [e0, numOf]
    simp
  have H := Hid.mk (And.intro h (And.intro m1 m2))
  have HB := Hid.mk (And.intro hb (And.intro gt (And.intro hr ln)))
  obtain ⟨no, hn0⟩ : ∃ n, s.out.length = n := ⟨_, rfl⟩
  have HN := Hid.mk hn0
  rw [hn0] at O ho
  rw [ep, hn, ln]
  have lt1 : rb < w.heap.size := h.rlt
  have lt2 : mb < w.heap.size := h.mlt
  have lt3 := World.block_lt_of_cell? _ _ cb
  have lt4 := h.rep.lt hb
  clear h hv hg hr ha hn hb hx gt r1 m1 m2 e0 ep hn0
  go_enter Tryz.func84, Tryz.ntmps84
  go_wp2
  go_region_law (first
    | (refine step_append_lies _ (by rfl) _ _ _ (by rfl) 0 2 i0 _ 1 8 Tryz.underlying26 hi hz0 hz1 hz2 rfl (by decide) vo no (intC s.out) (by rfl) (by repeat (first | with_reducible exact O | refine own_drew' ?_ | refine own_alloc' ?_ _)) ⟨w.heap.size, 0, none⟩ 1 1 [.int .i64 x] (by rfl) rfl (news7 w #[.int .i64 x] 2) (by simp [Value.oneCell']) (by decide) (by unfold maxLen; omega) (by omega) (by simp) _ rfl ?_; intro q cap3 w3 ho3 hg3 hat hlt; have HB3 := below_here' (bal' (Below.refl _ w) _).drew hg3; have HE := Hid.mk (emit_end (x := x) H.out.1 H.out.2.1 H.out.2.2 HB3 hg3 (by rw [HN.out]; exact ho3) hat); rw [HN.out] at HE; obtain ⟨y0, y1, y2⟩ := HE.out.1; have y3 := (World.cell?_of_block (a := ⟨rb, 0, none⟩) y2).trans k0; clear y2; clear HB3 ho3 hg3 hat hlt))
  all_goals obtain ⟨G3, F3, R3⟩ := HE.out.2
  all_goals have cbn := prw_cell (n := 0) (cap := 0) R3.rep (F3.le _ _ HB.out.2.1) HB.out.2.2.1 (i := 0) (by rw [HB.out.2.2.2]; decide) (F3.le _ _ HB.out.1)
  all_goals have K := tells_any R3 ⟨b, rfl, F3.le _ _ HB.out.1⟩
  all_goals have HF := Hid.mk F3
  all_goals clear F3 R3 HE
  all_goals go_wp2_with (go_at_call 67; refine K.mono ?_; intro e w9 H9; have HE := Hid.mk (Out.from HF.out H9); obtain ⟨rfl, _⟩ := H9)
  all_goals go_end0
  all_goals exact HE.out
end
end Go.Proofs.YtbajpejnnfacbaaGreatDoor.Lz
