/- Package lazy: what waits: one more, and one less. -/
import Derived.Test.YtbajpejnnfacbaaGreatDoorLzr
import Derived.Deep.RegionLaw
namespace Go.Proofs.YtbajpejnnfacbaaGreatDoor.Lz
open Go.RowKit
set_option linter.unusedVariables false
set_option linter.unusedSimpArgs false


theorem info160 : (Tryz.prog.info? 160).map (fun i => (i.zero, i.size, i.bytes)) = some (some (.agg #[.int .i64 0, .pointer none, .slice none 0 0, .pointer none, .pointer none, .int .i64 0]), 6, 64) := by kernel_rfl
theorem own_drew' {w : World} {base size n : Nat} {e : TypeId} {v : Value} {xs : List Value} (h : w.ownsRow base e size v n xs) : w.drew.ownsRow base e size v n xs := h.kept (row := none) ⟨rfl, rfl, rfl, Nat.le_refl _, fun _ _ _ => rfl⟩ (by cases v.ownBlock <;> simp)
theorem own_alloc' {w : World} {base size n : Nat} {e : TypeId} {v : Value} {xs : List Value} (h : w.ownsRow base e size v n xs) (o : Obj) : (w.alloc o).ownsRow base e size v n xs := h.alloc o
theorem news6 (w : World) (o : Obj) (cs : Array Value) (t : TypeId) : ∀ j x, cs.toList[j]? = some x → ((w.alloc o).alloc (.cells cs t)).cell? ((⟨w.heap.size + 1, 0, none⟩ : Addr).add j) = some x := by
  have h := heap_alloc_new (w.alloc o) (.cells cs t)
  rw [show (w.alloc o).heap.size = w.heap.size + 1 by simp] at h
  exact World.news_of_block h
theorem bal' {wz w' : World} (h : Below wz.heap.size wz w') (o : Obj) : Below wz.heap.size wz (w'.alloc o) := h.alloc h.size o
theorem below_here' {w W W1 : World} {row : Option Nat} (h : Below w.heap.size w W) (hg : W.grownBy W1 row) : Below w.heap.size w W := h
section
variable {w w' : World} {G G' : Gm} {rb mb : Nat} {mv : Mv} {s : St} {sh : Int}
theorem Rep.owned {th : List T} {rows : List (List Nat)} (h : Rep w G th rows) (hs : w.heap.size ≤ w'.heap.size) (hb : ∀ b ty, G b = some ty → (∀ k, ty ≠ .own k) → w'.heap[b]? = w.heap[b]?) : Rep w' G th rows := by
  refine ⟨fun b ty k => ?_, h.has, h.one, h.oner⟩
  by_cases q : ∃ k, ty = .own k
  · obtain ⟨j, rfl⟩ := q
    exact Nat.lt_of_lt_of_le (h.lt k) hs
  · have q' : ∀ j, ty ≠ .own j := fun j e => q ⟨j, e⟩
    exact (h.cont b ty k).kept hs (Le.refl G) ⟨hb b ty k q', fun i _ => ⟨rfl, fun m hm => hb m _ hm (fun j e => by cases e)⟩, fun j _ => rfl⟩
theorem Run.turn2 (h : Run w G rb mb mv s sh) (F : Fx G G' w w') {th' : List T} {rows' : List (List Nat)} (R : Rep w' G' th' rows') {f : Nat} {nx : Int} {vx vn vo : Value} {wr : Int} {vw : Value} {sh' : Int} {ws' : List Fm} {md' : Md} {cs : List Value} (blk : Bx w' rb (rC mb f nx vx vn vo wr vw sh') 101)
    (oth : ∀ i k, G i = some (.own k) → k = 1 ∨ k = 3 → w'.heap[i]? = w.heap[i]?) (hm : mdC G' md' nx vx vn vo wr) (hw : Own w' G' 2 160 6 vw ws'.length cs) (hc : fmsC G' ws'.reverse cs) : Run w' G' rb mb mv { s with th := th', rows := rows', fuel := f, ws := ws', md := md' } sh' := by
  obtain ⟨v2, m1, m2⟩ := h.m
  exact ⟨R, Table.of_block h.tab h.pos (F.block 0 h.pos (by rw [h.g0]; trivial)), F.new 0 h.pos h.g0, F.le _ _ h.rt, F.le _ _ h.mt, ⟨nx, vx, vn, vo, wr, vw, cs, blk, hm, hw, hc⟩, ⟨v2, (oth mb 1 h.mt (.inl rfl)).trans m1, m2.kept F.le (fun g hg => oth g 3 hg (.inr rfl))⟩⟩
theorem wait_end {W w3 : World} {nx : Int} {vx vn vo : Value} {wr : Int} {vw : Value} {cs d : List Value} {f : Fm} {q cap : Nat} (h : Run w G rb mb mv s sh) (a : Bx w rb (rC mb s.fuel nx vx vn vo wr vw sh) 101) (b : mdC G s.md nx vx vn vo wr) (c : Own w G 2 160 6 vw s.ws.length cs) (e : fmsC G s.ws.reverse cs) (hf : fmC G f d)
    (hB : Below w.heap.size w W) (hg : W.grownBy w3 vw.ownBlock) (ho : w3.ownsRow 0 160 6 (.slice (some ⟨q, 0, none⟩) (s.ws.length + 1) cap) (s.ws.length + 1) (cs ++ d)) (hat : vw.ownBlock = some q ∨ q = W.heap.size) :
    (w3.cell? ⟨rb, 7, none⟩ = some vw ∧ w3.frozen? ⟨rb, 7, none⟩ = false) ∧ Out w G rb mb mv { s with ws := f :: s.ws } sh done (w3.setCell ⟨rb, 7, none⟩ (.slice (some ⟨q, 0, none⟩) (s.ws.length + 1) cap)) := by
  have nr : some rb ≠ vw.ownBlock := fun z => by have := c.tag rb z.symm; rw [h.rt] at this; cases this
  have b3 : w3.heap[rb]? = some (.cells (rC mb s.fuel nx vx vn vo wr vw sh) 101 (0, 0)) := (hg.block rb (Nat.lt_of_lt_of_le h.rlt hB.size) nr).trans (later' a hB)
  refine ⟨⟨Joins.cell_of_block b3 7, Joins.unfrozen_of_block b3 7⟩, rfl, ?_⟩
  have oth : ∀ i, i < w.heap.size → i ≠ rb → some i ≠ vw.ownBlock → (w3.setCell ⟨rb, 7, none⟩ (.slice (some ⟨q, 0, none⟩) (s.ws.length + 1) cap)).heap[i]? = w.heap[i]? := fun i hi h1 h2 => (setCell_block _ _ _ _ h1).trans ((hg.block i (Nat.lt_of_lt_of_le hi hB.size) h2).trans (hB.block i hi))
  have sz : w.heap.size ≤ (w3.setCell ⟨rb, 7, none⟩ (.slice (some ⟨q, 0, none⟩) (s.ws.length + 1) cap)).heap.size := by have := hB.size; have := hg.size; simp [World.setCell]; omega
  have tg : ∀ i ty, G i = some ty → ty ≠ .own 2 → some i ≠ vw.ownBlock := fun i ty hi hn z => by have := c.tag i z.symm; rw [hi] at this; cases this; exact hn rfl
  have R0 : Rep (w3.setCell ⟨rb, 7, none⟩ (.slice (some ⟨q, 0, none⟩) (s.ws.length + 1) cap)) G s.th s.rows := h.rep.owned sz (fun i ty hi hk => oth i (h.rep.lt hi) (fun z => by rw [z, h.rt] at hi; cases hi; exact hk 0 rfl) (tg i ty hi (hk 2)))
  have F0 : Fx G G w (w3.setCell ⟨rb, 7, none⟩ (.slice (some ⟨q, 0, none⟩) (s.ws.length + 1) cap)) := ⟨hg.os.trans hB.os, hg.tape.trans hB.tape, hg.output.trans hB.output, sz, fun i hi k => by
    refine oth i hi (fun z => ?_) (fun z => ?_)
    · rw [z, h.rt] at k; exact absurd k (by simp [fixd])
    · have := c.tag i z.symm
      rw [this] at k
      exact absurd k (by simp [fixd]), Le.refl G, fun _ _ h => h⟩
  have qlt : q < w3.heap.size := (ho.lt q rfl).2
  have nq : q ≠ rb := by
    rcases hat with z | z
    · intro y; exact nr (by rw [z, y])
    · have := h.rlt; have := hB.size; omega
  obtain ⟨G', F, R, hq⟩ : ∃ G', Fx G G' w (w3.setCell ⟨rb, 7, none⟩ (.slice (some ⟨q, 0, none⟩) (s.ws.length + 1) cap)) ∧ Rep (w3.setCell ⟨rb, 7, none⟩ (.slice (some ⟨q, 0, none⟩) (s.ws.length + 1) cap)) G' s.th s.rows ∧ G' q = some (.own 2) := by
    rcases hat with z | z
    · exact ⟨G, F0, R0, c.tag q z⟩
    · have fr : G q = none := h.rep.free (by rw [z]; exact hB.size)
      have R1 : Rep (w3.setCell ⟨rb, 7, none⟩ (.slice (some ⟨q, 0, none⟩) (s.ws.length + 1) cap)) (Lz.tag G q (.own 2)) s.th s.rows := R0.tag fr (show q < _ by simp [World.setCell]; exact qlt) (fun i => by simp) (fun i => by simp)
      exact ⟨Lz.tag G q (.own 2), F0.more rfl rfl rfl (Nat.le_refl _) (fun _ _ => rfl) (le_tag fr _) (fun i hi k => by rw [tag_ne _ _ (by have := hB.size; omega)]; exact k), R1, tag_self _ _ _⟩
  have blk : Bx (w3.setCell ⟨rb, 7, none⟩ (.slice (some ⟨q, 0, none⟩) (s.ws.length + 1) cap)) rb (rC mb s.fuel nx vx vn vo wr (.slice (some ⟨q, 0, none⟩) (s.ws.length + 1) cap) sh) 101 := Joins.block_setCell (i := 7) b3 _
  refine ⟨G', F, h.turn2 F R (ws' := f :: s.ws) (md' := s.md) (cs := cs ++ d) blk (fun i k hi hk => oth i (h.rep.lt hi) (fun z => by rw [z, h.rt] at hi; cases hi; omega) (tg i _ hi (fun z => by cases z; omega))) (mdC.le F.le b) ⟨?_, ?_⟩ ?_⟩
  · exact ho.kept (row := some rb) ⟨rfl, rfl, rfl, by simp [World.setCell], fun i _ hi => setCell_block _ _ _ _ (fun z => hi (by rw [z]))⟩ (.inr (fun z => nq (by simpa [Value.ownBlock] using z)))
  · intro g hgq
    simp [Value.ownBlock] at hgq
    rw [← hgq]; exact hq
  · rw [List.reverse_cons]
    exact fmsC_snoc (fmsC.le F.le e) (fmC.le F.le hf)
set_option maxRecDepth 100000 in
set_option maxHeartbeats 4000000 in
theorem wait_any (h : Run w G rb mb mv s sh) (f : Fm) (wh pl : Int) (po px pn : Option Addr) (ga : Option Addr) (gn gc : Nat) (hf : fmC G f [.int .i64 wh, .pointer po, .slice ga gn gc, .pointer px, .pointer pn, .int .i64 pl]) (hn : s.ws.length + 1 ≤ 1000000000) :
    Calls Tryz.prog 73 #[ptr rb, .agg #[.int .i64 wh, .pointer po, .slice ga gn gc, .pointer px, .pointer pn, .int .i64 pl]] w (Out w G rb mb mv { s with ws := f :: s.ws } sh) := by
  obtain ⟨nx, vx, vn, vo, wr, vw, cs, a, b, c, d⟩ := h.r
  obtain ⟨i0, hi, hz0, hz1, hz2⟩ := info_parts info160
  have H := Hid.mk (And.intro h (And.intro a (And.intro b (And.intro c (And.intro d hf)))))
  have O := c.row
  have c7 := a.cell 7
  have lt := h.rlt
  have nb : ¬ rb = w.heap.size := by omega
  obtain ⟨n, hn0⟩ : ∃ n, s.ws.length = n := ⟨_, rfl⟩
  have HN := Hid.mk hn0
  rw [hn0] at O hn
  clear h a b c d hf hn0
  go_enter Tryz.func73, Tryz.ntmps73
  go_wp2
  go_region_law (first
    | (refine step_append_lies _ (by rfl) _ _ _ (by rfl) 0 160 i0 _ 6 64 Tryz.underlying97 hi hz0 hz1 hz2 rfl (by decide) vw n cs (by rfl) (by repeat (first | with_reducible exact O | refine own_drew' ?_ | refine own_alloc' ?_ _)) ⟨w.heap.size + 1, 0, none⟩ 1 1 [.int .i64 wh, .pointer po, .slice ga gn gc, .pointer px, .pointer pn, .int .i64 pl] (by rfl) rfl (news6 w _ #[.int .i64 wh, .pointer po, .slice ga gn gc, .pointer px, .pointer pn, .int .i64 pl] 160) (by simp [Value.oneCell']) (by decide) (by unfold maxLen; omega) (by omega) (by simp) _ rfl ?_; intro q cap w3 ho hg hat hlt; have HB := below_here' (bal' (bal' (Below.refl _ w) _) _).drew hg; have HE := Hid.mk (wait_end H.out.1 H.out.2.1 H.out.2.2.1 H.out.2.2.2.1 H.out.2.2.2.2.1 H.out.2.2.2.2.2 HB hg (by rw [HN.out]; exact ho) hat); rw [HN.out] at HE; obtain ⟨y0, y1⟩ := HE.out.1; clear HB ho hg hat hlt))
  all_goals go_wp2
  all_goals go_end0
  all_goals exact HE.out.2
end
end Go.Proofs.YtbajpejnnfacbaaGreatDoor.Lz

/- Package lazy: what waits last is taken. -/
namespace Go.Proofs.YtbajpejnnfacbaaGreatDoor.Lz
open Go.RowKit
set_option linter.unusedVariables false
set_option linter.unusedSimpArgs false


theorem setCells_blk (g : Nat) {t : TypeId} : ∀ (vs : List Value) (W : World) (o : Nat) (cur : Array Value), W.heap[g]? = some (.cells cur t (0, 0)) → ∃ cur', (W.setCells g o vs).heap[g]? = some (.cells cur' t (0, 0)) ∧ cur'.size = cur.size ∧ ∀ j, j < o → cur'[j]? = cur[j]?
  | [], W, o, cur, h => ⟨cur, h, rfl, fun _ _ => rfl⟩
  | v :: r, W, o, cur, h => by
    obtain ⟨c', h1, h2, h3⟩ := setCells_blk g r (W.setCell ⟨g, o, none⟩ v) (o + 1) _ (Joins.block_setCell (i := o) h v)
    refine ⟨c', h1, by rw [h2]; simp, fun j hj => ?_⟩
    rw [h3 j (by omega), Array.getElem?_setIfInBounds_ne (by omega)]
theorem setCells_oth (g : Nat) : ∀ (vs : List Value) (W : World) (o : Nat), (W.setCells g o vs).os = W.os ∧ (W.setCells g o vs).tape = W.tape ∧ (W.setCells g o vs).output = W.output ∧ (W.setCells g o vs).heap.size = W.heap.size ∧ ∀ i, i ≠ g → (W.setCells g o vs).heap[i]? = W.heap[i]?
  | [], W, o => ⟨rfl, rfl, rfl, rfl, fun _ _ => rfl⟩
  | v :: r, W, o => by
    obtain ⟨a, b, c, d, e⟩ := setCells_oth g r (W.setCell ⟨g, o, none⟩ v) (o + 1)
    exact ⟨a, b, c, d.trans (by simp [World.setCell]), fun i hi => (e i hi).trans (setCell_block _ _ _ _ hi)⟩
theorem fmC_shape {G : Gm} : ∀ {f : Fm} {d : List Value}, fmC G f d → ∃ wh po ga gn gc px pn pl, d = [.int .i64 wh, .pointer po, .slice ga gn gc, .pointer px, .pointer pn, .int .i64 pl]
  | .same _, _, ⟨_, ⟨b, rfl, _⟩, e⟩ => ⟨_, _, _, _, _, _, _, _, e⟩
  | .things _, _, ⟨_, ⟨ga, cap, rfl, _⟩, e⟩ => ⟨_, _, _, _, _, _, _, _, e⟩
  | .arms _ _ _, _, ⟨_, _, _, ⟨b, rfl, _⟩, ⟨b2, rfl, _⟩, e⟩ => ⟨_, _, _, _, _, _, _, _, e⟩
  | .prim _ _ _, _, ⟨_, _, _, _, ⟨b, rfl, _⟩, ⟨g, cap, rfl, _⟩, _, e⟩ => ⟨_, _, _, _, _, _, _, _, e⟩
theorem size160 : (Tryz.prog.info? 160).map (·.size) = some 6 := by kernel_rfl
section
variable {w w' : World} {G G' : Gm} {rb mb : Nat} {mv : Mv} {s : St} {sh : Int}
set_option maxRecDepth 100000 in
set_option maxHeartbeats 4000000 in
theorem last_any (h : Run w G rb mb mv s sh) {f : Fm} {r : List Fm} (hw : s.ws = f :: r) (hn : s.ws.length ≤ 1000000000) :
    Calls Tryz.prog 77 #[ptr rb] w fun e w' => (∃ d, e = .returned (.agg d.toArray) ∧ fmC G f d) ∧ Fx G G w w' ∧ Run w' G rb mb mv { s with ws := r } sh := by
  obtain ⟨nx, vx, vn, vo, wr, vw, cs, a, b, c, d⟩ := h.r
  rw [hw, List.reverse_cons] at d
  obtain ⟨c1, fd, rfl, d1, d2⟩ := fmsC_last d
  have l1 : c1.length = r.length * 6 := by have := fmsC_len d1; rwa [List.length_reverse] at this
  obtain ⟨n, hn0⟩ : ∃ n, r.length = n := ⟨_, rfl⟩
  have wl : s.ws.length = n + 1 := by rw [hw, List.length_cons, hn0]
  obtain ⟨ro, rt⟩ := c
  obtain ⟨x1, x2⟩ := ro
  rcases x2 with ⟨_, z⟩ | ⟨g, cap, cur, rfl, _, hg, x3, x4, x5, x6⟩
  · omega
  have gt := rt g rfl
  have glt := lt_of_block hg
  have grb : g ≠ rb := fun e => by rw [e, h.rt] at gt; cases gt
  obtain ⟨wh, po, ga, gn, gc, px, pn, pl, rfl⟩ := fmC_shape d2
  rw [wl] at x3 x6 hn
  rw [hn0] at l1
  have cell : ∀ (j : Nat) u, [Value.int .i64 wh, .pointer po, .slice ga gn gc, .pointer px, .pointer pn, .int .i64 pl][j]? = some u → w.cell? ⟨g, n * 6 + j, none⟩ = some u := fun j u hj => by
    have j6 : j < 6 := by have := (List.getElem?_eq_some_iff.1 hj).1; simpa using this
    have e1 : cur.toList[n * 6 + j]? = some u := by
      have : (cur.toList.take ((n + 1) * 6))[n * 6 + j]? = some u := by rw [x6, List.getElem?_append_right (by omega), l1, show n * 6 + j - n * 6 = j by omega]; exact hj
      rwa [List.getElem?_take_of_lt (by omega)] at this
    rw [Joins.cell_of_block hg]
    simpa using e1
  have d0 := cell 0 _ rfl
  have e1 := cell 1 _ rfl
  have e2 := cell 2 _ rfl
  have e3 := cell 3 _ rfl
  have e4 := cell 4 _ rfl
  have e5 := cell 5 _ rfl
  rw [Nat.add_zero] at d0
  have c7 := a.cell 7
  have lt := h.rlt
  have o1 : IntKind.i64.wrap (((n + 1 : Nat) : Int) - 1) = n := by rw [IntKind.wrap_i64]; omega
  have nI : (n : Int) < ((n + 1 : Nat) : Int) := by omega
  obtain ⟨W, hW⟩ : ∃ W, W = (w.alloc (.cells #[.int .i64 0, .pointer none, .slice none 0 0, .pointer none, .pointer none, .int .i64 0] 160)).alloc (.cells #[.int .i64 wh, .pointer po, .slice ga gn gc, .pointer px, .pointer pn, .int .i64 pl] 160) := ⟨_, rfl⟩
  have KW : Below w.heap.size w W := by rw [hW]; exact (Joins.below_alloc1 w _).alloc (Joins.below_alloc1 w _).size _
  have XA : Bx W (w.heap.size + 1) #[.int .i64 wh, .pointer po, .slice ga gn gc, .pointer px, .pointer pn, .int .i64 pl] 160 := by
    rw [hW]
    have := heap_alloc_new (w.alloc (.cells #[.int .i64 0, .pointer none, .slice none 0 0, .pointer none, .pointer none, .int .i64 0] 160)) (.cells #[.int .i64 wh, .pointer po, .slice ga gn gc, .pointer px, .pointer pn, .int .i64 pl] 160)
    rwa [World.size_alloc] at this
  have XZ : Bx W w.heap.size #[.int .i64 0, .pointer none, .slice none 0 0, .pointer none, .pointer none, .int .i64 0] 160 := by
    rw [hW]
    exact later' (heap_alloc_new w _) (Joins.below_alloc1 _ _)
  have hgW := later' hg KW
  have th6 : W.there g (n * 6) 6 := fun j hj => by
    rw [Joins.cell_of_block hgW, Joins.unfrozen_of_block hgW]
    refine ⟨?_, rfl⟩
    rw [Array.getElem?_eq_getElem (by rw [x5]; omega)]
    rfl
  obtain ⟨zs, hzs⟩ : ∃ zs : List Value, zs = [.int .i64 0, .pointer none, .slice none 0 0, .pointer none, .pointer none, .int .i64 0] := ⟨_, rfl⟩
  obtain ⟨W2, hW2⟩ : ∃ W2, W2 = W.setCells g (n * 6) zs := ⟨_, rfl⟩
  obtain ⟨so, st, sp, sz, sb⟩ := setCells_oth g zs W (n * 6)
  obtain ⟨cur', k1, k2, k3⟩ := setCells_blk g zs W (n * 6) cur hgW
  rw [← hW2] at so st sp sz sb k1
  have XR : Bx W2 rb (rC mb s.fuel nx vx vn vo wr (.slice (some ⟨g, 0, none⟩) (n + 1) cap) sh) 101 := (sb rb (fun e => grb e.symm)).trans (by have := later' a KW; rwa [wl] at this)
  have XA2 : Bx W2 (w.heap.size + 1) #[.int .i64 wh, .pointer po, .slice ga gn gc, .pointer px, .pointer pn, .int .i64 pl] 160 := (sb _ (by omega)).trans XA
  have XZ2 : Bx W2 w.heap.size #[.int .i64 0, .pointer none, .slice none 0 0, .pointer none, .pointer none, .int .i64 0] 160 := (sb _ (by omega)).trans XZ
  have r7 := XR.cell 7
  have rz : W2.frozen? ⟨rb, 7, none⟩ = false := Joins.unfrozen_of_block XR 7
  rw [wl] at c7
  have c7W := (later' a KW)
  rw [wl] at c7W
  have w7 : W.cell? ⟨rb, 7, none⟩ = some (.slice (some ⟨g, 0, none⟩) (n + 1) cap) := Joins.cell_of_block c7W 7
  obtain ⟨W3, hW3⟩ : ∃ W3, W3 = W2.setCell ⟨rb, 7, none⟩ (.slice (some ⟨g, 0, none⟩) n cap) := ⟨_, rfl⟩
  have XR3 : Bx W3 rb (rC mb s.fuel nx vx vn vo wr (.slice (some ⟨g, 0, none⟩) n cap) sh) 101 := by rw [hW3]; exact Joins.block_setCell (i := 7) XR _
  have sb3 : ∀ i, i ≠ rb → W3.heap[i]? = W2.heap[i]? := fun i hi => by rw [hW3]; exact setCell_block _ _ _ _ hi
  have XA3 : Bx W3 (w.heap.size + 1) #[.int .i64 wh, .pointer po, .slice ga gn gc, .pointer px, .pointer pn, .int .i64 pl] 160 := (sb3 _ (by omega)).trans XA2
  have XZ3 : Bx W3 w.heap.size #[.int .i64 0, .pointer none, .slice none 0 0, .pointer none, .pointer none, .int .i64 0] 160 := (sb3 _ (by omega)).trans XZ2
  have FIN : Hid (∀ W4 : World, (W4.os = W3.os ∧ W4.tape = W3.tape ∧ W4.output = W3.output ∧ W4.heap.size = W3.heap.size ∧ ∀ i, i ≠ w.heap.size → W4.heap[i]? = W3.heap[i]?) → Fx G G w W4 ∧ Run W4 G rb mb mv { s with ws := r } sh) := ⟨fun W4 ⟨o4, t4, p4, z4, b4⟩ => by
    have sW3 : W3.heap.size = W2.heap.size := by rw [hW3]; simp [World.setCell]
    have oth : ∀ i, i < w.heap.size → i ≠ rb → i ≠ g → W4.heap[i]? = w.heap[i]? := fun i hi h1 h2 => (b4 i (by omega)).trans ((sb3 i h1).trans ((sb i h2).trans (KW.block i hi)))
    have ks := KW.size
    have szz : w.heap.size ≤ W4.heap.size := by omega
    have F : Fx G G w W4 := ⟨o4.trans ((by rw [hW3]; rfl : W3.os = W2.os).trans (so.trans KW.os)), t4.trans ((by rw [hW3]; rfl : W3.tape = W2.tape).trans (st.trans KW.tape)), p4.trans ((by rw [hW3]; rfl : W3.output = W2.output).trans (sp.trans KW.output)), szz, fun i hi q => by
      refine oth i hi (fun z => ?_) (fun z => ?_)
      · rw [z, h.rt] at q; exact absurd q (by simp [fixd])
      · rw [z, gt] at q; exact absurd q (by simp [fixd]), Le.refl G, fun _ _ h => h⟩
    have R : Rep W4 G s.th s.rows := h.rep.owned szz (fun i ty hi hk => oth i (h.rep.lt hi) (fun z => by rw [z, h.rt] at hi; cases hi; exact hk 0 rfl) (fun z => by rw [z, gt] at hi; cases hi; exact hk 2 rfl))
    refine ⟨F, h.turn2 F R (ws' := r) (md' := s.md) (cs := c1) ((b4 rb (by omega)).trans XR3) (fun i k hi hk => oth i (h.rep.lt hi) (fun z => by rw [z, h.rt] at hi; cases hi; omega) (fun z => by rw [z, gt] at hi; cases hi; omega)) b ⟨⟨by rw [hn0]; exact l1, .inr ⟨g, cap, cur', by rw [hn0], Nat.zero_le _, (b4 g (by omega)).trans ((sb3 g grb).trans k1), by omega, x4, by rw [k2, x5], ?_⟩⟩, rt⟩ d1⟩
    rw [hn0]
    apply List.ext_getElem?
    intro j
    by_cases hj : j < n * 6
    · have q1 : (cur'.toList.take (n * 6))[j]? = cur.toList[j]? := by rw [List.getElem?_take_of_lt hj]; have := k3 j hj; simpa using this
      have q2 : (cur.toList.take ((n + 1) * 6))[j]? = c1[j]? := by rw [x6, List.getElem?_append_left (by omega)]
      rw [List.getElem?_take_of_lt (by omega)] at q2
      exact q1.trans q2
    · rw [List.getElem?_eq_none (by rw [List.length_take]; omega), List.getElem?_eq_none (by omega)]⟩
  have HF := Hid.mk d2
  have HZ := Hid.mk (And.intro XZ3 XA3)
  have HT := Hid.mk th6
  have ncap : n ≤ cap := by omega
  have hW2' : W.setCells g (n * 6) (#[Value.int .i64 0, .pointer none, .slice none 0 0, .pointer none, .pointer none, .int .i64 0] : Array Value).toList = W2 := by rw [hW2, hzs]
  have t0 := XA3.cell 0
  have t1 := XA3.cell 1
  have t2 := XA3.cell 2
  have t3 := XA3.cell 3
  have t4 := XA3.cell 4
  have t5 := XA3.cell 5
  clear hzs hW2
  subst hW
  clear h a b d1 d2 d x1 x3 x4 x5 x6 cell KW XA XZ hgW th6 so st sp sz sb k1 k2 k3 XR XA2 XZ2 XR3 sb3 XA3 XZ3 c7W rt hg l1 hn0 wl
  go_enter Tryz.func77, Tryz.ntmps77
  go_wp2_with (first
    | (refine wpList_store_mid rfl 160 _ _ rfl g (n * 6) #[.int .i64 0, .pointer none, .slice none 0 0, .pointer none, .pointer none, .int .i64 0] rfl rfl HT.out size160 (by simp [Value.oneCell']) ?_; rw [hW2']; clear hW2')
    | (rw [← hW3]; clear hW3; refine wpList_load_row rfl 160 _ rfl (w.heap.size + 1) rfl 160 _ (0, 0) _ HZ.out.2 Tryz.underlying160 rfl size160 ?_)
    | (refine wpList_store_row rfl 160 _ _ rfl w.heap.size #[.int .i64 wh, .pointer po, .slice ga gn gc, .pointer px, .pointer pn, .int .i64 pl] rfl rfl 160 _ HZ.out.1 size160 rfl (by simp [Value.oneCell']) ?_))
  have e4 : ∀ i, i ≠ w.heap.size → (W3.setRow w.heap.size #[.int .i64 wh, .pointer po, .slice ga gn gc, .pointer px, .pointer pn, .int .i64 pl]).heap[i]? = W3.heap[i]? := fun i hi => by
    simp only [World.setRow]
    rw [Array.getElem?_modify, if_neg (fun e => hi e.symm)]
  have b4 : (W3.setRow w.heap.size #[.int .i64 wh, .pointer po, .slice ga gn gc, .pointer px, .pointer pn, .int .i64 pl]).heap[w.heap.size]? = some (.cells #[.int .i64 wh, .pointer po, .slice ga gn gc, .pointer px, .pointer pn, .int .i64 pl] 160 (0, 0)) := by
    have hz : W3.heap[w.heap.size]? = _ := HZ.out.1
    simp only [World.setRow]
    rw [Array.getElem?_modify, if_pos rfl, hz]
    rfl
  exact bodyPost_ret (results_cell_row Tryz.results77 _ _ w.heap.size 160 #[.int .i64 wh, .pointer po, .slice ga gn gc, .pointer px, .pointer pn, .int .i64 pl] (0, 0) _ rfl b4 Tryz.underlying160 rfl size160) rfl ⟨⟨_, rfl, HF.out⟩, FIN.out _ ⟨rfl, rfl, rfl, by simp [World.setRow], e4⟩⟩
end
end Go.Proofs.YtbajpejnnfacbaaGreatDoor.Lz
