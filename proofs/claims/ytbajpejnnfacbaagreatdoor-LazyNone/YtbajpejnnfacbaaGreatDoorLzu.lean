/- Package lazy: what waits last is taken. -/
import Derived.Test.YtbajpejnnfacbaaGreatDoorLzs
namespace Go.Proofs.YtbajpejnnfacbaaGreatDoor.Lz
open Go.RowKit
set_option linter.unusedVariables false
set_option linter.unusedSimpArgs false


theorem setCells_blk (g : Nat) {t : TypeId} : ∀ (vs : List Value) (W : World) (o : Nat) (cur : Array Value), W.heap[g]? = some (.cells cur t (0, 0)) → ∃ cur', (W.setCells g o vs).heap[g]? = some (.cells cur' t (0, 0)) ∧ cur'.size = cur.size ∧ ∀ j, j < o → cur'[j]? = cur[j]?
  | [], W, o, cur, h => ⟨cur, h, rfl, fun _ _ => rfl⟩
  | v :: r, W, o, cur, h => by
    obtain ⟨c', h1, h2, h3⟩ := setCells_blk g r (W.setCell ⟨g, o, none⟩ v) (o + 1) _ (Joins.block_setCell (i := o) h v)
    refine ⟨c', h1, by rw [h2]; simp, fun j hj => ?_⟩
    rw [h3 j (by omega), Array.getElem?_setIfInBounds_ne (by omega)]
theorem setCells_oth (g : Nat) : ∀ (vs : List Value) (W : World) (o : Nat), (W.setCells g o vs).os = W.os ∧ (W.setCells g o vs).tape = W.tape ∧ (W.setCells g o vs).output = W.output ∧ (W.setCells g o vs).heap.size = W.heap.size ∧ ∀ i, i ≠ g → (W.setCells g o vs).heap[i]? = W.heap[i]?
  | [], W, o => ⟨rfl, rfl, rfl, rfl, fun _ _ => rfl⟩
  | v :: r, W, o => by
    obtain ⟨a, b, c, d, e⟩ := setCells_oth g r (W.setCell ⟨g, o, none⟩ v) (o + 1)
    exact ⟨a, b, c, d.trans (by simp [World.setCell]), fun i hi => (e i hi).trans (setCell_block _ _ _ _ hi)⟩
theorem fmC_shape {G : Gm} : ∀ {f : Fm} {d : List Value}, fmC G f d → ∃ wh po ga gn gc px pn pl, d = [.int .i64 wh, .pointer po, .slice ga gn gc, .pointer px, .pointer pn, .int .i64 pl]
  | .same _, _, ⟨_, ⟨b, rfl, _⟩, e⟩ => ⟨_, _, _, _, _, _, _, _, e⟩
  | .things _, _, ⟨_, ⟨ga, cap, rfl, _⟩, e⟩ => ⟨_, _, _, _, _, _, _, _, e⟩
  | .arms _ _ _, _, ⟨_, _, _, ⟨b, rfl, _⟩, ⟨b2, rfl, _⟩, e⟩ => ⟨_, _, _, _, _, _, _, _, e⟩
  | .prim _ _ _, _, ⟨_, _, _, _, ⟨b, rfl, _⟩, ⟨g, cap, rfl, _⟩, _, e⟩ => ⟨_, _, _, _, _, _, _, _, e⟩
theorem size160 : (Tryz.prog.info? 160).map (·.size) = some 6 := by kernel_rfl
section
variable {w w' : World} {G G' : Gm} {rb mb : Nat} {mv : Mv} {s : St} {sh : Int}
set_option maxRecDepth 100000 in
set_option maxHeartbeats 4000000 in
theorem last_any (h : Run w G rb mb mv s sh) {f : Fm} {r : List Fm} (hw : s.ws = f :: r) (hn : s.ws.length ≤ 1000000000) :
    Calls Tryz.prog 77 #[ptr rb] w fun e w' => (∃ d, e = .returned (.agg d.toArray) ∧ fmC G f d) ∧ Fx G G w w' ∧ Run w' G rb mb mv { s with ws := r } sh := by
  obtain ⟨nx, vx, vn, vo, wr, vw, cs, a, b, c, d⟩ := h.r
  rw [hw, List.reverse_cons] at d
  obtain ⟨c1, fd, rfl, d1, d2⟩ := fmsC_last d
  have l1 : c1.length = r.length * 6 := by have := fmsC_len d1; rwa [List.length_reverse] at this
  obtain ⟨n, hn0⟩ : ∃ n, r.length = n := ⟨_, rfl⟩
  have wl : s.ws.length = n + 1 := by rw [hw, List.length_cons, hn0]
  obtain ⟨ro, rt⟩ := c
  obtain ⟨x1, x2⟩ := ro
  rcases x2 with ⟨_, z⟩ | ⟨g, cap, cur, rfl, _, hg, x3, x4, x5, x6⟩
  · omega
  have gt := rt g rfl
  have glt := lt_of_block hg
  have grb : g ≠ rb := fun e => by rw [e, h.rt] at gt; cases gt
  obtain ⟨wh, po, ga, gn, gc, px, pn, pl, rfl⟩ := fmC_shape d2
  rw [wl] at x3 x6 hn
  rw [hn0] at l1
  have cell : ∀ (j : Nat) u, [Value.int .i64 wh, .pointer po, .slice ga gn gc, .pointer px, .pointer pn, .int .i64 pl][j]? = some u → w.cell? ⟨g, n * 6 + j, none⟩ = some u := fun j u hj => by
    have j6 : j < 6 := by have := (List.getElem?_eq_some_iff.1 hj).1; simpa using this
    have e1 : cur.toList[n * 6 + j]? = some u := by
      have : (cur.toList.take ((n + 1) * 6))[n * 6 + j]? = some u := by rw [x6, List.getElem?_append_right (by omega), l1, show n * 6 + j - n * 6 = j by omega]; exact hj
      rwa [List.getElem?_take_of_lt (by omega)] at this
    rw [Joins.cell_of_block hg]
    simpa using e1
  have d0 := cell 0 _ rfl
  have e1 := cell 1 _ rfl
  have e2 := cell 2 _ rfl
  have e3 := cell 3 _ rfl
  have e4 := cell 4 _ rfl
  have e5 := cell 5 _ rfl
  rw [Nat.add_zero] at d0
  have c7 := a.cell 7
  have lt := h.rlt
  have o1 : IntKind.i64.wrap (((n + 1 : Nat) : Int) - 1) = n := by rw [IntKind.wrap_i64]; omega
  have nI : (n : Int) < ((n + 1 : Nat) : Int) := by omega
  obtain ⟨W, hW⟩ : ∃ W, W = (w.alloc (.cells #[.int .i64 0, .pointer none, .slice none 0 0, .pointer none, .pointer none, .int .i64 0] 160)).alloc (.cells #[.int .i64 wh, .pointer po, .slice ga gn gc, .pointer px, .pointer pn, .int .i64 pl] 160) := ⟨_, rfl⟩
  have KW : Below w.heap.size w W := by rw [hW]; exact (Joins.below_alloc1 w _).alloc (Joins.below_alloc1 w _).size _
  have XA : Bx W (w.heap.size + 1) #[.int .i64 wh, .pointer po, .slice ga gn gc, .pointer px, .pointer pn, .int .i64 pl] 160 := by
    rw [hW]
    have := heap_alloc_new (w.alloc (.cells #[.int .i64 0, .pointer none, .slice none 0 0, .pointer none, .pointer none, .int .i64 0] 160)) (.cells #[.int .i64 wh, .pointer po, .slice ga gn gc, .pointer px, .pointer pn, .int .i64 pl] 160)
    rwa [World.size_alloc] at this
  have XZ : Bx W w.heap.size #[.int .i64 0, .pointer none, .slice none 0 0, .pointer none, .pointer none, .int .i64 0] 160 := by
    rw [hW]
    exact later' (heap_alloc_new w _) (Joins.below_alloc1 _ _)
  have hgW := later' hg KW
  have th6 : W.there g (n * 6) 6 := fun j hj => by
    rw [Joins.cell_of_block hgW, Joins.unfrozen_of_block hgW]
    refine ⟨?_, rfl⟩
    rw [Array.getElem?_eq_getElem (by rw [x5]; omega)]
    rfl
  obtain ⟨zs, hzs⟩ : ∃ zs : List Value, zs = [.int .i64 0, .pointer none, .slice none 0 0, .pointer none, .pointer none, .int .i64 0] := ⟨_, rfl⟩
  obtain ⟨W2, hW2⟩ : ∃ W2, W2 = W.setCells g (n * 6) zs := ⟨_, rfl⟩
  obtain ⟨so, st, sp, sz, sb⟩ := setCells_oth g zs W (n * 6)
  obtain ⟨cur', k1, k2, k3⟩ := setCells_blk g zs W (n * 6) cur hgW
  rw [← hW2] at so st sp sz sb k1
  have XR : Bx W2 rb (rC mb s.fuel nx vx vn vo wr (.slice (some ⟨g, 0, none⟩) (n + 1) cap) sh) 101 := (sb rb (fun e => grb e.symm)).trans (by have := later' a KW; rwa [wl] at this)
  have XA2 : Bx W2 (w.heap.size + 1) #[.int .i64 wh, .pointer po, .slice ga gn gc, .pointer px, .pointer pn, .int .i64 pl] 160 := (sb _ (by omega)).trans XA
  have XZ2 : Bx W2 w.heap.size #[.int .i64 0, .pointer none, .slice none 0 0, .pointer none, .pointer none, .int .i64 0] 160 := (sb _ (by omega)).trans XZ
  have r7 := XR.cell 7
  have rz : W2.frozen? ⟨rb, 7, none⟩ = false := Joins.unfrozen_of_block XR 7
  rw [wl] at c7
  have c7W := (later' a KW)
  rw [wl] at c7W
  have w7 : W.cell? ⟨rb, 7, none⟩ = some (.slice (some ⟨g, 0, none⟩) (n + 1) cap) := Joins.cell_of_block c7W 7
  obtain ⟨W3, hW3⟩ : ∃ W3, W3 = W2.setCell ⟨rb, 7, none⟩ (.slice (some ⟨g, 0, none⟩) n cap) := ⟨_, rfl⟩
  have XR3 : Bx W3 rb (rC mb s.fuel nx vx vn vo wr (.slice (some ⟨g, 0, none⟩) n cap) sh) 101 := by rw [hW3]; exact Joins.block_setCell (i := 7) XR _
  have sb3 : ∀ i, i ≠ rb → W3.heap[i]? = W2.heap[i]? := fun i hi => by rw [hW3]; exact setCell_block _ _ _ _ hi
  have XA3 : Bx W3 (w.heap.size + 1) #[.int .i64 wh, .pointer po, .slice ga gn gc, .pointer px, .pointer pn, .int .i64 pl] 160 := (sb3 _ (by omega)).trans XA2
  have XZ3 : Bx W3 w.heap.size #[.int .i64 0, .pointer none, .slice none 0 0, .pointer none, .pointer none, .int .i64 0] 160 := (sb3 _ (by omega)).trans XZ2
  have FIN : Hid (∀ W4 : World, (W4.os = W3.os ∧ W4.tape = W3.tape ∧ W4.output = W3.output ∧ W4.heap.size = W3.heap.size ∧ ∀ i, i ≠ w.heap.size → W4.heap[i]? = W3.heap[i]?) → Fx G G w W4 ∧ Run W4 G rb mb mv { s with ws := r } sh) := ⟨fun W4 ⟨o4, t4, p4, z4, b4⟩ => by
    have sW3 : W3.heap.size = W2.heap.size := by rw [hW3]; simp [World.setCell]
    have oth : ∀ i, i < w.heap.size → i ≠ rb → i ≠ g → W4.heap[i]? = w.heap[i]? := fun i hi h1 h2 => (b4 i (by omega)).trans ((sb3 i h1).trans ((sb i h2).trans (KW.block i hi)))
    have ks := KW.size
    have szz : w.heap.size ≤ W4.heap.size := by omega
    have F : Fx G G w W4 := ⟨o4.trans ((by rw [hW3]; rfl : W3.os = W2.os).trans (so.trans KW.os)), t4.trans ((by rw [hW3]; rfl : W3.tape = W2.tape).trans (st.trans KW.tape)), p4.trans ((by rw [hW3]; rfl : W3.output = W2.output).trans (sp.trans KW.output)), szz, fun i hi q => by
      refine oth i hi (fun z => ?_) (fun z => ?_)
      · rw [z, h.rt] at q; exact absurd q (by simp [fixd])
      · rw [z, gt] at q; exact absurd q (by simp [fixd]), Le.refl G, fun _ _ h => h⟩
    have R : Rep W4 G s.th s.rows := h.rep.owned szz (fun i ty hi hk => oth i (h.rep.lt hi) (fun z => by rw [z, h.rt] at hi; cases hi; exact hk 0 rfl) (fun z => by rw [z, gt] at hi; cases hi; exact hk 2 rfl))
    refine ⟨F, h.turn2 F R (ws' := r) (md' := s.md) (cs := c1) ((b4 rb (by omega)).trans XR3) (fun i k hi hk => oth i (h.rep.lt hi) (fun z => by rw [z, h.rt] at hi; cases hi; omega) (fun z => by rw [z, gt] at hi; cases hi; omega)) b ⟨⟨by rw [hn0]; exact l1, .inr ⟨g, cap, cur', by rw [hn0], Nat.zero_le _, (b4 g (by omega)).trans ((sb3 g grb).trans k1), by omega, x4, by rw [k2, x5], ?_⟩⟩, rt⟩ d1⟩
    rw [hn0]
    apply List.ext_getElem?
    intro j
    by_cases hj : j < n * 6
    · have q1 : (cur'.toList.take (n * 6))[j]? = cur.toList[j]? := by rw [List.getElem?_take_of_lt hj]; have := k3 j hj; simpa using this
      have q2 : (cur.toList.take ((n + 1) * 6))[j]? = c1[j]? := by rw [x6, List.getElem?_append_left (by omega)]
      rw [List.getElem?_take_of_lt (by omega)] at q2
      exact q1.trans q2
    · rw [List.getElem?_eq_none (by rw [List.length_take]; omega), List.getElem?_eq_none (by omega)]⟩
  have HF := Hid.mk d2
  have HZ := Hid.mk (And.intro XZ3 XA3)
  have HT := Hid.mk th6
  have ncap : n ≤ cap := by omega
  have hW2' : W.setCells g (n * 6) (#[Value.int .i64 0, .pointer none, .slice none 0 0, .pointer none, .pointer none, .int .i64 0] : Array Value).toList = W2 := by rw [hW2, hzs]
  have t0 := XA3.cell 0
  have t1 := XA3.cell 1
  have t2 := XA3.cell 2
  have t3 := XA3.cell 3
  have t4 := XA3.cell 4
  have t5 := XA3.cell 5
  clear hzs hW2
  subst hW
  clear h a b d1 d2 d x1 x3 x4 x5 x6 cell KW XA XZ hgW th6 so st sp sz sb k1 k2 k3 XR XA2 XZ2 XR3 sb3 XA3 XZ3 c7W rt hg l1 hn0 wl
  go_enter Tryz.func77, Tryz.ntmps77
  go_wp2_with (first
    | (refine wpList_store_mid rfl 160 _ _ rfl g (n * 6) #[.int .i64 0, .pointer none, .slice none 0 0, .pointer none, .pointer none, .int .i64 0] rfl rfl HT.out size160 (by simp [Value.oneCell']) ?_; rw [hW2']; clear hW2')
    | (rw [← hW3]; clear hW3; refine wpList_load_row rfl 160 _ rfl (w.heap.size + 1) rfl 160 _ (0, 0) _ HZ.out.2 Tryz.underlying160 rfl size160 ?_)
    | (refine wpList_store_row rfl 160 _ _ rfl w.heap.size #[.int .i64 wh, .pointer po, .slice ga gn gc, .pointer px, .pointer pn, .int .i64 pl] rfl rfl 160 _ HZ.out.1 size160 rfl (by simp [Value.oneCell']) ?_))
  have e4 : ∀ i, i ≠ w.heap.size → (W3.setRow w.heap.size #[.int .i64 wh, .pointer po, .slice ga gn gc, .pointer px, .pointer pn, .int .i64 pl]).heap[i]? = W3.heap[i]? := fun i hi => by
    simp only [World.setRow]
    rw [Array.getElem?_modify, if_neg (fun e => hi e.symm)]
  have b4 : (W3.setRow w.heap.size #[.int .i64 wh, .pointer po, .slice ga gn gc, .pointer px, .pointer pn, .int .i64 pl]).heap[w.heap.size]? = some (.cells #[.int .i64 wh, .pointer po, .slice ga gn gc, .pointer px, .pointer pn, .int .i64 pl] 160 (0, 0)) := by
    have hz : W3.heap[w.heap.size]? = _ := HZ.out.1
    simp only [World.setRow]
    rw [Array.getElem?_modify, if_pos rfl, hz]
    rfl
  exact bodyPost_ret (results_cell_row Tryz.results77 _ _ w.heap.size 160 #[.int .i64 wh, .pointer po, .slice ga gn gc, .pointer px, .pointer pn, .int .i64 pl] (0, 0) _ rfl b4 Tryz.underlying160 rfl size160) rfl ⟨⟨_, rfl, HF.out⟩, FIN.out _ ⟨rfl, rfl, rfl, by simp [World.setRow], e4⟩⟩
end
end Go.Proofs.YtbajpejnnfacbaaGreatDoor.Lz

/- Package lazy: a thing is called, put in work; all that is in work fails. -/
namespace Go.Proofs.YtbajpejnnfacbaaGreatDoor.Lz
open Go.RowKit
set_option linter.unusedVariables false
set_option linter.unusedSimpArgs false


theorem size91 : (Tryz.prog.info? 91).map (·.size) = some 8 := by kernel_rfl
theorem setRow_oth (W : World) (g : Nat) (c : Array Value) : ∀ i, i ≠ g → (W.setRow g c).heap[i]? = W.heap[i]? := fun i hi => by
  simp only [World.setRow]
  rw [Array.getElem?_modify, if_neg (fun e => hi e.symm)]
theorem setRow_blk {W : World} {g : Nat} {c c' : Array Value} {t : TypeId} (h : W.heap[g]? = some (.cells c t (0, 0))) : (W.setRow g c').heap[g]? = some (.cells c' t (0, 0)) := by
  simp only [World.setRow]
  rw [Array.getElem?_modify, if_pos rfl, h]
  rfl
theorem setRow_size (W : World) (g : Nat) (c : Array Value) : (W.setRow g c).heap.size = W.heap.size := by simp [World.setRow]
abbrev shT (is n : Int) (f nm o : Option Addr) (ga : Option Addr) (gn gc : Nat) (it : Option Nat) (wr : Int) : Array Value := thC is n (.pointer f) (.pointer nm) (.pointer o) (.slice ga gn gc) (.map it) wr
theorem isT_shape {w : World} {G : Gm} {i : Nat} : ∀ {t : T} {c : Array Value}, isT w G i t c → ∃ is n f nm o ga gn gc it wr, c = shT is n f nm o ga gn gc it wr
  | .num _, _, e => ⟨_, _, _, _, _, _, _, _, _, _, e⟩
  | .con _ _, _, ⟨_, ⟨ga, cap, rfl, _⟩, e⟩ => ⟨_, _, _, _, _, _, _, _, _, _, e⟩
  | .fn _ _ _, _, ⟨_, _, ⟨b, rfl, _⟩, ⟨b2, rfl, _⟩, e⟩ => ⟨_, _, _, _, _, _, _, _, _, _, e⟩
  | .part _ _, _, ⟨_, _, ⟨b, rfl, _⟩, ⟨ga, cap, rfl, _⟩, e⟩ => ⟨_, _, _, _, _, _, _, _, _, _, e⟩
  | .var _, _, ⟨_, ⟨b, rfl, _⟩, e⟩ => ⟨_, _, _, _, _, _, _, _, _, _, e⟩
  | .arr _, _, ⟨_, _, _, ⟨b, rfl, _⟩, e, q⟩ => by
    rcases q with ⟨rfl, _⟩ | ⟨m, n, f, rfl, _⟩
    · exact ⟨_, _, _, _, _, _, _, _, _, _, e⟩
    · exact ⟨_, _, _, _, _, _, _, _, _, _, e⟩
  | .need _ _, _, ⟨_, _, _, ⟨b, rfl, _⟩, ⟨b2, rfl, _⟩, e⟩ => ⟨_, _, _, _, _, _, _, _, _, _, e⟩
  | .call _ _, _, ⟨_, _, ⟨b, rfl, _⟩, ⟨ga, cap, rfl, _⟩, e⟩ => ⟨_, _, _, _, _, _, _, _, _, _, e⟩
  | .work, _, e => ⟨_, _, _, _, _, _, _, _, _, _, e⟩
  | .failed _, _, e => ⟨_, _, _, _, _, _, _, _, _, _, e⟩
  | .same _, _, ⟨_, ⟨b, rfl, _⟩, e⟩ => ⟨_, _, _, _, _, _, _, _, _, _, e⟩
section
variable {w w' : World} {G G' : Gm} {rb mb : Nat} {mv : Mv} {s : St} {sh : Int}
theorem Run.thing (h : Run w G rb mb mv s sh) {b t : Nat} (hb : G b = some (.thing t)) : ∃ tv c, s.th[t]? = some tv ∧ w.heap[b]? = some (.cells c 91 (0, 0)) ∧ isT w G t tv c := h.rep.cont b _ hb
theorem Run.putT (h : Run w G rb mb mv s sh) {b t : Nat} {tv : T} {c : Array Value} (hb : G b = some (.thing t)) (os : w'.os = w.os) (tape : w'.tape = w.tape) (output : w'.output = w.output) (size : w.heap.size ≤ w'.heap.size) (blk : w'.heap[b]? = some (.cells c 91 (0, 0))) (oth : ∀ i, i < w.heap.size → i ≠ b → w'.heap[i]? = w.heap[i]?) (ht : isT w' G t tv c) :
    Run w' G rb mb mv { s with th := s.th.set t tv } sh ∧ Fx G G w w' := by
  have F : Fx G G w w' := Fx.of_own hb (by simp [fixd]) os tape output size oth
  exact ⟨h.next F (fun x k hx => oth x (h.rep.lt hx) (fun e => by rw [e, hb] at hx; cases hx)) (h.rep.put hb size blk ht (fun x ty hx hne _ => oth x (h.rep.lt hx) hne)), F⟩
theorem Run.keep (h : Run w G rb mb mv s sh) (size : w.heap.size ≤ w'.heap.size) (hb : ∀ b ty, G b = some ty → w'.heap[b]? = w.heap[b]?) (h0 : w'.heap[0]? = w.heap[0]?) : Run w' G rb mb mv s sh := by
  obtain ⟨nx, vx, vn, vo, wr, vw, cs, a, b, c, d⟩ := h.r
  obtain ⟨v2, m1, m2⟩ := h.m
  exact ⟨h.rep.later size hb, Table.of_block h.tab h.pos h0, h.g0, h.rt, h.mt, ⟨nx, vx, vn, vo, wr, vw, cs, (hb rb _ h.rt).trans a, b, c.kept (Le.refl G) (fun g hg => hb g _ hg), d⟩, ⟨v2, (hb mb _ h.mt).trans m1, m2.kept (Le.refl G) (fun g hg => hb g _ hg)⟩⟩
theorem calls_any (h : Run w G rb mb mv s sh) {t : Nat} {v : Value} (hv : pT G t v) {l : List Nat} {r : Value} (hr : pRow G l r) (hn : s.ws.length + 1 ≤ 1000000000) :
    Calls Tryz.prog 70 #[ptr rb, v, r] w (Out w G rb mb mv { s with ws := .things l :: s.ws, md := .kn t } sh) := by
  obtain ⟨ga, cap, rfl, hc⟩ := id hr
  have W := wait_any h (.things l) 1 0 none none none ga l.length cap ⟨_, hr, rfl⟩ hn
  have HV := Hid.mk hv
  obtain ⟨bv, rfl, _⟩ := hv
  obtain ⟨n, hn0⟩ : ∃ n, l.length = n := ⟨_, rfl⟩
  rw [hn0] at W ⊢
  clear h hr hc hn0
  go_enter Tryz.func70, Tryz.ntmps70
  go_wp2_with (first
    | (go_at_call 73; refine W.mono ?_; rintro e w8 ⟨rfl, G8, F8, R8⟩; have K := knows_any R8 (pT.le F8.le HV.out); have HF := Hid.mk F8; clear F8 R8)
    | (go_at_call 49; refine K.mono ?_; intro e w9 H9; have HE := Hid.mk (Out.from HF.out H9); obtain ⟨rfl, _⟩ := H9))
  go_end0
  exact HE.out
set_option maxRecDepth 100000 in
set_option maxHeartbeats 4000000 in
theorem works_any (h : Run w G rb mb mv s sh) {b t : Nat} (hb : G b = some (.thing t)) {tv : T} {c : Array Value} (hc : w.heap[b]? = some (.cells c 91 (0, 0))) (ht : isT w G t tv c) (hn : s.ws.length + 1 ≤ 1000000000) :
    Calls Tryz.prog 76 #[ptr rb, ptr b] w fun e w' => e = .returned (.agg c) ∧ ∃ G', Fx G G' w w' ∧ Run w' G' rb mb mv { s with th := s.th.set t .work, ws := .same t :: s.ws } sh := by
  obtain ⟨is, n, f, nm, o, ga, gn, gc, it, wr, rfl⟩ := isT_shape ht
  obtain ⟨W, hW⟩ : ∃ W, W = (w.alloc (.cells (thC 0 0 nilp nilp nilp nils nilm 0) 91)).alloc (.cells (shT is n f nm o ga gn gc it wr) 91) := ⟨_, rfl⟩
  have blt := h.rep.lt hb
  have KW : Below w.heap.size w W := by rw [hW]; exact (Joins.below_alloc1 w _).alloc (Joins.below_alloc1 w _).size _
  have XA : Bx W (w.heap.size + 1) (shT is n f nm o ga gn gc it wr) 91 := by
    rw [hW]
    have := heap_alloc_new (w.alloc (.cells (thC 0 0 nilp nilp nilp nils nilm 0) 91)) (.cells (shT is n f nm o ga gn gc it wr) 91)
    rwa [World.size_alloc] at this
  have XZ : Bx W w.heap.size (thC 0 0 nilp nilp nilp nils nilm 0) 91 := by
    rw [hW]
    exact later' (heap_alloc_new w _) (Joins.below_alloc1 _ _)
  have HW0 := h.below KW
  have XB := later' hc KW
  obtain ⟨W2, hW2⟩ : ∃ W2, W2 = W.setRow b (thC 8 0 nilp nilp nilp nils nilm 0) := ⟨_, rfl⟩
  have oth2 : ∀ i, i ≠ b → W2.heap[i]? = W.heap[i]? := fun i hi => by rw [hW2]; exact setRow_oth _ _ _ i hi
  obtain ⟨R2, F2⟩ := HW0.putT (w' := W2) (tv := .work) hb (by rw [hW2]; rfl) (by rw [hW2]; rfl) (by rw [hW2]; rfl) (by rw [hW2, setRow_size]; exact Nat.le_refl _) (by rw [hW2]; exact setRow_blk XB) (fun i _ hi => oth2 i hi) rfl
  have XA2 : Bx W2 (w.heap.size + 1) (shT is n f nm o ga gn gc it wr) 91 := (oth2 _ (by omega)).trans XA
  have XZ2 : Bx W2 w.heap.size (thC 0 0 nilp nilp nilp nils nilm 0) 91 := (oth2 _ (by omega)).trans XZ
  have WA := wait_any R2 (.same t) 0 0 (some ⟨b, 0, none⟩) none none none 0 0 ⟨_, ⟨b, rfl, hb⟩, rfl⟩ hn
  have fr1 : G w.heap.size = none := h.rep.free (Nat.le_refl _)
  have fr2 : G (w.heap.size + 1) = none := h.rep.free (by omega)
  have zl : w.heap.size < W2.heap.size := lt_of_block XZ2
  have HH := Hid.mk (And.intro XB (And.intro XA2 (And.intro XZ2 (And.intro fr1 (And.intro fr2 ((Fx.of_below (G := G) KW).trans F2))))))
  have HPOS := Hid.mk h.pos
  have HC := Hid.mk hc
  have c0 := (show Bx w b _ 91 from hc).cell 0
  have c1 := (show Bx w b _ 91 from hc).cell 1
  have c2 := (show Bx w b _ 91 from hc).cell 2
  have c3 := (show Bx w b _ 91 from hc).cell 3
  have c4 := (show Bx w b _ 91 from hc).cell 4
  have c5 := (show Bx w b _ 91 from hc).cell 5
  have c6 := (show Bx w b _ 91 from hc).cell 6
  have c7 := (show Bx w b _ 91 from hc).cell 7
  subst hW
  clear h hb ht hc KW XA XZ XB HW0 R2 F2 XA2 XZ2 oth2 fr1 fr2
  go_enter Tryz.func76, Tryz.ntmps76
  go_wp2_with (first
    | (refine wpList_store_row rfl 91 _ _ rfl b (thC 8 0 nilp nilp nilp nils nilm 0) rfl rfl 91 _ HH.out.1 size91 rfl (by simp [Value.oneCell']) ?_; rw [← hW2]; clear hW2)
    | (go_at_call 73; refine WA.mono ?_; rintro e w8 ⟨rfl, G8, F8, R8⟩; have XA8 : Bx w8 (w.heap.size + 1) (shT is n f nm o ga gn gc it wr) 91 := (F8.block _ (lt_of_block HH.out.2.1) (by rw [HH.out.2.2.2.2.1]; trivial)).trans HH.out.2.1; have XZ8 : Bx w8 w.heap.size (thC 0 0 nilp nilp nilp nils nilm 0) 91 := (F8.block _ zl (by rw [HH.out.2.2.2.1]; trivial)).trans HH.out.2.2.1; have HX8 := Hid.mk (And.intro XA8 (And.intro XZ8 (And.intro (F8.new _ zl HH.out.2.2.2.1) (And.intro (HH.out.2.2.2.2.2.trans F8) R8)))); clear F8 R8 XA8 XZ8)
    | (refine wpList_load_row rfl 91 _ rfl (w.heap.size + 1) rfl 91 _ (0, 0) _ HX8.out.1 Tryz.underlying91 rfl size91 ?_)
    | (refine wpList_store_row rfl 91 _ _ rfl w.heap.size (shT is n f nm o ga gn gc it wr) rfl rfl 91 _ HX8.out.2.1 size91 rfl (by simp [Value.oneCell']) ?_))
  obtain ⟨a1, a2, a3, a4, a5⟩ := HX8.out
  have e4 := setRow_oth w8 w.heap.size (shT is n f nm o ga gn gc it wr)
  have wp := HPOS.out
  exact bodyPost_ret (results_cell_row Tryz.results76 _ _ w.heap.size 91 (shT is n f nm o ga gn gc it wr) (0, 0) _ rfl (setRow_blk a2) Tryz.underlying91 rfl size91) rfl ⟨rfl, G8, a4.more rfl rfl rfl (by rw [setRow_size]; exact Nat.le_refl _) (fun i hi => e4 i (by omega)) (Le.refl _) (fun _ _ q => q), a5.keep (w' := w8.setRow w.heap.size (shT is n f nm o ga gn gc it wr)) (by rw [setRow_size]; exact Nat.le_refl _) (fun x ty hx => e4 x (fun z => by rw [z, a3] at hx; cases hx)) (e4 0 (by omega))⟩
end
end Go.Proofs.YtbajpejnnfacbaaGreatDoor.Lz
