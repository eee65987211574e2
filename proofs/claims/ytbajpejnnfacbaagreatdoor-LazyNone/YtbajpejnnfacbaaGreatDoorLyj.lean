/- Lists of things put together (slices.Grow, slices.Concat). -/
import Derived.Test.YtbajpejnnfacbaaGreatDoorLyh
import Derived.Lib.AppendZeros
import Derived.Test.YtbajpejnnfacbaaGreatDoorLyr
namespace Go.Proofs.YtbajpejnnfacbaaGreatDoor.Lz
open Go.RowKit
set_option linter.unusedVariables false
set_option linter.unusedSimpArgs false


set_option maxRecDepth 100000 in
theorem grow_any (w : World) (n : Nat) (h0 : 0 < n) (h9 : n ≤ 100) : Calls Tryz.prog 116 #[nils, .int .i64 n] w fun r w' => ∃ cap, r = .returned (.slice (some ⟨w.heap.size, 0, none⟩) 0 cap) ∧ n ≤ cap ∧ w'.ownsRow 0 78 1 (.slice (some ⟨w.heap.size, 0, none⟩) 0 cap) 0 [] ∧ Below w.heap.size w w' ∧ w'.heap.size = w.heap.size + 1 := by
  obtain ⟨i0, hi, hz0, hz1, hz2⟩ := info_parts info78
  have happ := Lib.run_append_nil_zeros (P := Tryz.prog) w 84 3 84 78 i0 (.pointer none) .i64 .i64 Tryz.underlying84 Tryz.underlying3 hi hz0 n h0 (by rw [hz1]; decide) (by omega) (by rw [hz2]; omega)
  have nI : (0 : Int) < n := by omega
  generalize hcap : grownCap w n 0 78 = cap2 at happ
  have hge : n ≤ cap2 := by rw [← hcap]; exact grownCap_ge w _ 0 78
  have hle : cap2 ≤ maxLen := by rw [← hcap]; exact grownCap_le_maxLen w _ 0 78 (by unfold maxLen; omega)
  generalize hZ : (Builtin.zeroCells (Value.pointer none).cells n ++ Builtin.zeroCells (Value.pointer none).cells (cap2 - n)) = Z at happ
  have hZs : Z.size = cap2 := by rw [← hZ]; simp [size_zeroCells, Value.cells]; omega
  clear hcap hZ hi hz0 hz1 hz2
  go_enter Tryz.func116, Tryz.ntmps116
  go_wp2_with (at_builtin; refine Lib.wpList_append_run _ rfl _ _ _ _ rfl _ _ rfl rfl _ _ happ ?_)
  go_ret
  exact ⟨cap2, rfl, hge, ⟨rfl, .inr ⟨w.heap.size, cap2, Z, rfl, Nat.zero_le _, heap_alloc_new _ _, Nat.zero_le _, hle, by omega, by simp⟩⟩, ⟨rfl, rfl, rfl, by simp, fun i hi => by exact (Joins.below_alloc1 w (.cells Z 78)).block i hi⟩, by simp⟩
theorem pRow.vals {w : World} {G : Gm} {th : List T} {rows : List (List Nat)} (h : Rep w G th rows) {l : List Nat} {ga : Option Addr} {n cap : Nat} (k : pRow G l (.slice ga n cap)) (h0 : l.length ≠ 0) :
    n = l.length ∧ ∃ g off, ga = some ⟨g, off, none⟩ ∧ g < w.heap.size ∧ ∃ vs : List Value, vs.length = l.length ∧ (∀ (j : Nat) v, vs[j]? = some v → w.cell? ⟨g, off + j, none⟩ = some v) ∧ (∀ (j : Nat) i, l[j]? = some i → ∃ v, vs[j]? = some v ∧ pT G i v) ∧ ∀ v ∈ vs, v.oneCell' = true := by
  obtain ⟨ga', cap', e, hc, hk⟩ := id k
  cases e
  obtain ⟨g, off, b0, rfl, hc0, _⟩ := pRow.get h k (i := 0) (by omega)
  have cell : ∀ i, i < l.length → ∃ b, w.cell? ⟨g, off + i, none⟩ = some (ptr b) ∧ G b = some (.thing (l.getD i 0)) := fun i hi => by
    obtain ⟨g', off', b, e, h1, h2⟩ := pRow.get h k hi
    cases e
    exact ⟨b, h1, h2⟩
  refine ⟨rfl, g, off, rfl, World.block_lt_of_cell? _ _ hc0, (List.range l.length).map (fun j => (w.cell? ⟨g, off + j, none⟩).getD nilp), by simp, fun j v hj => ?_, fun j i hj => ?_, fun v hv => ?_⟩
  · have jl : j < l.length := by have := (List.getElem?_eq_some_iff.1 hj).1; simpa using this
    obtain ⟨b, h1, _⟩ := cell j jl
    rw [List.getElem?_map, List.getElem?_range jl] at hj
    simp only [Option.map_some, h1, Option.getD_some, Option.some.injEq] at hj
    rw [h1, hj]
  · have jl := (List.getElem?_eq_some_iff.1 hj).1
    obtain ⟨b, h1, h2⟩ := cell j jl
    refine ⟨ptr b, by rw [List.getElem?_map, List.getElem?_range jl]; simp [h1], b, rfl, ?_⟩
    rw [h2, List.getD_eq_getElem?_getD, hj]; rfl
  · obtain ⟨j, hj, rfl⟩ := List.mem_map.1 hv
    obtain ⟨b, h1, _⟩ := cell j (by simpa using hj)
    rw [h1]
    rfl
theorem grown_below {w wr wA : World} {v : Value} {g n cap : Nat} (h : Below w.heap.size w wr) (hg : w.heap.size ≤ g) (k : wr.grownBy wA v.ownBlock) (e : v = .slice (some ⟨g, 0, none⟩) n cap) : Below w.heap.size w wA :=
  ⟨k.os.trans h.os, k.tape.trans h.tape, k.output.trans h.output, Nat.le_trans h.size k.size, fun i hi => (k.block i (Nat.lt_of_lt_of_le hi h.size) (fun z => by rw [e] at z; simp [Value.ownBlock] at z; omega)).trans (h.block i hi)⟩
theorem own_ge {w wr : World} {g gA n cap : Nat} (h : Below w.heap.size w wr) (hg : w.heap.size ≤ g) (k : (Value.slice (some ⟨g, 0, none⟩) n cap).ownBlock = some gA ∨ gA = wr.heap.size) : w.heap.size ≤ gA := by
  rcases k with k | k
  · simp [Value.ownBlock] at k; omega
  · have := h.size; omega
theorem addr_add (g off j : Nat) : (⟨g, off, none⟩ : Addr).add j = ⟨g, off + j, none⟩ := Addr.add_mid g off j
set_option maxRecDepth 100000 in
set_option maxHeartbeats 8000000 in
theorem concat_any {w : World} {G : Gm} {th : List T} {rows : List (List Nat)} (h : Rep w G th rows) {l1 l2 : List Nat} {va vb : Value} (ha : pRow G l1 va) (hb : pRow G l2 vb) (h1 : l1.length ≠ 0) (h2 : l2.length ≠ 0) (h8 : l1.length ≤ 20) (h9 : l2.length ≤ 20) {gb : Nat} (hg : w.heap[gb]? = some (.cells #[va, vb] 84 (0, 0))) :
    Calls Tryz.prog 103 #[.slice (some ⟨gb, 0, none⟩) 2 2] w fun r w' => ∃ g cap, r = .returned (.slice (some ⟨g, 0, none⟩) (l1.length + l2.length) cap) ∧ l1.length + l2.length ≤ cap ∧ Below w.heap.size w w' ∧ w.heap.size ≤ g ∧ g < w'.heap.size ∧ ∀ (j : Nat) i, (l1 ++ l2)[j]? = some i → ∃ v, w'.cell? ⟨g, j, none⟩ = some v ∧ pT G i v := by
  obtain ⟨i0, hi, hz0, hz1, hz2⟩ := info_parts info78
  obtain ⟨ga, ca, rfl, _⟩ := id ha
  obtain ⟨gc, cb, rfl, _⟩ := id hb
  obtain ⟨_, g1, o1, rfl, lt1, vs1, e1, f1, t1, q1⟩ := pRow.vals h ha h1
  obtain ⟨_, g2, o2, rfl, lt2, vs2, e2, f2, t2, q2⟩ := pRow.vals h hb h2
  obtain ⟨n1, hn1⟩ : ∃ n, l1.length = n := ⟨_, rfl⟩
  obtain ⟨n2, hn2⟩ : ∃ n, l2.length = n := ⟨_, rfl⟩
  rw [hn1] at e1 h1 h8
  rw [hn2] at e2 h2 h9
  have XG : Bx w gb _ 84 := hg
  have c0 := XG.cell 0
  have c1 := XG.cell 1
  have HT := Hid.mk (And.intro t1 (And.intro t2 (And.intro hn1 hn2)))
  have HF := Hid.mk (And.intro f1 f2)
  have HX := Hid.mk XG
  have GR := grow_any w (n1 + n2) (by omega) (by omega)
  rw [hn1, hn2]
  rw [hn1] at c0
  rw [hn2] at c1
  clear h ha hb t1 t2 f1 f2 hg XG
  have w1 : IntKind.i64.wrap ((n1 : Int) + n2) = ((n1 + n2 : Nat) : Int) := by rw [IntKind.wrap_i64]; omega
  go_enter Tryz.func103, Tryz.ntmps103
  go_wp2
  go_loopw [11, 3, 5] (fun c d f wr => w = wr ∧ ((c = .int .i64 0 ∧ d = .int .i64 0) ∨ (c = .int .i64 1 ∧ d = .int .i64 n1) ∨ (c = .int .i64 2 ∧ d = .int .i64 ((n1 + n2 : Nat) : Int)))) (fun c _ _ _ => 2 - (intOf c).toNat)
  case atStart => exact ⟨rfl, .inl ⟨rfl, rfl⟩⟩
  case round =>
    obtain ⟨rfl, hrel⟩ := hrel
    rcases hrel with ⟨rfl, rfl⟩ | ⟨rfl, rfl⟩ | ⟨rfl, rfl⟩
    · have z1 : ¬ (n1 : Int) < 0 := by omega
      go_wp2
      exact ⟨⟨by first | rfl | trivial, .inr (.inl ⟨rfl, by go_num⟩)⟩, by simp [intOf]⟩
    · have z1 : ¬ ((n1 + n2 : Nat) : Int) < 0 := by omega
      go_wp2
      exact ⟨⟨by first | rfl | trivial, .inr (.inr ⟨rfl, by go_num⟩)⟩, by simp [intOf]⟩
    · go_wp2_with (go_at_call 116; refine GR.mono ?_; rintro r w8 ⟨cap8, rfl, hc8, O8, B8, s8⟩; have HO := Hid.mk (And.intro O8 (And.intro B8 s8)); clear O8 B8 s8)
      go_loopw [27, 6, 8] (fun c d f wr => ∃ g cap, Hid (Below w.heap.size w wr ∧ w.heap.size ≤ g) ∧ ((c = .int .i64 0 ∧ d = .slice (some ⟨g, 0, none⟩) 0 cap ∧ Hid (wr.ownsRow 0 78 1 d 0 [])) ∨ (c = .int .i64 1 ∧ d = .slice (some ⟨g, 0, none⟩) n1 cap ∧ Hid (wr.ownsRow 0 78 1 d n1 vs1)) ∨ (c = .int .i64 2 ∧ d = .slice (some ⟨g, 0, none⟩) (n1 + n2) cap ∧ Hid (wr.ownsRow 0 78 1 d (n1 + n2) (vs1 ++ vs2))))) (fun c _ _ _ => 2 - (intOf c).toNat)
      case atStart => exact ⟨w.heap.size, cap8, ⟨HO.out.2.1, Nat.le_refl _⟩, .inl ⟨rfl, rfl, ⟨HO.out.1⟩⟩⟩
      case round =>
        obtain ⟨g, cap, HB, hrel⟩ := hrel
        have x0 := (HX.out.later HB.out.1).cell 0
        have x1 := (HX.out.later HB.out.1).cell 1
        rcases hrel with ⟨rfl, rfl, OR⟩ | ⟨rfl, rfl, OR⟩ | ⟨rfl, rfl, OR⟩
        · go_wp2_with (at_builtin; refine wpList_append_lies _ rfl (.tmp 31) (.tmp 32) 84 rfl 0 78 i0 _ 1 8 Tryz.underlying84 hi hz0 hz1 hz2 rfl (by decide) _ 0 [] rfl OR.out ⟨g1, o1, none⟩ n1 _ vs1 rfl (by rw [Nat.mul_one]; assumption) (fun j u hj => by rw [addr_add]; exact (World.cell?_of_block (HB.out.1.block _ (by assumption))).trans (HF.out.1 j u hj)) q1 (by omega) (by unfold maxLen; omega) (by omega) (Nat.zero_le _) wr.heap.size rfl ?_; intro gA capA wA rowA hgA hatA hltA; have HA := Hid.mk (And.intro rowA (And.intro hgA (And.intro hatA hltA))); clear rowA hgA hatA hltA)
          obtain ⟨rowA, hgA, hatA, _⟩ := HA.out
          refine ⟨⟨gA, capA, ⟨grown_below HB.out.1 HB.out.2 hgA rfl, own_ge HB.out.1 HB.out.2 hatA⟩, .inr (.inl ⟨rfl, by first | rfl | simp, ⟨by simpa using rowA⟩⟩)⟩, by simp [intOf]⟩
        · go_wp2_with (at_builtin; refine wpList_append_lies _ rfl (.tmp 31) (.tmp 32) 84 rfl 0 78 i0 _ 1 8 Tryz.underlying84 hi hz0 hz1 hz2 rfl (by decide) _ n1 vs1 rfl OR.out ⟨g2, o2, none⟩ n2 _ vs2 rfl (by rw [Nat.mul_one]; assumption) (fun j u hj => by rw [addr_add]; exact (World.cell?_of_block (HB.out.1.block _ (by assumption))).trans (HF.out.2 j u hj)) q2 (by omega) (by unfold maxLen; omega) (by omega) (Nat.zero_le _) wr.heap.size rfl ?_; intro gA capA wA rowA hgA hatA hltA; have HA := Hid.mk (And.intro rowA (And.intro hgA (And.intro hatA hltA))); clear rowA hgA hatA hltA)
          obtain ⟨rowA, hgA, hatA, _⟩ := HA.out
          refine ⟨⟨gA, capA, ⟨grown_below HB.out.1 HB.out.2 hgA rfl, own_ge HB.out.1 HB.out.2 hatA⟩, .inr (.inr ⟨rfl, rfl, ⟨rowA⟩⟩)⟩, by simp [intOf]⟩
        · go_wp2
          go_ret
          obtain ⟨t1, t2, hn1, hn2⟩ := HT.out
          rcases OR.out.2 with ⟨e, _⟩ | ⟨g', cap', cur, e, _, hg', x3, x4, x5, x6⟩
          · cases e
          · cases e
            refine ⟨g, cap, rfl, x3, HB.out.1, HB.out.2, lt_of_block hg', fun j i hj => ?_⟩
            have cl : ∀ v, (vs1 ++ vs2)[j]? = some v → wr.cell? ⟨g, j, none⟩ = some v := fun v hv => by
              rw [← x6] at hv
              have jl := (List.getElem?_eq_some_iff.1 hv).1
              rw [List.getElem?_take_of_lt (by rw [List.length_take] at jl; omega)] at hv
              rw [Joins.cell_of_block hg']
              simpa using hv
            by_cases jn : j < n1
            · rw [List.getElem?_append_left (by omega)] at hj
              obtain ⟨v, hv, pv⟩ := t1 j i hj
              exact ⟨v, cl v (by rw [List.getElem?_append_left (by omega)]; exact hv), pv⟩
            · rw [List.getElem?_append_right (by omega), hn1] at hj
              obtain ⟨v, hv, pv⟩ := t2 _ i hj
              exact ⟨v, cl v (by rw [List.getElem?_append_right (by omega), e1]; exact hv), pv⟩
end Go.Proofs.YtbajpejnnfacbaaGreatDoor.Lz

/- Package lazy: calls are evaluated; expressions. -/
namespace Go.Proofs.YtbajpejnnfacbaaGreatDoor.Lz
open Go.RowKit
set_option linter.unusedVariables false
set_option linter.unusedSimpArgs false


section
variable {w w' : World} {G G' : Gm} {rb mb : Nat} {mv : Mv} {s : St} {sh : Int}
set_option maxRecDepth 100000 in
set_option maxHeartbeats 8000000 in
theorem eval_none (h : Run w G rb mb mv s sh) {x : X} {e : Env} (hm : s.md = .ev x e) (f0 : s.fuel = 0) : Calls Tryz.prog 50 #[ptr rb] w (Out w G rb mb mv { s with md := .starve } sh) := by
  obtain ⟨nx, vx, vn, vo, wr, vw, cs, a, b, c, d⟩ := h.r
  have c1 := a.cell 1
  have c2 := a.cell 2
  have z2 : w.frozen? ⟨rb, 2, none⟩ = false := Joins.unfrozen_of_block a 2
  rw [f0] at c1
  have H := Hid.mk (And.intro h (And.intro a (And.intro c d)))
  clear h a b c d
  go_enter Tryz.func50, Tryz.ntmps50
  go_wp2
  go_end0
  obtain ⟨h, a, c, d⟩ := H.out
  have b1 : Bx (w.setCell ⟨rb, 2, none⟩ (.int .i64 5)) rb (rC mb s.fuel 5 vx vn vo wr vw sh) 101 := Joins.block_setCell (i := 2) a (.int .i64 5)
  have oth : ∀ i, i ≠ rb → (w.setCell ⟨rb, 2, none⟩ (.int .i64 5)).heap[i]? = w.heap[i]? := fun i hi => setCell_block _ _ _ _ hi
  obtain ⟨R, F⟩ := h.turn (w' := w.setCell ⟨rb, 2, none⟩ (.int .i64 5)) (md' := .starve) (ws' := s.ws) b1 rfl rfl rfl (by rw [size_set]; exact Nat.le_refl _) (fun i _ hi => oth i hi) rfl (c.kept (Le.refl G) (fun g hg => oth g (fun e => by rw [e, h.rt] at hg; cases hg))) d
  exact ⟨rfl, G, F, R⟩
set_option maxRecDepth 100000 in
set_option maxHeartbeats 8000000 in
theorem eval_app {ar : List Nat} (h : Run w G rb mb mv s sh) {p : Pl} {l : List Am} {e : Env} (hm : s.md = .ev (.app p l) e) (gd : Good ar s) (f0 : s.fuel ≠ 0) (fb : s.fuel < 9223372036854775808) (sb : s.steps + 1 < 9223372036854775808) (l0 : l.length ≠ 0) (hw : s.ws.length + 1 ≤ 1000000000) : Calls Tryz.prog 50 #[ptr rb] w (Out w G rb mb mv (evalX { s with fuel := s.fuel - 1, steps := s.steps + 1 } (.app p l) e) sh) := by
  obtain ⟨xb, nb, hx, hn, ne, c0, c1, z1, z2, ⟨u2, c2⟩, m6, zm6, TK⟩ := h.tick hm
  obtain ⟨W, hW⟩ : ∃ x, x = (w.setCell ⟨rb, 1, none⟩ (.int .i64 ((s.fuel : Int) - 1))).setCell ⟨mb, 6, none⟩ (.int .i64 ((s.steps : Int) + 1)) := ⟨_, rfl⟩
  obtain ⟨R2, F2, y3, y4⟩ := TK W _ _ hW (by omega) (by omega)
  have mdt := gd.md
  rw [hm] at mdt
  obtain ⟨oe, ox⟩ := mdt
  have oth := gd.th
  obtain ⟨s1, hs1⟩ : ∃ x : St, x = { s with fuel := s.fuel - 1, steps := s.steps + 1 } := ⟨_, rfl⟩
  have t1 : s1.th = s.th := by rw [hs1]
  have w1 : s1.ws = s.ws := by rw [hs1]
  have o1 : s1.out = s.out := by rw [hs1]
  have r1 : s1.rows = s.rows := by rw [hs1]
  rw [← hs1] at R2 ⊢
  rw [← t1] at oe oth
  have oth : okAll ar s1.th := oth
  have fz : ((s.fuel : Int) == 0) = false := beq_eq_false_iff_ne.2 (by omega)
  have ne' : ¬ mb = rb := fun z => ne z.symm
  have ne2 : ¬ rb = mb := ne
  obtain ⟨cx, hcx, qx⟩ := R2.rep.expB hx
  obtain ⟨av, hav, rfl⟩ := qx
  have HA := Hid.mk hav
  obtain ⟨ga, cap, rfl, hq1, hq2, _⟩ := hav
  have XX : Bx W xb _ 147 := hcx
  have HX := Hid.mk XX
  have HXN := Hid.mk (And.intro hx (And.intro hn (And.intro oe (And.intro ox oth))))
  have HR2 := Hid.mk R2
  have HF2 := Hid.mk F2
  have HT := Hid.mk (And.intro t1 (And.intro w1 (And.intro o1 r1)))
  generalize s.fuel = fu at *
  generalize s.steps = sp at *
  clear h hm gd TK R2 F2 hx hn oe ox oth hcx XX f0 t1 w1 o1 r1 hs1 ne
  go_enter Tryz.func50, Tryz.ntmps50
  go_wp2
  rw [← hW]
  clear hW
  go_quiet (fail)
  obtain ⟨w3, hw3⟩ : ∃ x, x = W.drewN nq := ⟨_, rfl⟩
  rw [← hw3]
  have HD : Hid (Below W.heap.size W w3) := ⟨by rw [hw3]; exact below_drewN (Below.refl _ _) _⟩
  clear hw3 c0 c1 c2 z1 z2 m6 zm6 y3 y4
  have HF3 : Hid (Fx G G w w3) := ⟨HF2.out.trans (Fx.of_below HD.out)⟩
  have HR3 : Hid (Run w3 G rb mb mv s1 sh) := ⟨HR2.out.below HD.out⟩
  have k0 := (HX.out.later HD.out).cell 0
  have k4 := (HX.out.later HD.out).cell 4
  have k5 := (HX.out.later HD.out).cell 5
  have k6 := (HX.out.later HD.out).cell 6
  have LA0 := latoms_more HR3.out.drew.rep HXN.out.2.1 HXN.out.2.2.1 l HA.out HXN.out.2.2.2.1.2.2
  have AT0 := at_any HR3.out.drew.rep HXN.out.2.1 p HXN.out.2.2.2.1.1 HXN.out.2.2.1.2.2
  have x3l : xb < w3.heap.size := lt_of_block (HX.out.later HD.out)
  have ev : evalX s1 (.app p l) e = { s1 with th := (atomsP e l s1.th).2, ws := .things (atomsP e l s1.th).1 :: s1.ws, md := .kn (envAt e p) } := by unfold evalX; simp only; rw [if_neg l0]
  have hw9 : s1.ws.length + 1 ≤ 1000000000 := by rw [HT.out.2.1]; exact hw
  have STAY : Hid (∀ w8 : World, w8.heap[xb]? = w3.heap[xb]? → w8.cell? ⟨xb, 4, none⟩ = some (.int .i64 p.lev) ∧ w8.cell? ⟨xb, 5, none⟩ = some (.int .i64 p.idx) ∧ w8.cell? ⟨xb, 6, none⟩ = some (.slice ga l.length cap)) := ⟨fun w8 bq => ⟨(World.cell?_of_block (a := ⟨xb, 4, none⟩) bq).trans k4, (World.cell?_of_block (a := ⟨xb, 5, none⟩) bq).trans k5, (World.cell?_of_block (a := ⟨xb, 6, none⟩) bq).trans k6⟩⟩
  have AFT : Hid (∀ g cap8 G8 w8 v, l.length ≤ cap8 → w3.heap.size ≤ g → NewRow w8 G8 g (atomsP e l s1.th).1 → Fz G G8 w3 w8 → Rep w8 G8 (atomsP e l s1.th).2 s1.rows → pT G (envAt e p) v → Calls Tryz.prog 70 #[ptr rb, v, .slice (some ⟨g, 0, none⟩) l.length cap8] w8 (fun en w' => Out w G rb mb mv (evalX s1 (.app p l) e) sh en w' ∧ w'.cell? ⟨xb, 4, none⟩ = some (.int .i64 p.lev) ∧ w'.cell? ⟨xb, 5, none⟩ = some (.int .i64 p.idx) ∧ w'.cell? ⟨xb, 6, none⟩ = some (.slice ga l.length cap))) := ⟨fun g cap8 G8 w8 v hc8 hg8 NR8 F8 R8 hv => by
    obtain ⟨R9r, PR⟩ := NR8.row R8
    have F9 : Fz G (Lz.tag G8 g (.row (atomsP e l s1.th).1)) w3 w8 := F8.more rfl rfl rfl (Nat.le_refl _) (fun _ _ => rfl) (le_tag NR8.free _) (fun i hi q => by rw [tag_ne _ _ (by omega)]; exact q)
    have R9 := HR3.out.nextZ F9 R9r
    have ll : (atomsP e l s1.th).1.length = l.length := atomsP_len e l s1.th
    have PR8 := PR cap8 (by rw [ll]; exact hc8)
    rw [ll] at PR8
    have CA := calls_any R9 (pT.le F9.le hv) PR8 hw9
    rw [ev]
    refine CA.mono (fun en w10 H => ⟨Out.from (HF3.out.trans F9.fx) H, ?_⟩)
    obtain ⟨_, G10, F10, _⟩ := H
    exact STAY.out w10 ((F10.block xb (Nat.lt_of_lt_of_le x3l F8.size) (by rw [F9.le _ _ HXN.out.1]; trivial)).trans (F8.block xb x3l (by rw [HXN.out.1]; trivial)))⟩
  -- the name first, then the atoms
  have WAY1 : Hid (∀ w8 v, Below w3.drew.heap.size w3.drew w8 → pT G (envAt e p) v → (w8.cell? ⟨xb, 4, none⟩ = some (.int .i64 p.lev) ∧ w8.cell? ⟨xb, 5, none⟩ = some (.int .i64 p.idx) ∧ w8.cell? ⟨xb, 6, none⟩ = some (.slice ga l.length cap)) ∧ Calls Tryz.prog 68 #[ptr nb, .slice ga l.length cap] w8 fun r w9 => ∃ g cap8, r = .returned (.slice (some ⟨g, 0, none⟩) l.length cap8) ∧ (w9.cell? ⟨xb, 4, none⟩ = some (.int .i64 p.lev) ∧ w9.cell? ⟨xb, 5, none⟩ = some (.int .i64 p.idx) ∧ w9.cell? ⟨xb, 6, none⟩ = some (.slice ga l.length cap)) ∧ Calls Tryz.prog 70 #[ptr rb, v, .slice (some ⟨g, 0, none⟩) l.length cap8] w9 (fun en w' => Out w G rb mb mv (evalX s1 (.app p l) e) sh en w' ∧ w'.cell? ⟨xb, 4, none⟩ = some (.int .i64 p.lev) ∧ w'.cell? ⟨xb, 5, none⟩ = some (.int .i64 p.idx) ∧ w'.cell? ⟨xb, 6, none⟩ = some (.slice ga l.length cap))) := ⟨fun w8 v B8 hv => by
    have B9 : Below w3.heap.size w3 w8 := (Below.refl _ _).drew.trans B8
    refine ⟨STAY.out w8 (B9.block xb x3l), ?_⟩
    refine (latoms_more (HR3.out.rep.below B9) HXN.out.2.1 HXN.out.2.2.1 l HA.out HXN.out.2.2.2.1.2.2).mono (fun r w9 H => ?_)
    obtain ⟨g8, cap8, G8, rfl, hc8, hg8, NR8, F8, R8⟩ := H
    have FF := (Fz.of_below (G := G) B9).trans F8
    exact ⟨g8, cap8, rfl, STAY.out w9 (FF.block xb x3l (by rw [HXN.out.1]; trivial)), AFT.out g8 cap8 G8 w9 v hc8 (Nat.le_trans B9.size hg8) NR8 FF R8 hv⟩⟩
  -- the atoms first, then the name
  have WAY2 : Hid (∀ g cap8 G8 w8, l.length ≤ cap8 → w3.drew.heap.size ≤ g → NewRow w8 G8 g (atomsP e l s1.th).1 → Fz G G8 w3.drew w8 → Rep w8 G8 (atomsP e l s1.th).2 s1.rows → (w8.cell? ⟨xb, 4, none⟩ = some (.int .i64 p.lev) ∧ w8.cell? ⟨xb, 5, none⟩ = some (.int .i64 p.idx) ∧ w8.cell? ⟨xb, 6, none⟩ = some (.slice ga l.length cap)) ∧ Calls Tryz.prog 69 #[ptr nb, .agg #[.int .i64 p.lev, .int .i64 p.idx]] w8 fun r w9 => ∃ v, r = .returned v ∧ (w9.cell? ⟨xb, 4, none⟩ = some (.int .i64 p.lev) ∧ w9.cell? ⟨xb, 5, none⟩ = some (.int .i64 p.idx) ∧ w9.cell? ⟨xb, 6, none⟩ = some (.slice ga l.length cap)) ∧ Calls Tryz.prog 70 #[ptr rb, v, .slice (some ⟨g, 0, none⟩) l.length cap8] w9 (fun en w' => Out w G rb mb mv (evalX s1 (.app p l) e) sh en w' ∧ w'.cell? ⟨xb, 4, none⟩ = some (.int .i64 p.lev) ∧ w'.cell? ⟨xb, 5, none⟩ = some (.int .i64 p.idx) ∧ w'.cell? ⟨xb, 6, none⟩ = some (.slice ga l.length cap))) := ⟨fun g cap8 G8 w8 hc8 hg8 NR8 F8 R8 => by
    have F8' : Fz G G8 w3 w8 := (Fz.drewL G w3).trans F8
    refine ⟨STAY.out w8 (F8'.block xb x3l (by rw [HXN.out.1]; trivial)), ?_⟩
    obtain ⟨R9r, PR⟩ := NR8.row R8
    have F9 : Fz G (Lz.tag G8 g (.row (atomsP e l s1.th).1)) w3 w8 := F8'.more rfl rfl rfl (Nat.le_refl _) (fun _ _ => rfl) (le_tag NR8.free _) (fun i hi q => by rw [tag_ne _ _ (by have : w3.heap.size ≤ g := hg8; omega)]; exact q)
    refine (at_any R9r (F9.le _ _ HXN.out.2.1) p HXN.out.2.2.2.1.1 HXN.out.2.2.1.2.2).mono (fun r w9 H => ?_)
    obtain ⟨⟨v, rfl, hv⟩, B9⟩ := H
    have FF := F9.trans (Fz.of_below B9)
    have st : ∀ w10 : World, w10.heap[xb]? = w3.heap[xb]? → _ := fun w10 => STAY.out w10
    have b9 : w9.heap[xb]? = w3.heap[xb]? := FF.block xb x3l (by rw [HXN.out.1]; trivial)
    refine ⟨v, rfl, STAY.out w9 b9, ?_⟩
    have R9 := HR3.out.nextZ FF (R9r.below B9)
    have ll : (atomsP e l s1.th).1.length = l.length := atomsP_len e l s1.th
    have PR8 := PR cap8 (by rw [ll]; exact hc8)
    rw [ll] at PR8
    have CA := calls_any R9 hv PR8 hw9
    rw [ev]
    refine CA.mono (fun en w10 H => ⟨Out.from (HF3.out.trans FF.fx) H, ?_⟩)
    obtain ⟨_, G10, F10, _⟩ := H
    exact STAY.out w10 ((F10.block xb (Nat.lt_of_lt_of_le x3l FF.size) (by rw [FF.le _ _ HXN.out.1]; trivial)).trans b9)⟩
  have ll0 : ¬ l.length = 0 := l0
  have lI : (((l.length : Nat) : Int) == 0) = false := beq_eq_false_iff_ne.2 (by omega)
  clear ev
  generalize l.length = nl at *
  go_wp2
  go_region_held3 (fun w' => w'.cell? ⟨xb, 4, none⟩ = some (.int .i64 p.lev) ∧ w'.cell? ⟨xb, 5, none⟩ = some (.int .i64 p.idx) ∧ w'.cell? ⟨xb, 6, none⟩ = some (.slice ga nl cap)) (go_keep) (first
    | (go_at_call 69; refine AT0.mono ?_; rintro r w8 ⟨⟨v8, rfl, P8⟩, B8⟩; obtain ⟨⟨s4, s5, s6⟩, LB⟩ := WAY1.out w8 v8 B8 P8; clear AT0 LA0 P8 B8)
    | (go_at_call 68; refine LA0.mono ?_; rintro r w8 ⟨g8, cap8, G8, rfl, hc8, hg8, NR8, F8, R8⟩; obtain ⟨⟨s4, s5, s6⟩, AB⟩ := WAY2.out g8 cap8 G8 w8 hc8 hg8 NR8 F8 R8; clear AT0 LA0 hc8 hg8 NR8 F8 R8)
    | (go_at_call 68; refine LB.mono ?_; rintro r w9 ⟨g9, cap9, rfl, ⟨q4, q5, q6⟩, K⟩; clear LB)
    | (go_at_call 69; refine AB.mono ?_; rintro r w9 ⟨v9, rfl, ⟨q4, q5, q6⟩, K⟩; clear AB)
    | (go_at_call 70; refine K.mono ?_; rintro e9 w10 ⟨H9, t0, t1, t2⟩; have HE := Hid.mk H9; obtain ⟨rfl, _⟩ := H9))
  all_goals go_wp2
  all_goals go_end0
  all_goals exact HE.out

theorem eval_any {ar : List Nat} (h : Run w G rb mb mv s sh) {x : X} {e : Env} (hm : s.md = .ev x e) (gd : Good ar s) (fb : s.fuel < 9223372036854775808) (sb : s.steps + 1 < 9223372036854775808) (hw : s.ws.length + 1 ≤ 1000000000) (ho : s.out.length + 1 ≤ 1000000000) : Calls Tryz.prog 50 #[ptr rb] w (Out w G rb mb mv (evalS s x e) sh) := by
  unfold evalS
  by_cases f0 : s.fuel = 0
  · rw [if_pos f0]
    exact eval_none h hm f0
  · rw [if_neg f0]
    cases x with
    | int n => exact eval_int h hm gd f0 fb sb
    | con n l => exact eval_con h hm gd f0 fb sb
    | app p l =>
      cases l with
      | nil => exact eval_app0 h hm gd f0 fb sb
      | cons a r => exact eval_app h hm gd f0 fb sb (by simp) hw
    | prim k l => exact eval_prim h hm gd f0 fb sb hw ho
    | lt bs kid => exact eval_lt h hm gd f0 fb sb
    | cs kid al o => exact eval_cs h hm gd f0 fb sb hw

end
end Go.Proofs.YtbajpejnnfacbaaGreatDoor.Lz
