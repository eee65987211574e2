/- CodeMore: the walk. -/
import Derived.Test.YtidplckoolmaiaaDoorCdu
import Derived.Test.YtidplckoolmaiaaDoorCds
namespace Go.Proofs.YtidplckoolmaiaaDoor
open Go.RowKit
set_option linter.unusedVariables false
set_option linter.unusedSimpArgs false

theorem con_cells (x : Int) (c : List Value) (h : isCon x c) : c.length = 2 ∧ ∀ u ∈ c, u.oneCell' = true := by
  obtain ⟨s, rfl⟩ := h
  exact ⟨rfl, fun u hu => by simp at hu; rcases hu with rfl | rfl <;> rfl⟩
theorem inf_cells (x : Inf) (c : List Value) (h : isInf x c) : c.length = 4 ∧ ∀ u ∈ c, u.oneCell' = true := by
  unfold isInf at h
  subst h
  exact ⟨rfl, fun u hu => by simp at hu; rcases hu with rfl | rfl | rfl | rfl <;> rfl⟩
theorem ins_cells (w : World) (x : Ins) (c : List Value) (h : isIns w x c) : c.length = 7 ∧ ∀ u ∈ c, u.oneCell' = true := by
  obtain ⟨vl, vk, vm, va, rfl, ⟨gl, cl, rfl, _⟩, ⟨gk, ck, rfl, _⟩, ⟨gm, cm, rfl, _⟩, ⟨ga, ca, rfl, _⟩⟩ := h
  exact ⟨rfl, fun u hu => by simp at hu; rcases hu with rfl | rfl | rfl | rfl | rfl | rfl | rfl <;> rfl⟩
theorem srcLater {w W : World} {n : Nat} {ga : Option Addr} {xs : List Value} (h : 0 < n → ∃ ad, ga = some ad ∧ ∀ j u, xs[j]? = some u → w.cell? (ad.add j) = some u) (hb : Below w.heap.size w W) : 0 < n → ∃ ad, ga = some ad ∧ ∀ j u, xs[j]? = some u → W.cell? (ad.add j) = some u := fun q => by
  obtain ⟨ad, e, k⟩ := h q
  exact ⟨ad, e, fun j u hj => (hb.cell (World.block_lt_of_cell? _ _ (k j u hj))).trans (k j u hj)⟩
theorem RowS.lst' {α : Type} {w : World} {base sz n : Nat} {e : TypeId} {P : α → List Value → Prop} {l : List α} {xs : List Value} {v : Value} (h : RowS w base e sz v n xs) (hl : l.length = n) (f : Fl sz P l xs) (hn : n ≤ 1000000000) : Lst w sz P l v := by
  subst hl
  exact h.lst f hn
theorem RowS.belowB {w w' : World} {B base size n : Nat} {e : TypeId} {v : Value} {xs : List Value} (h : RowS w base e size v n xs) (hb : Below B w w') (hv : 0 < n → ∀ k, v.ownBlock = some k → k < B) : RowS w' base e size v n xs := by
  rcases h with h | ⟨hq, h⟩
  · exact Or.inl h
  · refine Or.inr ⟨hq, h.1, ?_⟩
    rcases h.2 with q | ⟨g, cap, cur, rfl, hb', hg, X⟩
    · exact Or.inl q
    · exact Or.inr ⟨g, cap, cur, rfl, hb', (hb.block g (hv hq g rfl)).trans hg, X⟩
theorem news6 (w : World) (o : Obj) (cs : Array Value) (t : TypeId) : ∀ j x, cs.toList[j]? = some x → ((w.alloc o).alloc (.cells cs t)).cell? ((⟨w.heap.size + 1, 0, none⟩ : Addr).add j) = some x := by
  have h := heap_alloc_new (w.alloc o) (.cells cs t)
  rw [show (w.alloc o).heap.size = w.heap.size + 1 by simp] at h
  exact World.news_of_block h
theorem more_end {w W : World} {c : Cd} {vg : Value} {n : Int} {xc xi xn : List Value} {nc ni nn : Nat} (T : Table w) (G : Good c) (S : Sc c) (hnc : c.co.length = nc) (hni : c.inf.length = ni) (hnn : c.ins.length = nn) (hl1 : nc ≤ 1048576) (hl2 : ni ≤ 1048576) (hl3 : nn ≤ 1048576)
    (FC : Fl 2 isCon c.co xc) (FI : Fl 4 isInf c.inf xi) (FN : Fl 7 (isIns w) c.ins xn) (gl : Lst w 2 isCon c.gl vg) (B : Below w.heap.size w W) {b1 b2 b3 g : Nat} {vA vN vI : Value}
    (RA : RowS W b1 46 2 vA (nc + 1) (xc ++ [.string ⟨#[77, 111, 114, 101]⟩, .int .i64 8])) (RN : RowS W b2 42 7 vN (nn + 2) (xn ++ [.int .i64 1, .int .i64 0, .int .i64 0, .slice none 0 0, .slice none 0 0, .slice (some ⟨g, 0, none⟩) 1 1, .slice none 0 0, .int .i64 3, .int .i64 0, .int .i64 1, .slice none 0 0, .slice none 0 0, .slice none 0 0, .slice none 0 0])) (RI : RowS W b3 48 4 vI (ni + 1) (xi ++ [.int .i64 6, .int .i64 0, .int .i64 0, .int .i64 nn])) (M : W.heap[g]? = some (.cells #[.int .i64 2, .int .i64 0, .int .i64 n, .slice none 0 0] 30 (0, 0))) :
    Calls Tryd.prog 10 #[.agg #[vA, vg, vI, vN]] W fun e w' => e = .returned (.tuple #[.int .i64 0, .int .i64 0]) ∧ Below W.heap.size W w' := by
  have V : Cv W (more c n) vA vg vI vN := by
    refine ⟨RA.lst' (by simp [more, hnc]) (FC.snoc ⟨_, rfl⟩ rfl) (by omega), gl.later B fun _ _ h => h, RI.lst' (by simp [more, hni]) (FI.snoc (by simp only [isInf, hnn]) rfl) (by omega), RN.lst' (by simp [more, hnn]) ?_ (by omega)⟩
    have f1 := FN.imp (P' := isIns W) fun _ _ h => isIns_later B h
    have f2 := f1.snoc (x := mor1 n) (c := [.int .i64 1, .int .i64 0, .int .i64 0, .slice none 0 0, .slice none 0 0, .slice (some ⟨g, 0, none⟩) 1 1, .slice none 0 0]) ⟨_, _, _, _, rfl, nilL _ _ _, nilL _ _ _, oneL _ ⟨_, rfl, nilL _ _ _⟩ (fun j u hj => by rw [cellB M]; simpa using hj), nilL _ _ _⟩ rfl
    have f3 := f2.snoc (x := mor2) (c := [.int .i64 3, .int .i64 0, .int .i64 1, .slice none 0 0, .slice none 0 0, .slice none 0 0, .slice none 0 0]) ⟨_, _, _, _, rfl, nilL _ _ _, nilL _ _ _, nilL _ _ _, nilL _ _ _⟩ rfl
    simp only [List.append_assoc, List.cons_append, List.nil_append] at f3
    exact f3
  have S' : Sc (more c n) := by
    refine ⟨by simp [more]; omega, fun x hx => ?_⟩
    rcases List.mem_append.1 hx with q | q
    · exact S.each x q
    · simp at q
      rcases q with rfl | rfl
      · exact ⟨⟨by simp [mor1], by simp [mor1], by simp [mor1], by simp [mor1]⟩, by unfold In64; simp [mor1]⟩
      · exact ⟨⟨by simp [mor2], by simp [mor2], by simp [mor2], by simp [mor2]⟩, by unfold In64; simp [mor2]⟩
  refine (check_any (T.later B) V S').mono fun e w' ⟨z, r, he, hc, hb⟩ => ?_
  obtain ⟨rfl, rfl⟩ := hc.ok (good_more G n)
  exact ⟨he, hb⟩
section
variable {w : World} {c : Cd} {vc vg vi vn : Value}
set_option maxRecDepth 100000 in
set_option maxHeartbeats 2000000 in
theorem more_no (T : Table w) (V : Cv w c vc vg vi vn) (S : Sc c) (n : Int) (G : ¬ Good c) : Calls Tryd.prog 4 #[.agg #[vc, vg, vi, vn], .int .i64 n] w fun e w' => e = .returned (.bool true) ∧ Below w.heap.size w w' := by
  have HV := Hid.mk V
  obtain ⟨⟨gc, cc, rfl, _⟩, ⟨gg, cg, rfl, _⟩, ⟨gi, ci, rfl, _⟩, ⟨gn, cn, rfl, _⟩⟩ := V
  have B0 : Below w.heap.size w (w.alloc (.cells #[.slice gc c.co.length cc, .slice gg c.gl.length cg, .slice gi c.inf.length ci, .slice gn c.ins.length cn] 27)) := by go_grown
  have CK : Calls Tryd.prog 10 #[.agg #[.slice gc c.co.length cc, .slice gg c.gl.length cg, .slice gi c.inf.length ci, .slice gn c.ins.length cn]] (w.alloc (.cells #[.slice gc c.co.length cc, .slice gg c.gl.length cg, .slice gi c.inf.length ci, .slice gn c.ins.length cn] 27)) fun e w' => ∃ z r, e = .returned (.tuple #[.int .i64 z, .int .i64 r]) ∧ ¬ r = 0 ∧ Below w.heap.size w w' := (check_any (T.later B0) (HV.out.later B0) S).mono fun e w' ⟨z, r, he, hc, hb⟩ => ⟨z, r, he, fun q => by subst q; exact G hc.good, belowOn B0 hb⟩
  have HT := Hid.mk T
  clear T S HV B0 G
  go_enter Tryd.func4, Tryd.ntmps4
  go_wp2_with (first
    | (go_at_call 7; have zz := B2; refine (awake_any _ (HT.out.later B2)).mono ?_; rintro e w3 ⟨rfl, G3⟩; have B3 := belowOn B2 G3; clear B2 G3)
    | (go_at_call 7; refine (awake_any _ (HT.out.later B1)).mono ?_; rintro e w2 ⟨rfl, G2⟩; have B2 := belowOn B1 G2; clear G2)
    | (go_at_call 10; refine CK.mono ?_; rintro e w1 ⟨z, r, rfl, hr, B1⟩; have hr' : (r != 0) = true := (by simpa using hr)))
  go_ret
  exact ⟨retBool (by simp [hr]), B3⟩
set_option maxRecDepth 100000 in
set_option maxHeartbeats 4000000 in
theorem more_yes (T : Table w) (V : Cv w c vc vg vi vn) (S : Sc c) (hl : c.co.length ≤ 1048576 ∧ c.inf.length ≤ 1048576 ∧ c.ins.length ≤ 1048576) (n : Int) (G : Good c) : Calls Tryd.prog 4 #[.agg #[vc, vg, vi, vn], .int .i64 n] w fun e w' => e = .returned (.bool true) ∧ Below w.heap.size w w' := by
  have HV := Hid.mk V
  obtain ⟨gc, cc, xc, rfl, FC, oC, sC⟩ := V.co.flat (by decide) con_cells
  obtain ⟨gi, ci, xi, rfl, FI, oI, sI⟩ := V.inf.flat (by decide) inf_cells
  obtain ⟨gn, cn, xn, rfl, FN, oN, sN⟩ := V.ins.flat (by decide) (ins_cells w)
  obtain ⟨gg, cg, rfl, _⟩ := V.gl
  have B0 : Below w.heap.size w (w.alloc (.cells #[.slice gc c.co.length cc, .slice gg c.gl.length cg, .slice gi c.inf.length ci, .slice gn c.ins.length cn] 27)) := by go_grown
  have CK : Calls Tryd.prog 10 #[.agg #[.slice gc c.co.length cc, .slice gg c.gl.length cg, .slice gi c.inf.length ci, .slice gn c.ins.length cn]] (w.alloc (.cells #[.slice gc c.co.length cc, .slice gg c.gl.length cg, .slice gi c.inf.length ci, .slice gn c.ins.length cn] 27)) fun e w' => e = .returned (.tuple #[.int .i64 0, .int .i64 0]) ∧ Below (w.alloc (.cells #[.slice gc c.co.length cc, .slice gg c.gl.length cg, .slice gi c.inf.length ci, .slice gn c.ins.length cn] 27)).heap.size (w.alloc (.cells #[.slice gc c.co.length cc, .slice gg c.gl.length cg, .slice gi c.inf.length ci, .slice gn c.ins.length cn] 27)) w' := (check_any (T.later B0) (HV.out.later B0) S).mono fun e w' ⟨z, r, he, hc, hb⟩ => by
    obtain ⟨rfl, rfl⟩ := hc.ok G
    exact ⟨he, hb⟩
  have HT := Hid.mk T
  have HB0 := Hid.mk B0
  have HFC := Hid.mk FC
  have HFI := Hid.mk FI
  have HFN := Hid.mk FN
  have HoC := Hid.mk oC
  have HoI := Hid.mk oI
  have HoN := Hid.mk oN
  have HsC := Hid.mk sC
  have HsI := Hid.mk sI
  have HsN := Hid.mk sN
  have HS := Hid.mk S
  have HG := Hid.mk G
  have q0 : ∀ o u, #[.slice gc c.co.length cc, .slice gg c.gl.length cg, .slice gi c.inf.length ci, .slice gn c.ins.length cn][o]? = some u → (w.alloc (.cells #[.slice gc c.co.length cc, .slice gg c.gl.length cg, .slice gi c.inf.length ci, .slice gn c.ins.length cn] 27)).cell? ⟨w.heap.size, o, none⟩ = some u := fun o u h => cellNew _ _ _ _ _ h
  have Hq := Hid.mk q0
  have hl1 := hl.1
  have hl2 := hl.2.1
  have hl3 := hl.2.2
  clear T S B0 G FC FI FN oC oI oN sC sI sN q0 hl
  obtain ⟨nc, hnc⟩ : ∃ x, c.co.length = x := ⟨_, rfl⟩
  obtain ⟨ni, hni⟩ : ∃ x, c.inf.length = x := ⟨_, rfl⟩
  obtain ⟨nn, hnn⟩ : ∃ x, c.ins.length = x := ⟨_, rfl⟩
  obtain ⟨ng, hng⟩ : ∃ x, c.gl.length = x := ⟨_, rfl⟩
  have Hnc := Hid.mk hnc
  have Hni := Hid.mk hni
  have Hnn := Hid.mk hnn
  have Hng := Hid.mk hng
  obtain ⟨i46, hi46, hz46, hs46, hb46⟩ := info_parts info46
  obtain ⟨i48, hi48, hz48, hs48, hb48⟩ := info_parts info48
  obtain ⟨i42, hi42, hz42, hs42, hb42⟩ := info_parts info42
  rw [hnc, hni, hnn, hng] at CK Hq HB0 ⊢
  rw [hnc] at HsC hl1
  rw [hni] at HsI hl2
  rw [hnn] at HsN hl3
  have Hgl : Hid (Lst w 2 isCon c.gl (.slice gg ng cg)) := ⟨by have := HV.out.gl; rwa [hng] at this⟩
  clear hnc hni hnn hng V HV
  go_enter Tryd.func4, Tryd.ntmps4
  go_wp2_with (first
    | (go_at_call 10; have zz := CE; refine CE.mono ?_; rintro e wz ⟨rfl, GZ⟩; have BZ := belowOn C9 GZ)
    | (at_builtin; refine wpList_append_T rfl (.tmp 52) (.tmp 55) 24 rfl w7.heap.size 48 i48 _ 4 32 Tryd.underlying24 hi48 hz48 hs48 hb48 rfl (by decide) (.slice ga8 ni ca8) ni xi rfl (R8.below (Joins.below_alloc1 _ _)) (some ⟨w8.heap.size, 0, none⟩) 1 1 [.int .i64 6, .int .i64 0, .int .i64 0, .int .i64 nn] rfl rfl (fun _ => ⟨_, rfl, World.news_of_block (heap_alloc_new _ _)⟩) (by simp [Value.oneCell']) (ni + 1) rfl _ rfl (by unfold maxLen; omega) (by omega) (by simp; omega) ?_; intro ga9 ca9 w9 R9 G9; have U9 : Below w7.heap.size (w8.alloc (.cells #[.int .i64 6, .int .i64 0, .int .i64 0, .int .i64 nn] 48)) w9 := app_below G9 (by simp; omega) (fun q k hk => (R8.lt q k hk).1); have D9 : w9.heap[w2.heap.size]? = some (.cells #[.slice ga2 (nc + 1) ca2, .slice gg ng cg, .slice gi ni ci, .slice ga7 (nn + 2) ca7] 27 (0, 0)) := (U9.block _ l7).trans (((Joins.below_alloc1 w8 _).block _ (by omega)).trans E8); have M9 : w9.heap[w6.heap.size]? = some (.cells #[.int .i64 2, .int .i64 0, .int .i64 n, .slice none 0 0] 30 (0, 0)) := (U9.block _ m7).trans (((Joins.below_alloc1 w8 _).block _ (by omega)).trans M8); have H9 : Below w2.heap.size w2 w9 := (belowOn K8 (Joins.below_alloc1 w8 _)).trans (U9.mono (by omega)); have RA9 := (RA8.below (Joins.below_alloc1 _ _)).belowB U9 (fun q k hk => (t8 (by omega) k hk).2); have RN9 := (RN8.below (Joins.below_alloc1 _ _)).belowB U9 (fun q k hk => (u8 (by omega) k hk).2); have o9 := Joins.cell_of_block D9 2; have z9 := Joins.unfrozen_of_block D9 2; have E9 : (w9.setCell ⟨w2.heap.size, 2, none⟩ (.slice ga9 (ni + 1) ca9)).heap[w2.heap.size]? = some (.cells #[.slice ga2 (nc + 1) ca2, .slice gg ng cg, .slice ga9 (ni + 1) ca9, .slice ga7 (nn + 2) ca7] 27 (0, 0)) := Joins.block_setCell (i := 2) D9 _; have K9 : Below w2.heap.size w2 (w9.setCell ⟨w2.heap.size, 2, none⟩ (.slice ga9 (ni + 1) ca9)) := H9.setCell (Nat.le_refl _) _; have F9 : Fp w2.heap.size w9 (w9.setCell ⟨w2.heap.size, 2, none⟩ (.slice ga9 (ni + 1) ca9)) := Fp.set (Fp.of_below (Below.refl _ _)) 2 _; have C9 := belowOn B2 K9; have CE := more_end HT.out HG.out HS.out Hnc.out Hni.out Hnn.out hl1 hl2 hl3 HFC.out HFI.out HFN.out Hgl.out C9 (RA9.fp F9 (by omega)) (RN9.fp F9 (by omega)) (R9.fp F9 (by omega)) ((F9.blk _ (Array.getElem?_eq_some_iff.1 M9).1 (by omega)).trans M9); have e0 := Joins.cell_of_block E9 0; have e1 := Joins.cell_of_block E9 1; have e2 := Joins.cell_of_block E9 2; have e3 := Joins.cell_of_block E9 3; clear R8 G9 U9 M9 H9 RA9 RN9 R9 F9 E8 K8 RA8 RN8 M8)
    | (at_builtin; refine wpList_append_T rfl (.tmp 49) (.tmp 51) 24 rfl w7.heap.size 48 i48 _ 4 32 Tryd.underlying24 hi48 hz48 hs48 hb48 rfl (by decide) (.slice (some ⟨w7.heap.size, 0, none⟩) 0 0) 0 [] rfl (Or.inl ⟨rfl, rfl, _, rfl⟩) gi ni ci xi rfl (by rw [HFI.out.1, Hni.out]) (srcLater HsI.out (belowOn C7 (Joins.below_alloc1 _ _))) HoI.out ni (Nat.zero_add _) xi rfl (by unfold maxLen; omega) (by omega) (by simp [World.setCell]) ?_; intro ga8 ca8 w8 R8 G8; have U8 : Below ((w7.setCell ⟨w2.heap.size, 3, none⟩ (.slice ga7 (nn + 2) ca7)).alloc (.cells #[] 48)).heap.size ((w7.setCell ⟨w2.heap.size, 3, none⟩ (.slice ga7 (nn + 2) ca7)).alloc (.cells #[] 48)) w8 := app_below G8 (Nat.le_refl _) (fun q => absurd q (by omega)); have V8 : Below (w7.setCell ⟨w2.heap.size, 3, none⟩ (.slice ga7 (nn + 2) ca7)).heap.size (w7.setCell ⟨w2.heap.size, 3, none⟩ (.slice ga7 (nn + 2) ca7)) w8 := belowOn (Joins.below_alloc1 _ _) U8; have E8 : w8.heap[w2.heap.size]? = some (.cells #[.slice ga2 (nc + 1) ca2, .slice gg ng cg, .slice gi ni ci, .slice ga7 (nn + 2) ca7] 27 (0, 0)) := (V8.block _ (by rw [s7]; exact l7)).trans E7; have K8 : Below w2.heap.size w2 w8 := belowOn K7 V8; have RA8 := RAs.below V8; have RN8 := RNs.below V8; have M8 : w8.heap[w6.heap.size]? = some (.cells #[.int .i64 2, .int .i64 0, .int .i64 n, .slice none 0 0] 30 (0, 0)) := (V8.block _ (by rw [s7]; exact m7)).trans Ms; have s8 : w7.heap.size ≤ w8.heap.size := (by have := V8.size; omega); have t8 := RAs.lt; rw [s7] at t8; have u8 := RNs.lt; rw [s7] at u8; clear G8 U8 V8 RAs RNs Ms)
    | (at_builtin; refine wpList_append_T rfl (.tmp 40) (.tmp 46) 25 rfl w5.heap.size 42 i42 _ 7 120 Tryd.underlying25 hi42 hz42 hs42 hb42 rfl (by decide) (.slice ga6 nn ca6) nn xn rfl ((R6.below (Joins.below_alloc1 _ _)).below (Joins.below_alloc1 _ _)) (some ⟨w6.heap.size + 1, 0, none⟩) 2 2 [.int .i64 1, .int .i64 0, .int .i64 0, .slice none 0 0, .slice none 0 0, .slice (some ⟨w6.heap.size, 0, none⟩) 1 1, .slice none 0 0, .int .i64 3, .int .i64 0, .int .i64 1, .slice none 0 0, .slice none 0 0, .slice none 0 0, .slice none 0 0] rfl rfl (fun _ => ⟨_, rfl, news6 w6 _ #[.int .i64 1, .int .i64 0, .int .i64 0, .slice none 0 0, .slice none 0 0, .slice (some ⟨w6.heap.size, 0, none⟩) 1 1, .slice none 0 0, .int .i64 3, .int .i64 0, .int .i64 1, .slice none 0 0, .slice none 0 0, .slice none 0 0, .slice none 0 0] 42⟩) (by simp [Value.oneCell']) (nn + 2) rfl _ rfl (by unfold maxLen; omega) (by omega) (by simp; omega) ?_; intro ga7 ca7 w7 R7 G7; have U7 : Below w5.heap.size ((w6.alloc (.cells #[.int .i64 2, .int .i64 0, .int .i64 n, .slice none 0 0] 30)).alloc (.cells #[.int .i64 1, .int .i64 0, .int .i64 0, .slice none 0 0, .slice none 0 0, .slice (some ⟨w6.heap.size, 0, none⟩) 1 1, .slice none 0 0, .int .i64 3, .int .i64 0, .int .i64 1, .slice none 0 0, .slice none 0 0, .slice none 0 0, .slice none 0 0] 42)) w7 := app_below G7 (by simp; omega) (fun q k hk => (R6.lt q k hk).1); have M7 : w7.heap[w6.heap.size]? = some (.cells #[.int .i64 2, .int .i64 0, .int .i64 n, .slice none 0 0] 30 (0, 0)) := (app_block G7 (by simp; omega) (fun q e => by have := (R6.lt q _ e).2; omega)).trans (((Joins.below_alloc1 (w6.alloc (.cells #[.int .i64 2, .int .i64 0, .int .i64 n, .slice none 0 0] 30)) _).block _ (by simp)).trans (heap_alloc_new _ _)); have D7 : w7.heap[w2.heap.size]? = some (.cells #[.slice ga2 (nc + 1) ca2, .slice gg ng cg, .slice gi ni ci, .slice gn nn cn] 27 (0, 0)) := (U7.block _ l5).trans (((belowOn (Joins.below_alloc1 w6 _) (Joins.below_alloc1 _ _)).block _ (by omega)).trans E6); have H7 : Below w2.heap.size w2 w7 := (belowOn K6 (belowOn (Joins.below_alloc1 w6 _) (Joins.below_alloc1 _ _))).trans (U7.mono (by omega)); have RA7 := ((RA6.below (Joins.below_alloc1 _ _)).below (Joins.below_alloc1 _ _)).belowB U7 (fun q k hk => (t6 (by omega) k hk).2); have o7 := Joins.cell_of_block D7 3; have z7 := Joins.unfrozen_of_block D7 3; have E7 : (w7.setCell ⟨w2.heap.size, 3, none⟩ (.slice ga7 (nn + 2) ca7)).heap[w2.heap.size]? = some (.cells #[.slice ga2 (nc + 1) ca2, .slice gg ng cg, .slice gi ni ci, .slice ga7 (nn + 2) ca7] 27 (0, 0)) := Joins.block_setCell (i := 3) D7 _; have K7 : Below w2.heap.size w2 (w7.setCell ⟨w2.heap.size, 3, none⟩ (.slice ga7 (nn + 2) ca7)) := H7.setCell (Nat.le_refl _) _; have F7 : Fp w2.heap.size w7 (w7.setCell ⟨w2.heap.size, 3, none⟩ (.slice ga7 (nn + 2) ca7)) := Fp.set (Fp.of_below (Below.refl _ _)) 3 _; have RAs := RA7.fp F7 (by omega); have RNs := R7.fp F7 (by omega); have Ms : (w7.setCell ⟨w2.heap.size, 3, none⟩ (.slice ga7 (nn + 2) ca7)).heap[w6.heap.size]? = some (.cells #[.int .i64 2, .int .i64 0, .int .i64 n, .slice none 0 0] 30 (0, 0)) := (F7.blk _ (Array.getElem?_eq_some_iff.1 M7).1 (by omega)).trans M7; have s7 : (w7.setCell ⟨w2.heap.size, 3, none⟩ (.slice ga7 (nn + 2) ca7)).heap.size = w7.heap.size := (by simp [World.setCell]); have l7 : w2.heap.size < w7.heap.size := (Array.getElem?_eq_some_iff.1 D7).1; have m7 : w6.heap.size < w7.heap.size := (Array.getElem?_eq_some_iff.1 M7).1; have l7' : w.heap.size < w7.heap.size := (by omega); have c2 := cellLater K7 a2; have C7 := belowOn B2 K7; clear R6 G7 U7 M7 H7 RA7 R7 F7 E6 K6 RA6)
    | (at_builtin; refine wpList_append_T rfl (.tmp 37) (.tmp 39) 25 rfl w5.heap.size 42 i42 _ 7 120 Tryd.underlying25 hi42 hz42 hs42 hb42 rfl (by decide) (.slice (some ⟨w5.heap.size, 0, none⟩) 0 0) 0 [] rfl (Or.inl ⟨rfl, rfl, _, rfl⟩) gn nn cn xn rfl (by rw [HFN.out.1, Hnn.out]) (srcLater HsN.out (belowOn C5 (Joins.below_alloc1 _ _))) HoN.out nn (Nat.zero_add _) xn rfl (by unfold maxLen; omega) (by omega) (by simp [World.setCell]) ?_; intro ga6 ca6 w6 R6 G6; have U6 : Below ((w5.setCell ⟨w2.heap.size, 0, none⟩ (.slice ga2 (nc + 1) ca2)).alloc (.cells #[] 42)).heap.size ((w5.setCell ⟨w2.heap.size, 0, none⟩ (.slice ga2 (nc + 1) ca2)).alloc (.cells #[] 42)) w6 := app_below G6 (Nat.le_refl _) (fun q => absurd q (by omega)); have V6 : Below (w5.setCell ⟨w2.heap.size, 0, none⟩ (.slice ga2 (nc + 1) ca2)).heap.size (w5.setCell ⟨w2.heap.size, 0, none⟩ (.slice ga2 (nc + 1) ca2)) w6 := belowOn (Joins.below_alloc1 _ _) U6; have E6 : w6.heap[w2.heap.size]? = some (.cells #[.slice ga2 (nc + 1) ca2, .slice gg ng cg, .slice gi ni ci, .slice gn nn cn] 27 (0, 0)) := (V6.block _ (by rw [s5]; exact l5)).trans E5; have K6 : Below w2.heap.size w2 w6 := belowOn K5 V6; have RA6 := RA5.below V6; have s6 : w5.heap.size ≤ w6.heap.size := (by have := V6.size; omega); have t6 := RA5.lt; rw [s5] at t6; clear G6 U6 V6 RA5 b3)
    | (at_builtin; refine wpList_append_T rfl (.tmp 29) (.tmp 31) 22 rfl (w2.heap.size + 1) 46 i46 _ 2 24 Tryd.underlying22 hi46 hz46 hs46 hb46 rfl (by decide) (.slice ga1 nc ca1) nc xc rfl (R4.below (Joins.below_alloc1 _ _)) (some ⟨w4.heap.size, 0, none⟩) 1 1 [.string ⟨#[77, 111, 114, 101]⟩, .int .i64 8] rfl rfl (fun _ => ⟨_, rfl, World.news_of_block (heap_alloc_new _ _)⟩) (by simp [Value.oneCell']) (nc + 1) rfl _ rfl (by unfold maxLen; omega) (by omega) (by simp; omega) ?_; intro ga2 ca2 w5 R5 G5; have U5 : Below (w2.heap.size + 1) (w4.alloc (.cells #[.string ⟨#[77, 111, 114, 101]⟩, .int .i64 8] 46)) w5 := app_below G5 (by simp; omega) (fun q k hk => (R4.lt q k hk).1); have D5 : w5.heap[w2.heap.size]? = some (.cells #[.slice gc nc cc, .slice gg ng cg, .slice gi ni ci, .slice gn nn cn] 27 (0, 0)) := (U5.block _ (by omega)).trans (((Joins.below_alloc1 w4 _).block _ l4).trans D4); have H5 : Below w2.heap.size w2 w5 := (belowOn H4 (Joins.below_alloc1 w4 _)).trans (U5.mono (by omega)); have o5 := Joins.cell_of_block D5 0; have z5 := Joins.unfrozen_of_block D5 0; have E5 : (w5.setCell ⟨w2.heap.size, 0, none⟩ (.slice ga2 (nc + 1) ca2)).heap[w2.heap.size]? = some (.cells #[.slice ga2 (nc + 1) ca2, .slice gg ng cg, .slice gi ni ci, .slice gn nn cn] 27 (0, 0)) := Joins.block_setCell (i := 0) D5 _; have K5 : Below w2.heap.size w2 (w5.setCell ⟨w2.heap.size, 0, none⟩ (.slice ga2 (nc + 1) ca2)) := H5.setCell (Nat.le_refl _) _; have RA5 := R5.fp (p := w2.heap.size) (Fp.set (Fp.of_below (Below.refl _ _)) 0 (.slice ga2 (nc + 1) ca2)) (by omega); have s5 : (w5.setCell ⟨w2.heap.size, 0, none⟩ (.slice ga2 (nc + 1) ca2)).heap.size = w5.heap.size := (by simp [World.setCell]); have l5 : w2.heap.size < w5.heap.size := (Array.getElem?_eq_some_iff.1 D5).1; have l5' : w.heap.size < w5.heap.size := (by omega); have b2 := cellLater K5 a2; have b3 := cellLater K5 a3; have C5 := belowOn B2 K5; clear R4 G5 U5 D4 H4 l4 R5 H5)
    | (at_builtin; refine wpList_append_T rfl (.tmp 26) (.tmp 28) 22 rfl (w2.heap.size + 1) 46 i46 _ 2 24 Tryd.underlying22 hi46 hz46 hs46 hb46 rfl (by decide) (.slice (some ⟨w2.heap.size + 1, 0, none⟩) 0 0) 0 [] rfl (Or.inl ⟨rfl, rfl, _, rfl⟩) gc nc cc xc rfl (by rw [HFC.out.1, Hnc.out]) (srcLater HsC.out (belowOn B2 (by go_grown))) HoC.out nc (Nat.zero_add _) xc rfl (by unfold maxLen; omega) (by omega) (by simp) ?_; intro ga1 ca1 w4 R4 G4; have U4 : Below ((w2.alloc (.cells #[.slice gc nc cc, .slice gg ng cg, .slice gi ni ci, .slice gn nn cn] 27)).alloc (.cells #[] 46)).heap.size ((w2.alloc (.cells #[.slice gc nc cc, .slice gg ng cg, .slice gi ni ci, .slice gn nn cn] 27)).alloc (.cells #[] 46)) w4 := app_below G4 (Nat.le_refl _) (fun q => absurd q (by omega)); have V4 : Below (w2.alloc (.cells #[.slice gc nc cc, .slice gg ng cg, .slice gi ni ci, .slice gn nn cn] 27)).heap.size (w2.alloc (.cells #[.slice gc nc cc, .slice gg ng cg, .slice gi ni ci, .slice gn nn cn] 27)) w4 := belowOn (Joins.below_alloc1 _ _) U4; have D4 : w4.heap[w2.heap.size]? = some (.cells #[.slice gc nc cc, .slice gg ng cg, .slice gi ni ci, .slice gn nn cn] 27 (0, 0)) := (V4.block _ (by simp)).trans (heap_alloc_new _ _); have H4 : Below w2.heap.size w2 w4 := belowOn (Joins.below_alloc1 _ _) V4; have l4 := (Array.getElem?_eq_some_iff.1 D4).1; clear G4 U4 V4)
    | (go_at_call 7; refine (awake_any _ (HT.out.later B1)).mono ?_; rintro e w2 ⟨rfl, G2⟩; have B2 := belowOn B1 G2; have a0 := cellLater (belowOn G1 G2) (Hq.out 0 _ rfl); have a1 := cellLater (belowOn G1 G2) (Hq.out 1 _ rfl); have a2 := cellLater (belowOn G1 G2) (Hq.out 2 _ rfl); have a3 := cellLater (belowOn G1 G2) (Hq.out 3 _ rfl); have lp : w.heap.size < w2.heap.size := (World.block_lt_of_cell? _ _ a0); clear G1 G2 B1)
    | (go_at_call 10; refine CK.mono ?_; rintro e w1 ⟨rfl, G1⟩; have B1 := belowOn HB0.out G1; clear CK))
  go_ret
  exact ⟨rfl, BZ⟩
end
end Go.Proofs.YtidplckoolmaiaaDoor
