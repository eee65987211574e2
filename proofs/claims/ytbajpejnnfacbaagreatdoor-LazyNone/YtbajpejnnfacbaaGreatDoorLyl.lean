/- Package lazy: a value is told to what waits last. -/
import Derived.Test.YtbajpejnnfacbaaGreatDoorLyk
import Derived.Test.YtbajpejnnfacbaaGreatDoorLyi
import Derived.Test.YtbajpejnnfacbaaGreatDoorLym
namespace Go.Proofs.YtbajpejnnfacbaaGreatDoor.Lz
open Go.RowKit
set_option linter.unusedVariables false
set_option linter.unusedSimpArgs false


section
variable {w w' : World} {G G' : Gm} {rb mb : Nat} {mv : Mv} {s : St} {sh : Int}
/-- the run's value -/
theorem Run.of (h : Run w G rb mb mv s sh) {t : Nat} (hm : s.md = .tl t) : ∃ nx vx vn b wr vw cs, Bx w rb (rC mb s.fuel nx vx vn (ptr b) wr vw sh) 101 ∧ G b = some (.thing t) ∧ Own w G 2 160 6 vw s.ws.length cs ∧ fmsC G s.ws.reverse cs ∧ nx = 2 := by
  obtain ⟨nx, vx, vn, vo, wr, vw, cs, a, b, c, d⟩ := h.r
  rw [hm] at b
  obtain ⟨rfl, b', rfl, hb⟩ := b
  exact ⟨_, vx, vn, b', wr, vw, cs, a, hb, c, d, rfl⟩
set_option maxRecDepth 100000 in
set_option maxHeartbeats 4000000 in
theorem tell_none (h : Run w G rb mb mv s sh) {t : Nat} (hm : s.md = .tl t) (hw : s.ws = []) : Calls Tryz.prog 52 #[ptr rb] w (Out w G rb mb mv { s with md := .rest t } sh) := by
  obtain ⟨nx, vx, vn, b, wr, vw, cs, a, hb, c, d, _⟩ := h.of hm
  have v0 : ∃ ga cap, vw = .slice ga 0 cap := by
    rw [hw] at c
    rcases c.row.2 with ⟨q, z⟩ | ⟨g, cp, cur, q, _⟩
    · exact ⟨none, 0, q⟩
    · exact ⟨_, _, q⟩
  obtain ⟨ga, cap, rfl⟩ := v0
  have c7 := a.cell 7
  have c2 := a.cell 2
  have z2 : w.frozen? ⟨rb, 2, none⟩ = false := Joins.unfrozen_of_block a 2
  have H := Hid.mk (And.intro h (And.intro a (And.intro hb (And.intro c d))))
  clear h a hb c d
  go_enter Tryz.func52, Tryz.ntmps52
  go_wp2
  go_end0
  obtain ⟨h, a, hb, c, d⟩ := H.out
  have b1 : Bx (w.setCell ⟨rb, 2, none⟩ (.int .i64 3)) rb (rC mb s.fuel 3 vx vn (ptr b) wr (.slice ga 0 cap) sh) 101 := Joins.block_setCell (i := 2) a (.int .i64 3)
  have oth : ∀ i, i ≠ rb → (w.setCell ⟨rb, 2, none⟩ (.int .i64 3)).heap[i]? = w.heap[i]? := fun i hi => setCell_block _ _ _ _ hi
  obtain ⟨R, F⟩ := h.turn (w' := w.setCell ⟨rb, 2, none⟩ (.int .i64 3)) (md' := .rest t) (ws' := s.ws) b1 rfl rfl rfl (by rw [size_set]; exact Nat.le_refl _) (fun i _ hi => oth i hi) ⟨rfl, b, rfl, hb⟩ (c.kept (Le.refl G) (fun g hg => oth g (fun e => by rw [e, h.rt] at hg; cases hg))) d
  exact ⟨rfl, G, F, R⟩
set_option maxRecDepth 100000 in
set_option maxHeartbeats 8000000 in
theorem tell_some {ar : List Nat} (h : Run w G rb mb mv s sh) {t : Nat} (hm : s.md = .tl t) {f : Fm} {r : List Fm} (hws : s.ws = f :: r) (gd : Good ar s) (har : ar.length ≤ 1000000000) (hw : s.ws.length ≤ 1000000000) (ho : s.out.length + 1 ≤ 1000000000) : Calls Tryz.prog 52 #[ptr rb] w (Out w G rb mb mv (tellS s t) sh) := by
  obtain ⟨nx, vx, vn, b, wr, vw, cs, a, hb, c, d, _⟩ := h.of hm
  have v0 : ∃ ga cap, vw = .slice ga s.ws.length cap := by
    rcases c.row.2 with ⟨q, z⟩ | ⟨g, cp, cur, q, _⟩
    · exact ⟨none, 0, by rw [q, z]⟩
    · exact ⟨_, _, q⟩
  obtain ⟨ga, cap, rfl⟩ := v0
  have c7 := a.cell 7
  have l1 : s.ws.length = r.length + 1 := by rw [hws]; rfl
  have LA := last_any h hws hw
  have okf := gd.ws f (by rw [hws]; exact List.mem_cons_self ..)
  have mdt := gd.md
  rw [hm] at mdt
  obtain ⟨tv, ht, vv⟩ := mdt
  have okth : okAll ar s.th := gd.th
  have hw1 : r.length + 1 ≤ 1000000000 := by omega
  obtain ⟨nw, hnw⟩ : ∃ n, s.ws.length = n := ⟨_, rfl⟩
  rw [hnw] at c7
  have nz : ((nw : Int) == 0) = false := beq_eq_false_iff_ne.2 (by omega)
  have HB := Hid.mk (And.intro hb (And.intro ht (And.intro vv (And.intro okth okf))))
  -- behind last: the run without its last frame
  have AFT : Hid (∀ w8, Fx G G w w8 → Run w8 G rb mb mv { s with ws := r } sh → ∃ nx vx vn b8 wr vw, Bx w8 rb (rC mb s.fuel nx vx vn (ptr b8) wr vw sh) 101 ∧ G b8 = some (.thing t)) := ⟨fun w8 F8 R8 => by
    obtain ⟨nx, vx, vn, b8, wr, vw, cs, a, hb, c, d, _⟩ := R8.of (t := t) hm
    exact ⟨nx, vx, vn, b8, wr, vw, a, hb⟩⟩
  clear h a c d gd hb ht vv okth okf
  cases f with
  | things l =>
    have et : tellS s t = enterS { s with ws := r } t l := by unfold tellS; rw [hws]
    rw [et]
    clear et
    go_enter Tryz.func52, Tryz.ntmps52
    go_wp2_with (go_at_call 77; refine LA.mono ?_; rintro e9 w8 ⟨⟨d, rfl, hd⟩, F8, R8⟩; obtain ⟨rr, hrr, ed⟩ := hd; obtain ⟨ga8, cap8, rfl, _⟩ := id hrr; subst ed; have hq := hrr; clear hrr; obtain ⟨nx8, vx8, vn8, b8, wr8, vw8, XR8, hb8⟩ := AFT.out w8 F8 R8; have H8 := Hid.mk (And.intro F8 (And.intro R8 (And.intro XR8 (And.intro hb8 hq)))); clear hq F8 R8 XR8 hb8)
    obtain ⟨F8, R8, XR8, hb8, hq⟩ := H8.out
    obtain ⟨W9, hW9⟩ : ∃ x, x = w8.alloc (.cells #[.int .i64 1, .pointer none, .slice ga8 l.length cap8, .pointer none, .pointer none, .int .i64 0] 160) := ⟨_, rfl⟩
    rw [← hW9]
    have K9 : Below w8.heap.size w8 W9 := by rw [hW9]; exact Joins.below_alloc1 w8 _
    have X9 : Bx W9 w8.heap.size #[.int .i64 1, .pointer none, .slice ga8 l.length cap8, .pointer none, .pointer none, .int .i64 0] 160 := by rw [hW9]; exact heap_alloc_new w8 _
    have R9 := (R8.below K9).drew
    have r5 := (XR8.later K9).cell 5
    have fr9 : G w8.heap.size = none := R8.rep.free (Nat.le_refl _)
    have lt9 : w8.heap.size < W9.heap.size := lt_of_block X9
    have HF9 : Hid (Fx G G w W9.drew) := ⟨(F8.trans (Fx.of_below K9)).trans (Fx.drewL _ _)⟩
    obtain ⟨hb, ht, vv, okth, okf⟩ := HB.out
    have EN := enter_any (ar := ar) R9 hb8 ht hq okf.1 okf.2.1 okth hw1
    have x2 := X9.cell 2
    have FRM : Hid (∀ w10 e9, Out W9.drew G rb mb mv (enterS { s with ws := r } t l) sh e9 w10 → w10.cell? ⟨w8.heap.size, 2, none⟩ = some (.slice ga8 l.length cap8)) := ⟨fun w10 e9 H => by obtain ⟨_, G', F, _⟩ := H; exact (World.cell?_of_block (a := ⟨w8.heap.size, 2, none⟩) (F.block _ lt9 (by rw [fr9]; trivial))).trans x2⟩
    generalize l.length = nl at *
    clear F8 R8 XR8 hb8 hq hW9 K9 X9 R9 fr9 hb ht vv okth okf H8
    go_region_with (first
      | (go_at_call 78; refine EN.mono ?_; intro e w10 H9; have s0 := FRM.out _ _ H9; have HE := Hid.mk (Out.from HF9.out H9); obtain ⟨rfl, _⟩ := H9))
    all_goals go_wp2
    all_goals go_end0
    all_goals exact HE.out
  | arms al o e =>
    have et : tellS s t = chooseS { s with ws := r } t al o e := by unfold tellS; rw [hws]
    rw [et]
    clear et
    go_enter Tryz.func52, Tryz.ntmps52
    go_wp2_with (go_at_call 77; refine LA.mono ?_; rintro e9 w8 ⟨⟨d, rfl, hd⟩, F8, R8⟩; obtain ⟨_, _, kid, ⟨xb, rfl, hx⟩, ⟨nb, rfl, hn⟩, ed⟩ := hd; subst ed; have hq := And.intro hx hn; clear hx hn; obtain ⟨nx8, vx8, vn8, b8, wr8, vw8, XR8, hb8⟩ := AFT.out w8 F8 R8; have H8 := Hid.mk (And.intro F8 (And.intro R8 (And.intro XR8 (And.intro hb8 hq)))); clear hq F8 R8 XR8 hb8)
    obtain ⟨F8, R8, XR8, hb8, hq⟩ := H8.out
    obtain ⟨W9, hW9⟩ : ∃ x, x = w8.alloc (.cells #[.int .i64 2, .pointer none, .slice none 0 0, ptr xb, ptr nb, .int .i64 0] 160) := ⟨_, rfl⟩
    rw [← hW9]
    have K9 : Below w8.heap.size w8 W9 := by rw [hW9]; exact Joins.below_alloc1 w8 _
    have X9 : Bx W9 w8.heap.size #[.int .i64 2, .pointer none, .slice none 0 0, ptr xb, ptr nb, .int .i64 0] 160 := by rw [hW9]; exact heap_alloc_new w8 _
    have R9 := (R8.below K9).drew
    have r5 := (XR8.later K9).cell 5
    have fr9 : G w8.heap.size = none := R8.rep.free (Nat.le_refl _)
    have lt9 : w8.heap.size < W9.heap.size := lt_of_block X9
    have HF9 : Hid (Fx G G w W9.drew) := ⟨(F8.trans (Fx.of_below K9)).trans (Fx.drewL _ _)⟩
    obtain ⟨hb, ht, vv, okth, okf⟩ := HB.out
    have EN := choose_any R9 hb8 ht (isI_numOf har (okth _ _ ht)) hq.1 hq.2 okf.2.2.2 (by simp only; omega)
    have x0 := X9.cell 0
    have x1 := X9.cell 1
    have x2 := X9.cell 2
    have x3 := X9.cell 3
    have x4 := X9.cell 4
    have x5 := X9.cell 5
    have FRM : Hid (∀ w10 e9, Out W9.drew G rb mb mv (chooseS { s with ws := r } t al o e) sh e9 w10 → w10.cell? ⟨w8.heap.size, 0, none⟩ = some (.int .i64 2) ∧ w10.cell? ⟨w8.heap.size, 1, none⟩ = some (.pointer none) ∧ w10.cell? ⟨w8.heap.size, 2, none⟩ = some (.slice none 0 0) ∧ w10.cell? ⟨w8.heap.size, 3, none⟩ = some (ptr xb) ∧ w10.cell? ⟨w8.heap.size, 4, none⟩ = some (ptr nb) ∧ w10.cell? ⟨w8.heap.size, 5, none⟩ = some (.int .i64 0)) := ⟨fun w10 e9 H => by
      obtain ⟨_, G', F, _⟩ := H
      have bq := F.block _ lt9 (by rw [fr9]; trivial)
      exact ⟨(World.cell?_of_block (a := ⟨w8.heap.size, 0, none⟩) bq).trans x0, (World.cell?_of_block (a := ⟨w8.heap.size, 1, none⟩) bq).trans x1, (World.cell?_of_block (a := ⟨w8.heap.size, 2, none⟩) bq).trans x2, (World.cell?_of_block (a := ⟨w8.heap.size, 3, none⟩) bq).trans x3, (World.cell?_of_block (a := ⟨w8.heap.size, 4, none⟩) bq).trans x4, (World.cell?_of_block (a := ⟨w8.heap.size, 5, none⟩) bq).trans x5⟩⟩
    clear F8 R8 XR8 hb8 hq hW9 K9 X9 R9 fr9 hb ht vv okth okf H8
    go_region_with (first
      | (go_at_call 79; refine EN.mono ?_; intro e w10 H9; obtain ⟨s0, s1, s2, s3, s4, s5⟩ := FRM.out _ _ H9; have HE := Hid.mk (Out.from HF9.out H9); obtain ⟨rfl, _⟩ := H9))
    all_goals go_wp2
    all_goals go_end0
    all_goals exact HE.out
  | prim k j i =>
    have et : tellS s t = argumentS { s with ws := r } t k j i := by unfold tellS; rw [hws]
    rw [et]
    clear et
    go_enter Tryz.func52, Tryz.ntmps52
    go_wp2_with (go_at_call 77; refine LA.mono ?_; rintro e9 w8 ⟨⟨d, rfl, hd⟩, F8, R8⟩; obtain ⟨_, _, la, n8, ⟨xb, rfl, hx⟩, ⟨g8, cap8, rfl, hc8, hg8⟩, hn8, ed⟩ := hd; subst ed; have hq := And.intro hx (And.intro hc8 (And.intro hg8 hn8)); clear hx hc8 hg8 hn8; obtain ⟨nx8, vx8, vn8, b8, wr8, vw8, XR8, hb8⟩ := AFT.out w8 F8 R8; have H8 := Hid.mk (And.intro F8 (And.intro R8 (And.intro XR8 (And.intro hb8 hq)))); clear hq F8 R8 XR8 hb8)
    obtain ⟨F8, R8, XR8, hb8, hq⟩ := H8.out
    obtain ⟨W9, hW9⟩ : ∃ x, x = w8.alloc (.cells #[.int .i64 3, .pointer none, .slice (some ⟨g8, 0, none⟩) n8 cap8, ptr xb, .pointer none, .int .i64 i] 160) := ⟨_, rfl⟩
    rw [← hW9]
    have K9 : Below w8.heap.size w8 W9 := by rw [hW9]; exact Joins.below_alloc1 w8 _
    have X9 : Bx W9 w8.heap.size #[.int .i64 3, .pointer none, .slice (some ⟨g8, 0, none⟩) n8 cap8, ptr xb, .pointer none, .int .i64 i] 160 := by rw [hW9]; exact heap_alloc_new w8 _
    have R9 := (R8.below K9).drew
    have r5 := (XR8.later K9).cell 5
    have fr9 : G w8.heap.size = none := R8.rep.free (Nat.le_refl _)
    have lt9 : w8.heap.size < W9.heap.size := lt_of_block X9
    have HF9 : Hid (Fx G G w W9.drew) := ⟨(F8.trans (Fx.of_below K9)).trans (Fx.drewL _ _)⟩
    obtain ⟨hb, ht, vv, okth, okf⟩ := HB.out
    have EN := argument_any (ar := ar) R9 hb8 ht vv hq.2.2.1 hq.1 hq.2.2.2 hq.2.1 okf okth hw1 ho
    have x0 := X9.cell 0
    have x1 := X9.cell 1
    have x2 := X9.cell 2
    have x3 := X9.cell 3
    have x4 := X9.cell 4
    have x5 := X9.cell 5
    have FRM : Hid (∀ w10 e9, Out W9.drew G rb mb mv (argumentS { s with ws := r } t k j i) sh e9 w10 → w10.cell? ⟨w8.heap.size, 0, none⟩ = some (.int .i64 3) ∧ w10.cell? ⟨w8.heap.size, 1, none⟩ = some (.pointer none) ∧ w10.cell? ⟨w8.heap.size, 2, none⟩ = some (.slice (some ⟨g8, 0, none⟩) n8 cap8) ∧ w10.cell? ⟨w8.heap.size, 3, none⟩ = some (ptr xb) ∧ w10.cell? ⟨w8.heap.size, 4, none⟩ = some (.pointer none) ∧ w10.cell? ⟨w8.heap.size, 5, none⟩ = some (.int .i64 i)) := ⟨fun w10 e9 H => by
      obtain ⟨_, G', F, _⟩ := H
      have bq := F.block _ lt9 (by rw [fr9]; trivial)
      exact ⟨(World.cell?_of_block (a := ⟨w8.heap.size, 0, none⟩) bq).trans x0, (World.cell?_of_block (a := ⟨w8.heap.size, 1, none⟩) bq).trans x1, (World.cell?_of_block (a := ⟨w8.heap.size, 2, none⟩) bq).trans x2, (World.cell?_of_block (a := ⟨w8.heap.size, 3, none⟩) bq).trans x3, (World.cell?_of_block (a := ⟨w8.heap.size, 4, none⟩) bq).trans x4, (World.cell?_of_block (a := ⟨w8.heap.size, 5, none⟩) bq).trans x5⟩⟩
    clear F8 R8 XR8 hb8 hq hW9 K9 X9 R9 fr9 hb ht vv okth okf H8
    go_region_with (first
      | (go_at_call 80; refine EN.mono ?_; intro e w10 H9; obtain ⟨s0, s1, s2, s3, s4, s5⟩ := FRM.out _ _ H9; have HE := Hid.mk (Out.from HF9.out H9); obtain ⟨rfl, _⟩ := H9))
    all_goals go_wp2
    all_goals go_end0
    all_goals exact HE.out
  | same u =>
    have et : tellS s t = { s with th := s.th.set u (.same t), ws := r, md := .tl t } := by unfold tellS; rw [hws]
    rw [et]
    clear et
    go_enter Tryz.func52, Tryz.ntmps52
    go_wp2_with (go_at_call 77; refine LA.mono ?_; rintro e9 w8 ⟨⟨d, rfl, hd⟩, F8, R8⟩; obtain ⟨_, ⟨bu, rfl, hu⟩, ed⟩ := hd; subst ed; have hq := hu; clear hu; obtain ⟨nx8, vx8, vn8, b8, wr8, vw8, XR8, hb8⟩ := AFT.out w8 F8 R8; have H8 := Hid.mk (And.intro F8 (And.intro R8 (And.intro XR8 (And.intro hb8 hq)))); clear hq F8 R8 XR8 hb8)
    obtain ⟨F8, R8, XR8, hb8, hq⟩ := H8.out
    obtain ⟨W9, hW9⟩ : ∃ x, x = w8.alloc (.cells #[.int .i64 0, ptr bu, .slice none 0 0, .pointer none, .pointer none, .int .i64 0] 160) := ⟨_, rfl⟩
    rw [← hW9]
    have K9 : Below w8.heap.size w8 W9 := by rw [hW9]; exact Joins.below_alloc1 w8 _
    have X9 : Bx W9 w8.heap.size #[.int .i64 0, ptr bu, .slice none 0 0, .pointer none, .pointer none, .int .i64 0] 160 := by rw [hW9]; exact heap_alloc_new w8 _
    have R9 := (R8.below K9).drew
    have r5 := (XR8.later K9).cell 5
    have fr9 : G w8.heap.size = none := R8.rep.free (Nat.le_refl _)
    have lt9 : w8.heap.size < W9.heap.size := lt_of_block X9
    have HF9 : Hid (Fx G G w W9.drew) := ⟨(F8.trans (Fx.of_below K9)).trans (Fx.drewL _ _)⟩
    obtain ⟨hb, ht, vv, okth, okf⟩ := HB.out
    have x1 := X9.cell 1
    obtain ⟨tv2, cu, e2, hcu, qu⟩ := R9.rep.cont bu _ hq
    have hwk : s.th[u]? = some .work := okf
    rw [show ({ s with ws := r } : St).th = s.th from rfl, hwk] at e2
    cases e2
    have BU : Bx W9.drew bu (thC 8 0 nilp nilp nilp nils nilm 0) 91 := by rw [← (show cu = _ from qu)]; exact hcu
    have u0 : W9.cell? ⟨bu, 0, none⟩ = some (.int .i64 8) := BU.cell 0
    have uz0 : W9.frozen? ⟨bu, 0, none⟩ = false := Joins.unfrozen_of_block (w := W9) BU 0
    have u1 : W9.cell? ⟨bu, 1, none⟩ = some (.int .i64 0) := BU.cell 1
    have uz1 : W9.frozen? ⟨bu, 1, none⟩ = false := Joins.unfrozen_of_block (w := W9) BU 1
    have u2 : W9.cell? ⟨bu, 2, none⟩ = some (nilp) := BU.cell 2
    have uz2 : W9.frozen? ⟨bu, 2, none⟩ = false := Joins.unfrozen_of_block (w := W9) BU 2
    have u3 : W9.cell? ⟨bu, 3, none⟩ = some (nilp) := BU.cell 3
    have uz3 : W9.frozen? ⟨bu, 3, none⟩ = false := Joins.unfrozen_of_block (w := W9) BU 3
    have u4 : W9.cell? ⟨bu, 4, none⟩ = some (nilp) := BU.cell 4
    have uz4 : W9.frozen? ⟨bu, 4, none⟩ = false := Joins.unfrozen_of_block (w := W9) BU 4
    have u5 : W9.cell? ⟨bu, 5, none⟩ = some (nils) := BU.cell 5
    have uz5 : W9.frozen? ⟨bu, 5, none⟩ = false := Joins.unfrozen_of_block (w := W9) BU 5
    have u6 : W9.cell? ⟨bu, 6, none⟩ = some (nilm) := BU.cell 6
    have uz6 : W9.frozen? ⟨bu, 6, none⟩ = false := Joins.unfrozen_of_block (w := W9) BU 6
    have u7 : W9.cell? ⟨bu, 7, none⟩ = some (.int .i64 0) := BU.cell 7
    have uz7 : W9.frozen? ⟨bu, 7, none⟩ = false := Joins.unfrozen_of_block (w := W9) BU 7
    have nu : ¬ bu = w8.heap.size := fun z => by rw [z, fr9] at hq; cases hq
    have nu' : ¬ w8.heap.size = bu := fun z => nu z.symm
    have nr : ¬ bu = rb := fun z => by rw [z, R8.rt] at hq; cases hq
    have nr' : ¬ rb = bu := fun z => nr z.symm
    have hb10 := store8 (W := W9) BU (.int .i64 10) (.int .i64 0) nilp nilp (ptr b8) nils nilm (.int .i64 0)
    have ho10 := store8_oth W9 bu (.int .i64 10) (.int .i64 0) nilp nilp (ptr b8) nils nilm (.int .i64 0)
    have END : Hid (∀ W10, W10 = (((((((W9.setCell ⟨bu, 0, none⟩ (.int .i64 10)).setCell ⟨bu, 1, none⟩ (.int .i64 0)).setCell ⟨bu, 2, none⟩ nilp).setCell ⟨bu, 3, none⟩ nilp).setCell ⟨bu, 4, none⟩ (ptr b8)).setCell ⟨bu, 5, none⟩ nils).setCell ⟨bu, 6, none⟩ nilm).setCell ⟨bu, 7, none⟩ (.int .i64 0) → Out w G rb mb mv { s with th := s.th.set u (.same t), ws := r, md := .tl t } sh (.returned (.tuple #[])) W10.drew) := ⟨fun W10 hW10 => by
      obtain ⟨v1, v2, v3, v4⟩ := store8_env W9 bu (.int .i64 10) (.int .i64 0) nilp nilp (ptr b8) nils nilm (.int .i64 0) W10 hW10
      rw [← hW10] at hb10 ho10
      obtain ⟨R, F⟩ := (R8.below K9).putT (w' := W10.drew) (tv := .same t) hq v1 v2 v3 (Nat.le_of_eq v4.symm) hb10 (fun i _ hi => ho10 i hi) ⟨ptr b8, ⟨b8, rfl, hb8⟩, rfl⟩
      have R2 := R
      simp only [hm] at R2
      exact ⟨rfl, G, (F8.trans (Fx.of_below K9)).trans F, R2⟩⟩
    clear F8 R8 XR8 hb8 hq hW9 K9 X9 R9 fr9 hb ht vv okth okf H8 hcu BU hwk hb10 ho10
    go_region_with (fail)
    all_goals go_wp2
    all_goals go_end0
    all_goals exact END.out _ rfl
/-- what is told -/
theorem tell_any {ar : List Nat} (h : Run w G rb mb mv s sh) {t : Nat} (hm : s.md = .tl t) (gd : Good ar s) (har : ar.length ≤ 1000000000) (hw : s.ws.length ≤ 1000000000) (ho : s.out.length + 1 ≤ 1000000000) : Calls Tryz.prog 52 #[ptr rb] w (Out w G rb mb mv (tellS s t) sh) := by
  cases e : s.ws with
  | nil =>
    rw [show tellS s t = { s with md := .rest t } by unfold tellS; rw [e]]
    exact tell_none h hm e
  | cons f r => exact tell_some h hm e gd har hw ho
end
end Go.Proofs.YtbajpejnnfacbaaGreatDoor.Lz
