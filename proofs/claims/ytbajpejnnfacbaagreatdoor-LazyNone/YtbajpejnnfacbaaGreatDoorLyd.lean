/- Package lazy: what primitives tell, those that change or reckon. -/
import Derived.Test.YtbajpejnnfacbaaGreatDoorLyc
namespace Go.Proofs.YtbajpejnnfacbaaGreatDoor.Lz
open Go.RowKit
set_option linter.unusedVariables false
set_option linter.unusedSimpArgs false


section
variable {w w' : World} {G G' : Gm} {rb mb : Nat} {mv : Mv} {s : St} {sh : Int}
theorem Run.drew (h : Run w G rb mb mv s sh) : Run w.drew G rb mb mv s sh := h.below ⟨rfl, rfl, rfl, Nat.le_refl _, fun _ _ => rfl⟩
theorem Fx.drewL (G : Gm) (w : World) : Fx G G w w.drew := ⟨rfl, rfl, rfl, Nat.le_refl _, fun _ _ _ => rfl, Le.refl _, fun _ _ q => q⟩
set_option maxRecDepth 100000 in
set_option maxHeartbeats 2000000 in
theorem set_any (h : Run w G rb mb mv s sh) {j n : Nat} {v : Value} (hv : pPrw G j n v) {l : List Nat} (hr : s.rows[j]? = some l) (hn : n = l.length) (ha : Args s.th 12 l) : Calls Tryz.prog 88 #[ptr rb, v] w (Out w G rb mb mv (primS s 12 l) sh) := by
  obtain ⟨g, cap, rfl, hg⟩ := prw_get h.rep hv hr hn
  have ln : l.length = 2 := by have := ha.1; simp [tA] at this; omega
  obtain ⟨b, cb, hb⟩ := hg 0 (by omega)
  obtain ⟨b1, cb1, hb1⟩ := hg 1 (by omega)
  obtain ⟨u, hu⟩ := Known.var (show Known s.th (l.getD 0 0) 3 from ha.2.2 0 (by decide))
  obtain ⟨tv, c, e, hc, q⟩ := h.rep.cont b _ hb
  rw [hu] at e
  cases e
  obtain ⟨o, ⟨bo, rfl, ho⟩, rfl⟩ := q
  have c4 := (show Bx w b _ 91 from hc).cell 4
  have z4 : w.frozen? ⟨b, 4, none⟩ = false := Joins.unfrozen_of_block hc 4
  obtain ⟨w1, hw1⟩ : ∃ w1, w1 = (w.setCell ⟨b, 4, none⟩ (ptr b1)).drew := ⟨_, rfl⟩
  have blk : w1.heap[b]? = some (.cells (thC 4 0 nilp nilp (ptr b1) nils nilm 0) 91 (0, 0)) := by rw [hw1]; exact Joins.block_setCell (i := 4) hc _
  have oth : ∀ i, i ≠ b → w1.heap[i]? = w.heap[i]? := fun i hi => by rw [hw1]; exact setCell_block _ _ _ _ hi
  obtain ⟨R1, F1⟩ := h.putT (w' := w1) (tv := .var (l.getD 1 0)) hb (by rw [hw1]; rfl) (by rw [hw1]; rfl) (by rw [hw1]; rfl) (by rw [hw1]; exact Nat.le_of_eq (size_set _ _ _).symm) blk (fun i _ hi => oth i hi) ⟨_, ⟨b1, rfl, hb1⟩, rfl⟩
  have NA := numbered_any w1 0
  have K := tellNum_out R1 0
  have ep : primS s 12 l = tellNew { s with th := s.th.set (l.getD 0 0) (.var (l.getD 1 0)) } (.num 0) := by unfold primS; simp
  have HF := Hid.mk F1
  have gb : ¬ g = b := fun z => by
    obtain ⟨g', cap', e, _, hgg⟩ := hv
    cases e
    rw [z, hb] at hgg; cases hgg
  have gb' : ¬ b = g := fun z => gb z.symm
  rw [ep, hn, ln]
  clear h hv hg hr ha hn hb hb1 hu hc ho ep blk oth R1 F1
  go_enter Tryz.func88, Tryz.ntmps88
  go_wp2
  go_region_held3 (fun w' => w'.cell? ⟨g, 0, none⟩ = some (ptr b) ∧ w'.cell? ⟨g, 1, none⟩ = some (ptr b1)) (go_keep) (fail)
  rw [← hw1]
  clear hw1 c4 z4 cb cb1
  go_wp2_with (first | (go_at_call 35; refine NA.mono ?_; rintro e w8 ⟨rfl, rfl⟩) | (go_at_call 67; refine K.mono ?_; intro e w9 H9; have HE := Hid.mk (Out.from HF.out H9); obtain ⟨rfl, _⟩ := H9))
  go_end0
  exact HE.out
set_option maxRecDepth 100000 in
set_option maxHeartbeats 2000000 in
theorem num_any (h : Run w G rb mb mv s sh) {j n k : Nat} {v : Value} (hv : pPrw G j n v) {l : List Nat} (hr : s.rows[j]? = some l) (hn : n = l.length) (h1 : 1 ≤ k) (h7 : k ≤ 7) (ha : Args s.th k l) (hw : s.ws.length ≤ 1000000000) {nb : Nat} (hnb : G nb = some (.nbox k)) :
    Calls Tryz.prog 113 #[ptr rb, v, ptr nb] w (Out w G rb mb mv (primS s k l) sh) := by
  obtain ⟨g, cap, rfl, hg⟩ := prw_get h.rep hv hr hn
  have kk : k = 1 ∨ k = 2 ∨ k = 3 ∨ k = 4 ∨ k = 5 ∨ k = 6 ∨ k = 7 := by omega
  have ta : tA k = 2 := by rcases kk with rfl | rfl | rfl | rfl | rfl | rfl | rfl <;> rfl
  have t0 : needI k 0 = 2 := by rcases kk with rfl | rfl | rfl | rfl | rfl | rfl | rfl <;> rfl
  have t1 : needI k 1 = 2 := by rcases kk with rfl | rfl | rfl | rfl | rfl | rfl | rfl <;> rfl
  have ln : l.length = 2 := by have := ha.1; omega
  obtain ⟨b, cb, hb⟩ := hg 0 (by omega)
  obtain ⟨b1, cb1, hb1⟩ := hg 1 (by omega)
  have K0 := ha.2.2 0 (by rw [ta]; decide)
  have K1 := ha.2.2 1 (by rw [ta]; decide)
  rw [show needI k ((0 : Nat) : Int) = 2 from t0] at K0
  rw [show needI k ((1 : Nat) : Int) = 2 from t1] at K1
  obtain ⟨x, hx⟩ := K0.num
  obtain ⟨y, hy⟩ := K1.num
  obtain ⟨tv, c, e, hc, q⟩ := h.rep.cont b _ hb
  rw [hx] at e
  cases e
  cases q
  obtain ⟨tv, c, e, hc1, q⟩ := h.rep.cont b1 _ hb1
  rw [hy] at e
  cases e
  cases q
  have c1 := (show Bx w b _ 91 from hc).cell 1
  have d1 := (show Bx w b1 _ 91 from hc1).cell 1
  have cn : w.cell? ⟨nb, 0, none⟩ = some (.int .i64 k) := h.rep.cont nb _ hnb
  have e0 : thAt s (l.getD 0 0) = .num x := thAt_some hx
  have e1 : thAt s (l.getD 1 0) = .num y := thAt_some hy
  have ep : primS s k l = if (doI k x y).2 = 0 then tellNew s (.num (doI k x y).1) else failS s (doI k x y).2 := by
    unfold primS
    simp only [e0, e1]
    rw [if_neg (by omega), if_neg (by omega), if_neg (by omega), if_neg (by omega), if_neg (by omega), if_neg (by omega), if_neg (by omega), if_neg (by omega), if_neg (by omega)]
    rfl
  rw [ep, hn, ln]
  have DO := do_tup k x y w.drew (Table.of_block h.tab h.pos rfl)
  have HH := Hid.mk h
  have lts : b < w.heap.size ∧ b1 < w.heap.size ∧ g < w.heap.size ∧ nb < w.heap.size := ⟨h.rep.lt hb, h.rep.lt hb1, World.block_lt_of_cell? _ _ cb, h.rep.lt hnb⟩
  generalize (doI k x y).1 = r1 at *
  generalize hr2 : (doI k x y).2 = r2 at *
  obtain ⟨l1, l2, l3, l4⟩ := lts
  clear h hv hg hr ha hn hb hb1 hx hy hc hc1 e0 e1 ep K0 K1 hnb kk t0 t1 hr2
  by_cases z : r2 = 0
  · subst z
    rw [if_pos rfl]
    go_enter Tryz.func113, Tryz.ntmps113
    go_wp2
    go_region_held3 (fun w' => w'.cell? ⟨g, 0, none⟩ = some (ptr b) ∧ w'.cell? ⟨g, 1, none⟩ = some (ptr b1) ∧ w'.cell? ⟨b, 1, none⟩ = some (.int .i64 x) ∧ w'.cell? ⟨b1, 1, none⟩ = some (.int .i64 y) ∧ w'.cell? ⟨nb, 0, none⟩ = some (.int .i64 k)) (go_keep) (first
      | (go_at_call 114; refine DO.mono ?_; rintro e w8 ⟨rfl, B8⟩; have B8' : Below w.heap.size w w8 := (Below.refl _ _).drew.trans B8; have s0 : w8.cell? ⟨g, 0, none⟩ = some (ptr b) := (B8'.cell l3).trans cb; have s1 : w8.cell? ⟨g, 1, none⟩ = some (ptr b1) := (B8'.cell l3).trans cb1; have s2 : w8.cell? ⟨b, 1, none⟩ = some (.int .i64 x) := (B8'.cell l1).trans c1; have s3 : w8.cell? ⟨b1, 1, none⟩ = some (.int .i64 y) := (B8'.cell l2).trans d1; have s4 : w8.cell? ⟨nb, 0, none⟩ = some (.int .i64 k) := (B8'.cell l4).trans cn; have HB := Hid.mk B8'; have NA := numbered_any w8 r1; have K := tellNum_out (HH.out.below B8') r1; clear B8 B8'))
    all_goals go_wp2_with (first | (go_at_call 35; refine NA.mono ?_; rintro e w8 ⟨rfl, rfl⟩) | (go_at_call 67; refine K.mono ?_; intro e w9 H9; have HE := Hid.mk (Out.from (Fx.of_below HB.out) H9); obtain ⟨rfl, _⟩ := H9))
    all_goals go_end0
    all_goals exact HE.out
  · rw [if_neg z]
    have g0 : (r2 == 0) = false := beq_eq_false_iff_ne.2 z
    have g0' : (r2 != 0) = true := by simp [z]
    go_enter Tryz.func113, Tryz.ntmps113
    go_wp2
    go_region_held3 (fun w' => w'.cell? ⟨g, 0, none⟩ = some (ptr b) ∧ w'.cell? ⟨g, 1, none⟩ = some (ptr b1) ∧ w'.cell? ⟨b, 1, none⟩ = some (.int .i64 x) ∧ w'.cell? ⟨b1, 1, none⟩ = some (.int .i64 y) ∧ w'.cell? ⟨nb, 0, none⟩ = some (.int .i64 k)) (go_keep) (first
      | (go_at_call 114; refine DO.mono ?_; rintro e w8 ⟨rfl, B8⟩; have B8' : Below w.heap.size w w8 := (Below.refl _ _).drew.trans B8; have s0 : w8.cell? ⟨g, 0, none⟩ = some (ptr b) := (B8'.cell l3).trans cb; have s1 : w8.cell? ⟨g, 1, none⟩ = some (ptr b1) := (B8'.cell l3).trans cb1; have s2 : w8.cell? ⟨b, 1, none⟩ = some (.int .i64 x) := (B8'.cell l1).trans c1; have s3 : w8.cell? ⟨b1, 1, none⟩ = some (.int .i64 y) := (B8'.cell l2).trans d1; have s4 : w8.cell? ⟨nb, 0, none⟩ = some (.int .i64 k) := (B8'.cell l4).trans cn; have HB := Hid.mk B8'; have K := fails_any (HH.out.below B8') r2 hw; clear B8 B8'))
    all_goals go_wp2_with (go_at_call 75; refine K.mono ?_; intro e w9 H9; have HE := Hid.mk (Out.from (Fx.of_below HB.out) H9); obtain ⟨rfl, _⟩ := H9)
    all_goals go_end0
    all_goals exact HE.out
end
end Go.Proofs.YtbajpejnnfacbaaGreatDoor.Lz
