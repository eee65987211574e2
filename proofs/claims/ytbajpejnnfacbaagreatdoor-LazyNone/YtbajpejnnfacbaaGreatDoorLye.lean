/- Package lazy: what the primitives of arrays tell. -/
import Derived.Test.YtbajpejnnfacbaaGreatDoorLyd
namespace Go.Proofs.YtbajpejnnfacbaaGreatDoor.Lz
open Go.RowKit
set_option linter.unusedVariables false
set_option linter.unusedSimpArgs false


section
variable {w w' : World} {G G' : Gm} {rb mb : Nat} {mv : Mv} {s : St} {sh : Int} {th : List T} {rows : List (List Nat)}
theorem prw_cell (h : Rep w G th rows) {j n g cap : Nat} (k : G g = some (.prow j)) {l : List Nat} (hr : rows[j]? = some l) {i b : Nat} (hi : i < l.length) (hb : G b = some (.thing (l.getD i 0))) : w.cell? ⟨g, i, none⟩ = some (ptr b) := by
  obtain ⟨l', c, e, hc, _, ht⟩ := h.cont g _ k
  rw [hr] at e
  cases e
  have eg : l[i]? = some (l.getD i 0) := by rw [List.getD_eq_getElem?_getD, List.getElem?_eq_getElem hi]; rfl
  obtain ⟨v, hv, b', rfl, hb'⟩ := ht i _ eg
  rw [h.one _ b b' hb hb']
  exact (Joins.cell_of_block hc i).trans hv
theorem num_cell (h : Rep w G th rows) {b t : Nat} (hb : G b = some (.thing t)) {x : Int} (ht : th[t]? = some (.num x)) : w.cell? ⟨b, 1, none⟩ = some (.int .i64 x) := by
  obtain ⟨tv, c, e, hc, q⟩ := h.cont b _ hb
  rw [ht] at e
  cases e
  cases q
  exact (show Bx w b _ 91 from hc).cell 1
set_option maxRecDepth 100000 in
set_option maxHeartbeats 2000000 in
theorem at14_any (h : Run w G rb mb mv s sh) {j n : Nat} {v : Value} (hv : pPrw G j n v) {l : List Nat} (hr : s.rows[j]? = some l) (hn : n = l.length) (ha : Args s.th 14 l) {al : List Nat} {i : Nat} (h0 : s.th[l.getD 0 0]? = some (.arr al)) (h1 : s.th[l.getD 1 0]? = some (.num i)) (hi : i < al.length) (hl : al.length ≤ 1024) :
    Calls Tryz.prog 91 #[ptr rb, v] w (Out w G rb mb mv { s with md := .kn (al.getD i 0) } sh) := by
  obtain ⟨g, cap, rfl, hg⟩ := prw_get h.rep hv hr hn
  have gt : G g = some (.prow j) := by obtain ⟨g', cap', e, _, q⟩ := hv; cases e; exact q
  have ln : l.length = 2 := by have := ha.1; simp [tA] at this; omega
  obtain ⟨b, cb, hb⟩ := hg 0 (by omega)
  obtain ⟨b1, cb1, hb1⟩ := hg 1 (by omega)
  have c1 := num_cell h.rep hb1 h1
  have IT := item_any h.drew.rep hb h0 hi hl
  have HH := Hid.mk h.drew
  have HB := Hid.mk (And.intro hb (And.intro hb1 (And.intro gt (And.intro hr (And.intro h1 ln)))))
  rw [hn, ln]
  clear h hv hg hr ha hn hb hb1 h0 h1 gt
  go_enter Tryz.func91, Tryz.ntmps91
  go_wp2
  go_region_held3 (fun w' => w'.cell? ⟨g, 0, none⟩ = some (ptr b) ∧ w'.cell? ⟨g, 1, none⟩ = some (ptr b1) ∧ w'.cell? ⟨b1, 1, none⟩ = some (.int .i64 i)) (go_keep) (first
    | (go_at_call 53; refine IT.mono ?_; rintro e w8 ⟨⟨v8, rfl, P8⟩, rfl⟩; have K := knows_any HH.out P8; obtain ⟨b8, rfl, _⟩ := P8)
    | (go_at_call 49; refine K.mono ?_; intro e w9 H9; have HE := Hid.mk (Out.from (Fx.drewL G w) H9); obtain ⟨rfl, G9, F9, R9⟩ := H9; have s0 := prw_cell (n := 0) (cap := 0) R9.rep (F9.le _ _ HB.out.2.2.1) HB.out.2.2.2.1 (i := 0) (by rw [HB.out.2.2.2.2.2]; decide) (F9.le _ _ HB.out.1); have s1 := prw_cell (n := 0) (cap := 0) R9.rep (F9.le _ _ HB.out.2.2.1) HB.out.2.2.2.1 (i := 1) (by rw [HB.out.2.2.2.2.2]; decide) (F9.le _ _ HB.out.2.1); have s2 := num_cell R9.rep (F9.le _ _ HB.out.2.1) HB.out.2.2.2.2.1; clear F9 R9))
  all_goals go_wp2
  all_goals go_end0
  all_goals exact HE.out
set_option maxRecDepth 100000 in
set_option maxHeartbeats 2000000 in
theorem put15_any (h : Run w G rb mb mv s sh) {j n : Nat} {v : Value} (hv : pPrw G j n v) {l : List Nat} (hr : s.rows[j]? = some l) (hn : n = l.length) (ha : Args s.th 15 l) {al : List Nat} {i : Nat} (h0 : s.th[l.getD 0 0]? = some (.arr al)) (h1 : s.th[l.getD 1 0]? = some (.num i)) (hi : i < al.length) (hl : al.length ≤ 1024) :
    Calls Tryz.prog 92 #[ptr rb, v] w (Out w G rb mb mv (tellNew { s with th := s.th.set (l.getD 0 0) (.arr (al.set i (l.getD 2 0))) } (.num 0)) sh) := by
  obtain ⟨g, cap, rfl, hg⟩ := prw_get h.rep hv hr hn
  have gt : G g = some (.prow j) := by obtain ⟨g', cap', e, _, q⟩ := hv; cases e; exact q
  have ln : l.length = 3 := by have := ha.1; simp [tA] at this; omega
  obtain ⟨b, cb, hb⟩ := hg 0 (by omega)
  obtain ⟨b1, cb1, hb1⟩ := hg 1 (by omega)
  obtain ⟨b2, cb2, hb2⟩ := hg 2 (by omega)
  have c1 := num_cell h.rep hb1 h1
  have PT := put_any h.drew.rep hb h0 hi hl ⟨b2, rfl, hb2⟩
  have HH := Hid.mk h.drew
  have ne : l.getD 0 0 ≠ l.getD 1 0 := fun e => by rw [e, h1] at h0; cases h0
  have h1' : (s.th.set (l.getD 0 0) (.arr (al.set i (l.getD 2 0))))[l.getD 1 0]? = some (.num i) := by rw [List.getElem?_set_ne ne]; exact h1
  have HB := Hid.mk (And.intro hb (And.intro hb1 (And.intro gt (And.intro hr (And.intro h1' (And.intro ln hb2))))))
  rw [hn, ln]
  clear h hv hg hr ha hn hb hb1 h0 h1 gt h1' hb2 ne
  go_enter Tryz.func92, Tryz.ntmps92
  go_wp2
  go_region_held3 (fun w' => w'.cell? ⟨g, 0, none⟩ = some (ptr b) ∧ w'.cell? ⟨g, 1, none⟩ = some (ptr b1) ∧ w'.cell? ⟨g, 2, none⟩ = some (ptr b2) ∧ w'.cell? ⟨b1, 1, none⟩ = some (.int .i64 i)) (go_keep) (first
    | (go_at_call 93; refine PT.mono ?_; rintro e w9 ⟨rfl, G9, F9, R9, O9⟩; have s0 := prw_cell (n := 0) (cap := 0) R9 (F9.le _ _ HB.out.2.2.1) HB.out.2.2.2.1 (i := 0) (by rw [HB.out.2.2.2.2.2.1]; decide) (F9.le _ _ HB.out.1); have s1 := prw_cell (n := 0) (cap := 0) R9 (F9.le _ _ HB.out.2.2.1) HB.out.2.2.2.1 (i := 1) (by rw [HB.out.2.2.2.2.2.1]; decide) (F9.le _ _ HB.out.2.1); have s2 := num_cell R9 (F9.le _ _ HB.out.2.1) HB.out.2.2.2.2.1; have s3 := prw_cell (n := 0) (cap := 0) R9 (F9.le _ _ HB.out.2.2.1) HB.out.2.2.2.1 (i := 2) (by rw [HB.out.2.2.2.2.2.1]; decide) (F9.le _ _ HB.out.2.2.2.2.2.2); have R10 := HH.out.next F9 O9 R9; have NA := numbered_any w9 0; have K := tellNum_out R10 0; have HF := Hid.mk ((Fx.drewL G w).trans F9); clear F9 R9 O9 R10))
  all_goals go_wp2_with (first | (go_at_call 35; refine NA.mono ?_; rintro e w8 ⟨rfl, rfl⟩) | (go_at_call 67; refine K.mono ?_; intro e w10 H9; have HE := Hid.mk (Out.from HF.out H9); obtain ⟨rfl, _⟩ := H9))
  all_goals go_end0
  all_goals exact HE.out
set_option maxRecDepth 100000 in
set_option maxHeartbeats 2000000 in
theorem itm_any (h : Run w G rb mb mv s sh) {j n k : Nat} {v : Value} (hv : pPrw G j n v) {l : List Nat} (hr : s.rows[j]? = some l) (hn : n = l.length) (hk : k = 14 ∨ k = 15) (ha : Args s.th k l) {ar : List Nat} (ok : okAll ar s.th) (hw : s.ws.length ≤ 1000000000) {nb : Nat} (hnb : G nb = some (.tbox (77 + k))) :
    Calls Tryz.prog 111 #[ptr rb, v, ptr nb] w (Out w G rb mb mv (primS s k l) sh) := by
  have hv0 := hv
  obtain ⟨g, cap, rfl, hg⟩ := prw_get h.rep hv hr hn
  have ln : 2 ≤ l.length := by have := ha.1; rcases hk with rfl | rfl <;> simp [tA] at this <;> omega
  obtain ⟨b, cb, hb⟩ := hg 0 (by omega)
  obtain ⟨b1, cb1, hb1⟩ := hg 1 (by omega)
  have K0 := ha.2.2 0 (by rcases hk with rfl | rfl <;> decide)
  have K1 := ha.2.2 1 (by rcases hk with rfl | rfl <;> decide)
  rw [show needI k ((0 : Nat) : Int) = 4 by rcases hk with rfl | rfl <;> rfl] at K0
  rw [show needI k ((1 : Nat) : Int) = 2 by rcases hk with rfl | rfl <;> rfl] at K1
  obtain ⟨al, h0⟩ := K0.arr
  obtain ⟨y, h1⟩ := K1.num
  have hl : al.length ≤ 1024 := (ok _ _ h0).1
  have c1 := num_cell h.rep hb1 h1
  have HO := holds_any h.drew.rep hb h0 y
  have e0 : thAt s (l.getD 0 0) = .arr al := thAt_some h0
  have e1 : thAt s (l.getD 1 0) = .num y := thAt_some h1
  have cn : w.cell? ⟨nb, 0, none⟩ = some (.func (.func (77 + k)) #[] #[]) := h.rep.cont nb _ hnb
  have l1 : (1 : Int) < n := by omega
  have l0 : (0 : Int) < n := by omega
  have m1 : 1 < n := by omega
  have m0 : 0 < n := by omega
  by_cases r : 0 ≤ y ∧ y < al.length
  · have q : decide (0 ≤ y ∧ y < numOf (.arr al)) = true := decide_eq_true r
    rw [q] at HO
    obtain ⟨i, rfl⟩ : ∃ i : Nat, y = i := ⟨y.toNat, by omega⟩
    have hi : i < al.length := by omega
    rcases hk with rfl | rfl
    · have ep : primS s 14 l = { s with md := .kn (al.getD i 0) } := by
        unfold primS
        simp only [e0, e1, numOf, itemsT]
        simp [r.2]
      rw [ep]
      have K := at14_any h.drew hv0 hr hn ha h0 h1 hi hl
      clear h hv hg hr ha hn hb hb1 h0 h1 e0 e1 ep K0 K1 hnb r q ok hv0
      go_enter Tryz.func111, Tryz.ntmps111
      go_wp2
      go_region_held3 (fun w' => w'.cell? ⟨g, 0, none⟩ = some (ptr b) ∧ w'.cell? ⟨g, 1, none⟩ = some (ptr b1) ∧ w'.cell? ⟨b1, 1, none⟩ = some (.int .i64 i)) (go_keep) (first
        | (go_at_call 112; refine HO.mono ?_; rintro e w8 ⟨rfl, rfl⟩))
      all_goals go_wp2_with (go_at_call 91; refine K.mono ?_; intro e w9 H9; have HE := Hid.mk (Out.from (Fx.drewL G w) H9); obtain ⟨rfl, _⟩ := H9)
      all_goals go_end0
      all_goals exact HE.out
    · have ep : primS s 15 l = tellNew { s with th := s.th.set (l.getD 0 0) (.arr (al.set i (l.getD 2 0))) } (.num 0) := by
        unfold primS
        simp only [e0, e1, numOf, itemsT]
        simp [r.2]
      rw [ep]
      have K := put15_any h.drew hv0 hr hn ha h0 h1 hi hl
      clear h hv hg hr ha hn hb hb1 h0 h1 e0 e1 ep K0 K1 hnb r q ok hv0
      go_enter Tryz.func111, Tryz.ntmps111
      go_wp2
      go_region_held3 (fun w' => w'.cell? ⟨g, 0, none⟩ = some (ptr b) ∧ w'.cell? ⟨g, 1, none⟩ = some (ptr b1) ∧ w'.cell? ⟨b1, 1, none⟩ = some (.int .i64 i)) (go_keep) (first
        | (go_at_call 112; refine HO.mono ?_; rintro e w8 ⟨rfl, rfl⟩))
      all_goals go_wp2_with (go_at_call 92; refine K.mono ?_; intro e w9 H9; have HE := Hid.mk (Out.from (Fx.drewL G w) H9); obtain ⟨rfl, _⟩ := H9)
      all_goals go_end0
      all_goals exact HE.out
  · have q : decide (0 ≤ y ∧ y < numOf (.arr al)) = false := decide_eq_false r
    rw [q] at HO
    have ep : primS s k l = failS s 45 := by
      rcases hk with rfl | rfl
      · unfold primS
        simp only [e0, e1, numOf]
        simp only [r, if_false]
        simp
      · unfold primS
        simp only [e0, e1, numOf]
        simp only [r, if_false]
        simp
    rw [ep]
    have K := fails_any h.drew 45 hw
    clear h hv hg hr ha hn hb hb1 h0 h1 e0 e1 ep K0 K1 hnb r q ok hv0
    go_enter Tryz.func111, Tryz.ntmps111
    go_wp2
    go_region_held3 (fun w' => w'.cell? ⟨g, 0, none⟩ = some (ptr b) ∧ w'.cell? ⟨g, 1, none⟩ = some (ptr b1) ∧ w'.cell? ⟨b1, 1, none⟩ = some (.int .i64 y)) (go_keep) (first
      | (go_at_call 112; refine HO.mono ?_; rintro e w8 ⟨rfl, rfl⟩))
    all_goals go_wp2_with (go_at_call 75; refine K.mono ?_; intro e w9 H9; have HE := Hid.mk (Out.from (Fx.drewL G w) H9); obtain ⟨rfl, _⟩ := H9)
    all_goals go_end0
    all_goals exact HE.out
end
end Go.Proofs.YtbajpejnnfacbaaGreatDoor.Lz
