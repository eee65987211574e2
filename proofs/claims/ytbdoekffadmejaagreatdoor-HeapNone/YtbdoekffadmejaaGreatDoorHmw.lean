/- Package heap: a closure stands in its list just if it must; which closures of a list have a pointer to what was set aside. -/
import Derived.Test.YtbdoekffadmejaaGreatDoorHmv
namespace Go.Proofs.YtbdoekffadmejaaGreatDoor
open Go.RowKit
set_option linter.unusedVariables false
set_option linter.unusedSimpArgs false
set_option maxRecDepth 100000

section
variable {w w' : World} {γ γ' : Nat → Tg} {h : Nat} {k : Value} {A : Ad} {H : Hs} {B : Wa} {K : Wk}
/-- The lists behind Finish's enlist. -/
def enL (H : Hs) (x : Int) : Nat → List Int := if anyP (fun p => youngB H p x) H x = true then Rm.putS H.c.g H.L (genN H x) x else Rm.dropS H.c.g H.L (genN H x) x
set_option maxHeartbeats 1000000 in
theorem enlist_any (q : Hm w γ h k A H) (x : Int) (hx : 0 ≤ x ∧ x ≤ 900000) :
    Calls Tryz.prog 83 #[pt h, .int .i64 x] w fun e w' => e = .returned (.tuple #[]) ∧ ∃ γ', Fr (fun t => t = .lm false) w w' γ γ' ∧ Hm w' γ' h k A { H with L := enL H x } := by
  have fl := fldg
  have q1 := q.alloc (.cells #[pt h] 38) (.x 0)
  have q2 := q1.alloc (.cells #[.int .i64 x] 3) (.x 0)
  have F1 := Fr.alloc (fun t => t = .lm false) w γ (.cells #[pt h] 38) (.x 0)
  have F2 := Fr.alloc (fun t => t = .lm false) (w.alloc (.cells #[pt h] 38)) (tagd γ w.heap.size (.x 0)) (.cells #[.int .i64 x] 3) (.x 0)
  rw [World.size_alloc] at q2 F2
  have c1 : ((w.alloc (.cells #[pt h] 38)).alloc (.cells #[.int .i64 x] 3)).cell? ⟨w.heap.size, 0, none⟩ = some (pt h) := ((Below.refl _ _).alloc (Nat.le_refl _) _).cell (p := ⟨w.heap.size, 0, none⟩) (by simp) |>.trans (cell_new1 w _ 38)
  have c2 : ((w.alloc (.cells #[pt h] 38)).alloc (.cells #[.int .i64 x] 3)).cell? ⟨w.heap.size + 1, 0, none⟩ = some (.int .i64 x) := by
    have t := cell_new1 (w.alloc (.cells #[pt h] 38)) (.int .i64 x) 3
    rw [World.size_alloc] at t
    exact t
  have Y := has_younger q2 (b1 := w.heap.size) (b2 := w.heap.size + 1) x hx c1 c2
  have HX : Hid (isI x) := ⟨⟨by omega, by omega⟩⟩
  have HF0 := Hid.mk (F1.trans F2)
  have HQ0 := Hid.mk q2
  have HT1 : Hid (tagd (tagd γ w.heap.size (.x 0)) (w.heap.size + 1) (.x 0) w.heap.size = .x 0) := ⟨by rw [tagd_ne _ (by omega), tagd_same]⟩
  have HT2 : Hid (tagd (tagd γ w.heap.size (.x 0)) (w.heap.size + 1) (.x 0) (w.heap.size + 1) = .x 0) := ⟨tagd_same _ _ _⟩
  unfold enL genN
  obtain ⟨y, hy0⟩ : ∃ y, (H.wh x).getD (0, 0) = y := ⟨_, rfl⟩
  rw [hy0]
  have HY := Hid.mk hy0
  clear hy0 F1 F2 q1 q2 q
  generalize tagd (tagd γ w.heap.size (.x 0)) (w.heap.size + 1) (.x 0) = γ1 at *
  cases hy : anyP (fun p => youngB H p x) H x with
  | true =>
    rw [hy] at Y
    rw [if_pos rfl]
    clear hy
    go_enter Tryz.func83, Tryz.ntmps83
    go_wp2_with (go_at_call 134; refine Y.mono ?_; rintro e w2 ⟨rfl, B2⟩; have HB2 := Hid.mk B2; have d1 := (B2.cell (World.block_lt_of_cell? _ _ c1)).trans c1; have d2 := (B2.cell (World.block_lt_of_cell? _ _ c2)).trans c2; have HQ := Hid.mk (HQ0.out.later (B2.trans ((below_drew1 w2).mono B2.size))); clear B2 Y)
    have d1 : w2.drew.cell? ⟨w.heap.size, 0, none⟩ = some (pt h) := d1
    have d2 : w2.drew.cell? ⟨w.heap.size + 1, 0, none⟩ = some (.int .i64 x) := d2
    have d8 := HQ.out.cw
    have d9 := HQ.out.cl
    have HWM := Hid.mk HQ.out.wh
    have PU := put_li HQ.out.li (genN H x) x
    have HFR := Hid.mk (HF0.out.trans (Fr.later (fun t => t = .lm false) _ (HB2.out.trans ((below_drew1 w2).mono HB2.out.size))))
    unfold genN at PU
    rw [HY.out] at PU
    refine wp_region_held_drew (S := (fun wx => wx.cell? ⟨w.heap.size, 0, none⟩ = some (pt h) ∧ wx.cell? ⟨w.heap.size + 1, 0, none⟩ = some (.int .i64 x) ∧ wx.cell? ⟨h, 9, none⟩ = some (pt A.l) ∧ wx.cell? ⟨h, 8, none⟩ = some (.map (some A.wm)) ∧ WM wx A.wm A.wn H.wh)) (by kernel_rfl) ⟨d1, d2, d9, d8, HWM.out⟩ (fun hHeld => ?_)
    refine wpAnyH_take (i := 0) (v := ?_) rfl (by kernel_rfl) (by kernel_rfl) (by kernel_rfl) (fun _ _ _ h => h) (Or.inl ⟨by rfl, ?_⟩) (by assumption) ?_
    rotate_left
    · intro w' hSw
      try dsimp only at hSw
      go_simp
      try with_reducible rfl
    try simp only [Act.put, List.getElem_toArray, List.getElem_cons_zero, List.getElem_cons_succ, List.setIfInBounds_toArray, List.set_cons_zero, List.set_cons_succ]
    refine wpAnyH_take (i := 1) (v := ?_) rfl (by kernel_rfl) (by kernel_rfl) (by kernel_rfl) (fun _ _ _ h => h) (Or.inl ⟨by rfl, ?_⟩) (by assumption) ?_
    rotate_left
    · intro w' hSw
      try dsimp only at hSw
      go_simp
      try with_reducible rfl
    try simp only [Act.put, List.getElem_toArray, List.getElem_cons_zero, List.getElem_cons_succ, List.setIfInBounds_toArray, List.set_cons_zero, List.set_cons_succ]
    refine wpAnyH_take (i := 2) (v := ?_) rfl (by kernel_rfl) (by kernel_rfl) (by kernel_rfl) (fun _ _ _ h => h) (Or.inl ⟨by rfl, ?_⟩) (by assumption) ?_
    rotate_left
    · intro w' hSw
      try dsimp only at hSw
      go_simp
      try with_reducible rfl
    try simp only [Act.put, List.getElem_toArray, List.getElem_cons_zero, List.getElem_cons_succ, List.setIfInBounds_toArray, List.set_cons_zero, List.set_cons_succ]
    refine wpAnyH_take (i := 3) (v := ?_) rfl (by kernel_rfl) (by kernel_rfl) (by kernel_rfl) (fun _ _ _ h => h) (Or.inl ⟨by rfl, ?_⟩) (by assumption) ?_
    rotate_left
    · intro w' hSw
      try dsimp only at hSw
      go_simp
      try with_reducible rfl
    try simp only [Act.put, List.getElem_toArray, List.getElem_cons_zero, List.getElem_cons_succ, List.setIfInBounds_toArray, List.set_cons_zero, List.set_cons_succ]
    refine wpAnyH_take (i := 4) (v := ?_) rfl (by kernel_rfl) (by kernel_rfl) (by kernel_rfl) (fun _ _ _ h => h) (Or.inl ⟨by rfl, ?_⟩) (by assumption) ?_
    rotate_left
    · intro w' hSw
      try dsimp only at hSw
      go_simp
      try with_reducible rfl
    try simp only [Act.put, List.getElem_toArray, List.getElem_cons_zero, List.getElem_cons_succ, List.setIfInBounds_toArray, List.set_cons_zero, List.set_cons_succ]
    refine wpAnyH_take (i := 5) (v := ?_) rfl (by kernel_rfl) (by kernel_rfl) (by kernel_rfl) (fun _ _ _ h => h) (Or.inl ⟨by rfl, ?_⟩) (by assumption) ?_
    rotate_left
    · intro w' hSw
      try dsimp only at hSw
      go_simp
      try with_reducible rfl
    try simp only [Act.put, List.getElem_toArray, List.getElem_cons_zero, List.getElem_cons_succ, List.setIfInBounds_toArray, List.set_cons_zero, List.set_cons_succ]
    refine wpAnyH_take (i := 6) (v := ?_) rfl (by kernel_rfl) (by kernel_rfl) (by kernel_rfl) (fun _ _ _ h => h) (Or.inl ⟨by rfl, ?_⟩) (by assumption) ?_
    rotate_left
    · intro w' hSw
      try dsimp only at hSw
      go_simp
      try with_reducible rfl
    try simp only [Act.put, List.getElem_toArray, List.getElem_cons_zero, List.getElem_cons_succ, List.setIfInBounds_toArray, List.set_cons_zero, List.set_cons_succ]
    refine wpAnyH_take (i := 7) (v := ?_) rfl (by kernel_rfl) (by kernel_rfl) (by kernel_rfl) (fun _ _ _ h => h) (Or.inl ⟨by rfl, ?_⟩) (by assumption) ?_
    rotate_left
    · intro w' hSw
      try dsimp only at hSw
      go_simp
      try with_reducible rfl
    try simp only [Act.put, List.getElem_toArray, List.getElem_cons_zero, List.getElem_cons_succ, List.setIfInBounds_toArray, List.set_cons_zero, List.set_cons_succ]
    refine wpAnyH_take (i := 8) (v := ?_) rfl (by kernel_rfl) (by kernel_rfl) (by kernel_rfl) (fun _ _ _ h => h) (Or.inl ⟨by rfl, ?_⟩) (by assumption) ?_
    rotate_left
    · intro w' hSw
      try dsimp only at hSw
      go_simp
      try with_reducible rfl
    try simp only [Act.put, List.getElem_toArray, List.getElem_cons_zero, List.getElem_cons_succ, List.setIfInBounds_toArray, List.set_cons_zero, List.set_cons_succ]
    refine wpAnyH_take (i := 9) (v := plc y) rfl (by kernel_rfl) (by kernel_rfl) (by kernel_rfl) (fun _ _ _ h => h) (Or.inl ⟨by rfl, ?_⟩) (by assumption) ?_
    · intro w' hSw
      have hlk := hSw.2.2.2.2.look1 HX.out
      rw [HY.out] at hlk
      go_simp
      try with_reducible rfl
    try simp only [Act.put, List.getElem_toArray, List.getElem_cons_zero, List.getElem_cons_succ, List.setIfInBounds_toArray, List.set_cons_zero, List.set_cons_succ]
    refine wpAnyH_take (i := 10) (v := ?_) rfl (by kernel_rfl) (by kernel_rfl) (by kernel_rfl) (fun _ _ _ h => h) (Or.inl ⟨by rfl, ?_⟩) (by assumption) ?_
    rotate_left
    · intro w' hSw
      try dsimp only at hSw
      go_simp
      try with_reducible rfl
    try simp only [Act.put, List.getElem_toArray, List.getElem_cons_zero, List.getElem_cons_succ, List.setIfInBounds_toArray, List.set_cons_zero, List.set_cons_succ]
    refine wpAnyH_take (i := 11) (v := ?_) rfl (by kernel_rfl) (by kernel_rfl) (by kernel_rfl) (fun _ _ _ h => h) (Or.inl ⟨by rfl, ?_⟩) (by assumption) ?_
    rotate_left
    · intro w' hSw
      try dsimp only at hSw
      go_simp
      try with_reducible rfl
    try simp only [Act.put, List.getElem_toArray, List.getElem_cons_zero, List.getElem_cons_succ, List.setIfInBounds_toArray, List.set_cons_zero, List.set_cons_succ]
    refine wpAnyH_ready (rs := [12]) (by kernel_rfl) (by simp) ?_
    refine AllReadyH.cons rfl (fun K hK => ?_) AllReadyH.nil
    go_simp
    (go_at_call 127; refine PU.mono ?_; rintro e w3 ⟨rfl, L3, F3⟩; have f1 := cell_fr F3 d1 (by rw [HT1.out]; nofun); have f2 := cell_fr F3 d2 (by rw [HT2.out]; nofun); have f9 := cell_fr F3 d9 (by rw [HQ.out.tag]; nofun); have f8 := cell_fr F3 d8 (by rw [HQ.out.tag]; nofun); have HM3 := Hid.mk (HWM.out.fr F3 (by rw [HQ.out.whT]; nofun)); have HL3 := Hid.mk L3; have HF3 := Hid.mk F3; clear L3 F3)
    try go_wp2_with fail
    refine hK.out _ _ ⟨f1, f2, f9, f8, HM3.out⟩ (fun hHeld => ?_)
    clear hK K
    try simp only [Act.put, List.getElem_toArray, List.getElem_cons_zero, List.getElem_cons_succ, List.setIfInBounds_toArray, List.set_cons_zero, List.set_cons_succ]
    refine wpAnyH_done (by kernel_rfl) ?_ _
    go_wp2
    go_end0
    exact ⟨rfl, _, HFR.out.trans HF3.out, HQ.out.lists HL3.out (HF3.out.mono (fun t e => .inl e))⟩
  | false =>
    rw [hy] at Y
    rw [if_neg (by decide)]
    clear hy
    go_enter Tryz.func83, Tryz.ntmps83
    go_wp2_with (go_at_call 134; refine Y.mono ?_; rintro e w2 ⟨rfl, B2⟩; have HB2 := Hid.mk B2; have d1 := (B2.cell (World.block_lt_of_cell? _ _ c1)).trans c1; have d2 := (B2.cell (World.block_lt_of_cell? _ _ c2)).trans c2; have HQ := Hid.mk (HQ0.out.later (B2.trans ((below_drew1 w2).mono B2.size))); clear B2 Y)
    have d1 : w2.drew.cell? ⟨w.heap.size, 0, none⟩ = some (pt h) := d1
    have d2 : w2.drew.cell? ⟨w.heap.size + 1, 0, none⟩ = some (.int .i64 x) := d2
    have d8 := HQ.out.cw
    have d9 := HQ.out.cl
    have HWM := Hid.mk HQ.out.wh
    have PU := drop_li HQ.out.li (genN H x) x
    have HFR := Hid.mk (HF0.out.trans (Fr.later (fun t => t = .lm false) _ (HB2.out.trans ((below_drew1 w2).mono HB2.out.size))))
    unfold genN at PU
    rw [HY.out] at PU
    refine wp_region_held_drew (S := (fun wx => wx.cell? ⟨w.heap.size, 0, none⟩ = some (pt h) ∧ wx.cell? ⟨w.heap.size + 1, 0, none⟩ = some (.int .i64 x) ∧ wx.cell? ⟨h, 9, none⟩ = some (pt A.l) ∧ wx.cell? ⟨h, 8, none⟩ = some (.map (some A.wm)) ∧ WM wx A.wm A.wn H.wh)) (by kernel_rfl) ⟨d1, d2, d9, d8, HWM.out⟩ (fun hHeld => ?_)
    refine wpAnyH_take (i := 0) (v := ?_) rfl (by kernel_rfl) (by kernel_rfl) (by kernel_rfl) (fun _ _ _ h => h) (Or.inl ⟨by rfl, ?_⟩) (by assumption) ?_
    rotate_left
    · intro w' hSw
      try dsimp only at hSw
      go_simp
      try with_reducible rfl
    try simp only [Act.put, List.getElem_toArray, List.getElem_cons_zero, List.getElem_cons_succ, List.setIfInBounds_toArray, List.set_cons_zero, List.set_cons_succ]
    refine wpAnyH_take (i := 1) (v := ?_) rfl (by kernel_rfl) (by kernel_rfl) (by kernel_rfl) (fun _ _ _ h => h) (Or.inl ⟨by rfl, ?_⟩) (by assumption) ?_
    rotate_left
    · intro w' hSw
      try dsimp only at hSw
      go_simp
      try with_reducible rfl
    try simp only [Act.put, List.getElem_toArray, List.getElem_cons_zero, List.getElem_cons_succ, List.setIfInBounds_toArray, List.set_cons_zero, List.set_cons_succ]
    refine wpAnyH_take (i := 2) (v := ?_) rfl (by kernel_rfl) (by kernel_rfl) (by kernel_rfl) (fun _ _ _ h => h) (Or.inl ⟨by rfl, ?_⟩) (by assumption) ?_
    rotate_left
    · intro w' hSw
      try dsimp only at hSw
      go_simp
      try with_reducible rfl
    try simp only [Act.put, List.getElem_toArray, List.getElem_cons_zero, List.getElem_cons_succ, List.setIfInBounds_toArray, List.set_cons_zero, List.set_cons_succ]
    refine wpAnyH_take (i := 3) (v := ?_) rfl (by kernel_rfl) (by kernel_rfl) (by kernel_rfl) (fun _ _ _ h => h) (Or.inl ⟨by rfl, ?_⟩) (by assumption) ?_
    rotate_left
    · intro w' hSw
      try dsimp only at hSw
      go_simp
      try with_reducible rfl
    try simp only [Act.put, List.getElem_toArray, List.getElem_cons_zero, List.getElem_cons_succ, List.setIfInBounds_toArray, List.set_cons_zero, List.set_cons_succ]
    refine wpAnyH_take (i := 4) (v := ?_) rfl (by kernel_rfl) (by kernel_rfl) (by kernel_rfl) (fun _ _ _ h => h) (Or.inl ⟨by rfl, ?_⟩) (by assumption) ?_
    rotate_left
    · intro w' hSw
      try dsimp only at hSw
      go_simp
      try with_reducible rfl
    try simp only [Act.put, List.getElem_toArray, List.getElem_cons_zero, List.getElem_cons_succ, List.setIfInBounds_toArray, List.set_cons_zero, List.set_cons_succ]
    refine wpAnyH_take (i := 5) (v := ?_) rfl (by kernel_rfl) (by kernel_rfl) (by kernel_rfl) (fun _ _ _ h => h) (Or.inl ⟨by rfl, ?_⟩) (by assumption) ?_
    rotate_left
    · intro w' hSw
      try dsimp only at hSw
      go_simp
      try with_reducible rfl
    try simp only [Act.put, List.getElem_toArray, List.getElem_cons_zero, List.getElem_cons_succ, List.setIfInBounds_toArray, List.set_cons_zero, List.set_cons_succ]
    refine wpAnyH_take (i := 6) (v := ?_) rfl (by kernel_rfl) (by kernel_rfl) (by kernel_rfl) (fun _ _ _ h => h) (Or.inl ⟨by rfl, ?_⟩) (by assumption) ?_
    rotate_left
    · intro w' hSw
      try dsimp only at hSw
      go_simp
      try with_reducible rfl
    try simp only [Act.put, List.getElem_toArray, List.getElem_cons_zero, List.getElem_cons_succ, List.setIfInBounds_toArray, List.set_cons_zero, List.set_cons_succ]
    refine wpAnyH_take (i := 7) (v := ?_) rfl (by kernel_rfl) (by kernel_rfl) (by kernel_rfl) (fun _ _ _ h => h) (Or.inl ⟨by rfl, ?_⟩) (by assumption) ?_
    rotate_left
    · intro w' hSw
      try dsimp only at hSw
      go_simp
      try with_reducible rfl
    try simp only [Act.put, List.getElem_toArray, List.getElem_cons_zero, List.getElem_cons_succ, List.setIfInBounds_toArray, List.set_cons_zero, List.set_cons_succ]
    refine wpAnyH_take (i := 8) (v := ?_) rfl (by kernel_rfl) (by kernel_rfl) (by kernel_rfl) (fun _ _ _ h => h) (Or.inl ⟨by rfl, ?_⟩) (by assumption) ?_
    rotate_left
    · intro w' hSw
      try dsimp only at hSw
      go_simp
      try with_reducible rfl
    try simp only [Act.put, List.getElem_toArray, List.getElem_cons_zero, List.getElem_cons_succ, List.setIfInBounds_toArray, List.set_cons_zero, List.set_cons_succ]
    refine wpAnyH_take (i := 9) (v := plc y) rfl (by kernel_rfl) (by kernel_rfl) (by kernel_rfl) (fun _ _ _ h => h) (Or.inl ⟨by rfl, ?_⟩) (by assumption) ?_
    · intro w' hSw
      have hlk := hSw.2.2.2.2.look1 HX.out
      rw [HY.out] at hlk
      go_simp
      try with_reducible rfl
    try simp only [Act.put, List.getElem_toArray, List.getElem_cons_zero, List.getElem_cons_succ, List.setIfInBounds_toArray, List.set_cons_zero, List.set_cons_succ]
    refine wpAnyH_take (i := 10) (v := ?_) rfl (by kernel_rfl) (by kernel_rfl) (by kernel_rfl) (fun _ _ _ h => h) (Or.inl ⟨by rfl, ?_⟩) (by assumption) ?_
    rotate_left
    · intro w' hSw
      try dsimp only at hSw
      go_simp
      try with_reducible rfl
    try simp only [Act.put, List.getElem_toArray, List.getElem_cons_zero, List.getElem_cons_succ, List.setIfInBounds_toArray, List.set_cons_zero, List.set_cons_succ]
    refine wpAnyH_take (i := 11) (v := ?_) rfl (by kernel_rfl) (by kernel_rfl) (by kernel_rfl) (fun _ _ _ h => h) (Or.inl ⟨by rfl, ?_⟩) (by assumption) ?_
    rotate_left
    · intro w' hSw
      try dsimp only at hSw
      go_simp
      try with_reducible rfl
    try simp only [Act.put, List.getElem_toArray, List.getElem_cons_zero, List.getElem_cons_succ, List.setIfInBounds_toArray, List.set_cons_zero, List.set_cons_succ]
    refine wpAnyH_ready (rs := [12]) (by kernel_rfl) (by simp) ?_
    refine AllReadyH.cons rfl (fun K hK => ?_) AllReadyH.nil
    go_simp
    (go_at_call 139; refine PU.mono ?_; rintro e w3 ⟨rfl, L3, F3⟩; have f1 := cell_fr F3 d1 (by rw [HT1.out]; nofun); have f2 := cell_fr F3 d2 (by rw [HT2.out]; nofun); have f9 := cell_fr F3 d9 (by rw [HQ.out.tag]; nofun); have f8 := cell_fr F3 d8 (by rw [HQ.out.tag]; nofun); have HM3 := Hid.mk (HWM.out.fr F3 (by rw [HQ.out.whT]; nofun)); have HL3 := Hid.mk L3; have HF3 := Hid.mk F3; clear L3 F3)
    try go_wp2_with fail
    refine hK.out _ _ ⟨f1, f2, f9, f8, HM3.out⟩ (fun hHeld => ?_)
    clear hK K
    try simp only [Act.put, List.getElem_toArray, List.getElem_cons_zero, List.getElem_cons_succ, List.setIfInBounds_toArray, List.set_cons_zero, List.set_cons_succ]
    refine wpAnyH_done (by kernel_rfl) ?_ _
    go_wp2
    go_end0
    exact ⟨rfl, _, HFR.out.trans HF3.out, HQ.out.lists HL3.out (HF3.out.mono (fun t e => .inl e))⟩

theorem aside80 (q : Wm w γ h A H B K) (x : Int) (hx : 0 ≤ x ∧ x ≤ 900000) :
    Calls Tryz.prog 80 #[pt h, .int .i64 x] w fun e w' => e = .returned (.bool (anyP (fun p => (K.av p).isSome) H x)) ∧ Below w.heap.size w w' := by
  have Y := has_aside q x hx
  clear q
  go_enter Tryz.func80, Tryz.ntmps80
  go_wp2_with (go_at_call 134; refine Y.mono ?_; rintro e w1 ⟨rfl, B1⟩)
  go_ret
  exact ⟨rfl, B1⟩
theorem row_item {w : World} {base n : Nat} {e : TypeId} {v : Value} {xs : List Value} (h : w.ownsRow base e 1 v n xs) : ∃ ga cap, v = .slice ga n cap ∧ ∀ j, j < n → ∃ b, ga = some ⟨b, 0, none⟩ ∧ b < w.heap.size ∧ w.cell? ⟨b, j, none⟩ = xs[j]? := by
  rcases h.2 with ⟨e0, h0⟩ | ⟨b, cap, cur, rfl, hb, hg, X⟩
  · exact ⟨none, 0, by rw [e0, h0], fun j hj => by omega⟩
  · refine ⟨_, _, rfl, fun j hj => ⟨b, rfl, lt_of hg, ?_⟩⟩
    have := h.cellAt j (by omega)
    simpa using this
end
end Go.Proofs.YtbdoekffadmejaaGreatDoor
