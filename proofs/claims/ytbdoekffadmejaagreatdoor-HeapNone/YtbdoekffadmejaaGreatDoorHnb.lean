/- Package heap: what may have changed. -/
import Derived.Test.YtbdoekffadmejaaGreatDoorHna
namespace Go.Proofs.YtbdoekffadmejaaGreatDoor
open Go.RowKit
set_option linter.unusedVariables false
set_option linter.unusedSimpArgs false
set_option maxRecDepth 100000

def v3 (a b c : Value) (i : Nat) : Value := if i = 0 then a else if i = 1 then b else c
def l3 (a b c : List Int) (i : Nat) : List Int := if i = 0 then a else if i = 1 then b else c
theorem l3_cat (a b c : List Int) : cat (l3 a b c) 3 = a ++ b ++ c := by simp [cat, List.range_succ, l3]
theorem v3_cell {w : World} (a b c : Value) (i : Nat) (hi : i < 3) : (w.alloc (.cells #[a, b, c] 31)).cell? ⟨w.heap.size, i, none⟩ = some (v3 a b c i) := by
  rw [Joins.cell_of_block (heap_alloc_new w _)]
  match i, hi with
  | 0, _ => rfl
  | 1, _ => rfl
  | 2, _ => rfl
theorem v3_sl {w : World} {a b c : Value} {x y z : List Int} (h1 : SlV w a x) (h2 : SlV w b y) (h3 : SlV w c z) (i : Nat) (hi : i < 3) : SlV w (v3 a b c i) (l3 x y z i) := by
  match i, hi with
  | 0, _ => exact h1
  | 1, _ => exact h2
  | 2, _ => exact h3
section
variable {w w' : World} {γ γ' : Nat → Tg} {h : Nat} {A : Ad} {H : Hs} {B : Wa} {K : Wk}
/-- What may have changed, of the generations below j. -/
def chL (H : Hs) (K : Wk) : Nat → List Int
  | 0 => K.fresh
  | j + 1 => chL H K j ++ Rm.allS H.c.g H.L j ++ Rm.allS H.c.g K.late j
theorem chL_le (H : Hs) (K : Wk) {j m : Nat} (h : j ≤ m) : (chL H K j).length ≤ (chL H K m).length := by
  induction h with
  | refl => exact Nat.le_refl _
  | step _ ih => simp only [chL, List.length_append]; omega
set_option maxHeartbeats 2000000 in
theorem changed_any (q : Wm w γ h A H B K) (hl : (chL H K H.c.g).length ≤ 1000000) :
    Calls Tryz.prog 78 #[pt h] w fun e w' => ∃ v, e = .returned v ∧ w'.ownsRow w.heap.size 3 1 v (chL H K H.c.g).length (ints (chL H K H.c.g)) ∧ Below w.heap.size w w' := by
  have HSS : Hid (∀ (W : World), Below w.heap.size w W → (fun wx => wx.cell? ⟨h, 9, none⟩ = some (pt A.l) ∧ wx.cell? ⟨h, 10, none⟩ = some (pt B.kb) ∧ wx.cell? ⟨B.kb, 4, none⟩ = some (pt B.tl)) W) := ⟨fun W b => ⟨(q.later b).hm.cl, (q.later b).hm.ck, hd4 (q.later b).km.box 4⟩⟩
  have LA := fun (W : World) (b : Below w.heap.size w W) (j : Nat) => all_li (q.later b).km.late j
  have LB := fun (W : World) (b : Below w.heap.size w W) (j : Nat) => all_li (q.later b).hm.li j
  have HL : Hid (∀ j, j < H.c.g → (chL H K j ++ Rm.allS H.c.g H.L j ++ Rm.allS H.c.g K.late j).length ≤ 1000000) := ⟨fun j hj => Nat.le_trans (chL_le H K (j := j + 1) hj) hl⟩
  have C7 := fun (W : World) (b : Below w.heap.size w W) => (q.later b).hm.co
  have k10 := q.hm.ck
  have k2 : w.cell? ⟨B.kb, 2, none⟩ = some B.fv := hd4 q.km.box 2
  have og := q.hm.ok.g
  obtain ⟨ob, cap, e1, _, _⟩ := row_form q.hm.row.out (by omega)
  rw [e1] at C7
  have CL := clone_any (SlV.of q.km.fr) (Nat.le_trans (chL_le H K (Nat.zero_le _)) hl)
  obtain ⟨ga, kk, cc, e0⟩ := row_sl q.km.fr
  rw [e0] at CL k2
  have HMM : Hid (H.c.g = H.c.g) := ⟨rfl⟩
  obtain ⟨m, hm⟩ : ∃ m, H.c.g = m := ⟨_, rfl⟩
  simp only [hm] at C7 LA LB HL og ⊢
  have HM := Hid.mk hm
  clear q hl e1 hm HMM e0
  go_enter Tryz.func78, Tryz.ntmps78
  go_wp2_with (go_at_call 131; refine CL.mono ?_; rintro e w1 ⟨v, rfl, R1, B1⟩; obtain ⟨ga0, k0, c0, rfl⟩ := row_sl R1; have HR1 := Hid.mk R1; have HB1 := Hid.mk B1; have c7 := C7 _ B1; clear R1 B1)
  go_loopw [3, 18] (fun v i wr => ∃ j : Nat, i = .int .i64 j ∧ j ≤ m ∧ Hid (wr.ownsRow w.heap.size 3 1 v (chL H K j).length (ints (chL H K j))) ∧ Hid (Below w.heap.size w wr)) (fun _ i _ => m - (intOf i).toNat)
  case atStart => exact ⟨0, rfl, Nat.zero_le _, HR1, HB1⟩
  case round =>
    obtain ⟨j, rfl, hj, HR, HB⟩ := hrel
    by_cases hlt : j < m
    · have hlt' : (j : Int) < m := by omega
      obtain ⟨ga0, k0, c0, rfl⟩ := row_sl HR.out
      have HD : Hid (Below wr.heap.size wr wr.drew) := ⟨below_drew1 wr⟩
      have HB0 : Hid (Below w.heap.size w wr.drew) := ⟨HB.out.trans (HD.out.mono HB.out.size)⟩
      have A1 := LB _ HB0.out j
      go_wp2
      refine wp_region_held_drew (S := (fun wx => wx.cell? ⟨h, 9, none⟩ = some (pt A.l) ∧ wx.cell? ⟨h, 10, none⟩ = some (pt B.kb) ∧ wx.cell? ⟨B.kb, 4, none⟩ = some (pt B.tl))) (by kernel_rfl) (HSS.out _ HB0.out) (fun hHeld => ?_)
      refine wpAnyH_take (i := 0) (v := ?_) rfl (by kernel_rfl) (by kernel_rfl) (by kernel_rfl) (fun _ _ _ h => h) (Or.inl ⟨by rfl, ?_⟩) (by assumption) ?_
      rotate_left
      · intro w' hSw
        try dsimp only at hSw
        go_simp
        try with_reducible rfl
      try simp only [Act.put, List.getElem_toArray, List.getElem_cons_zero, List.getElem_cons_succ, List.setIfInBounds_toArray, List.set_cons_zero, List.set_cons_succ]
      refine wpAnyH_take (i := 1) (v := ?_) rfl (by kernel_rfl) (by kernel_rfl) (by kernel_rfl) (fun _ _ _ h => h) (Or.inl ⟨by rfl, ?_⟩) (by assumption) ?_
      rotate_left
      · intro w' hSw
        try dsimp only at hSw
        go_simp
        try with_reducible rfl
      try simp only [Act.put, List.getElem_toArray, List.getElem_cons_zero, List.getElem_cons_succ, List.setIfInBounds_toArray, List.set_cons_zero, List.set_cons_succ]
      refine wpAnyH_take (i := 2) (v := ?_) rfl (by kernel_rfl) (by kernel_rfl) (by kernel_rfl) (fun _ _ _ h => h) (Or.inl ⟨by rfl, ?_⟩) (by assumption) ?_
      rotate_left
      · intro w' hSw
        try dsimp only at hSw
        go_simp
        try with_reducible rfl
      try simp only [Act.put, List.getElem_toArray, List.getElem_cons_zero, List.getElem_cons_succ, List.setIfInBounds_toArray, List.set_cons_zero, List.set_cons_succ]
      refine wpAnyH_take (i := 3) (v := ?_) rfl (by kernel_rfl) (by kernel_rfl) (by kernel_rfl) (fun _ _ _ h => h) (Or.inl ⟨by rfl, ?_⟩) (by assumption) ?_
      rotate_left
      · intro w' hSw
        try dsimp only at hSw
        go_simp
        try with_reducible rfl
      try simp only [Act.put, List.getElem_toArray, List.getElem_cons_zero, List.getElem_cons_succ, List.setIfInBounds_toArray, List.set_cons_zero, List.set_cons_succ]
      refine wpAnyH_take (i := 4) (v := ?_) rfl (by kernel_rfl) (by kernel_rfl) (by kernel_rfl) (fun _ _ _ h => h) (Or.inl ⟨by rfl, ?_⟩) (by assumption) ?_
      rotate_left
      · intro w' hSw
        try dsimp only at hSw
        go_simp
        try with_reducible rfl
      try simp only [Act.put, List.getElem_toArray, List.getElem_cons_zero, List.getElem_cons_succ, List.setIfInBounds_toArray, List.set_cons_zero, List.set_cons_succ]
      refine wpAnyH_take (i := 5) (v := ?_) rfl (by kernel_rfl) (by kernel_rfl) (by kernel_rfl) (fun _ _ _ h => h) (Or.inl ⟨by rfl, ?_⟩) (by assumption) ?_
      rotate_left
      · intro w' hSw
        try dsimp only at hSw
        go_simp
        try with_reducible rfl
      try simp only [Act.put, List.getElem_toArray, List.getElem_cons_zero, List.getElem_cons_succ, List.setIfInBounds_toArray, List.set_cons_zero, List.set_cons_succ]
      refine wpAnyH_take (i := 7) (v := ?_) rfl (by kernel_rfl) (by kernel_rfl) (by kernel_rfl) (fun _ _ _ h => h) (Or.inl ⟨by rfl, ?_⟩) (by assumption) ?_
      rotate_left
      · intro w' hSw
        try dsimp only at hSw
        go_simp
        try with_reducible rfl
      try simp only [Act.put, List.getElem_toArray, List.getElem_cons_zero, List.getElem_cons_succ, List.setIfInBounds_toArray, List.set_cons_zero, List.set_cons_succ]
      refine wpAnyH_take (i := 8) (v := ?_) rfl (by kernel_rfl) (by kernel_rfl) (by kernel_rfl) (fun _ _ _ h => h) (Or.inl ⟨by rfl, ?_⟩) (by assumption) ?_
      rotate_left
      · intro w' hSw
        try dsimp only at hSw
        go_simp
        try with_reducible rfl
      try simp only [Act.put, List.getElem_toArray, List.getElem_cons_zero, List.getElem_cons_succ, List.setIfInBounds_toArray, List.set_cons_zero, List.set_cons_succ]
      refine wpAnyH_take (i := 9) (v := ?_) rfl (by kernel_rfl) (by kernel_rfl) (by kernel_rfl) (fun _ _ _ h => h) (Or.inl ⟨by rfl, ?_⟩) (by assumption) ?_
      rotate_left
      · intro w' hSw
        try dsimp only at hSw
        go_simp
        try with_reducible rfl
      try simp only [Act.put, List.getElem_toArray, List.getElem_cons_zero, List.getElem_cons_succ, List.setIfInBounds_toArray, List.set_cons_zero, List.set_cons_succ]
      refine wpAnyH_take (i := 10) (v := ?_) rfl (by kernel_rfl) (by kernel_rfl) (by kernel_rfl) (fun _ _ _ h => h) (Or.inl ⟨by rfl, ?_⟩) (by assumption) ?_
      rotate_left
      · intro w' hSw
        try dsimp only at hSw
        go_simp
        try with_reducible rfl
      try simp only [Act.put, List.getElem_toArray, List.getElem_cons_zero, List.getElem_cons_succ, List.setIfInBounds_toArray, List.set_cons_zero, List.set_cons_succ]
      refine wpAnyH_take (i := 11) (v := ?_) rfl (by kernel_rfl) (by kernel_rfl) (by kernel_rfl) (fun _ _ _ h => h) (Or.inl ⟨by rfl, ?_⟩) (by assumption) ?_
      rotate_left
      · intro w' hSw
        try dsimp only at hSw
        go_simp
        try with_reducible rfl
      try simp only [Act.put, List.getElem_toArray, List.getElem_cons_zero, List.getElem_cons_succ, List.setIfInBounds_toArray, List.set_cons_zero, List.set_cons_succ]
      refine wpAnyH_take (i := 12) (v := ?_) rfl (by kernel_rfl) (by kernel_rfl) (by kernel_rfl) (fun _ _ _ h => h) (Or.inl ⟨by rfl, ?_⟩) (by assumption) ?_
      rotate_left
      · intro w' hSw
        try dsimp only at hSw
        go_simp
        try with_reducible rfl
      try simp only [Act.put, List.getElem_toArray, List.getElem_cons_zero, List.getElem_cons_succ, List.setIfInBounds_toArray, List.set_cons_zero, List.set_cons_succ]
      refine wpAnyH_take (i := 13) (v := ?_) rfl (by kernel_rfl) (by kernel_rfl) (by kernel_rfl) (fun _ _ _ h => h) (Or.inl ⟨by rfl, ?_⟩) (by assumption) ?_
      rotate_left
      · intro w' hSw
        try dsimp only at hSw
        go_simp
        try with_reducible rfl
      try simp only [Act.put, List.getElem_toArray, List.getElem_cons_zero, List.getElem_cons_succ, List.setIfInBounds_toArray, List.set_cons_zero, List.set_cons_succ]
      refine wpAnyH_take (i := 14) (v := ?_) rfl (by kernel_rfl) (by kernel_rfl) (by kernel_rfl) (fun _ _ _ h => h) (Or.inl ⟨by rfl, ?_⟩) (by assumption) ?_
      rotate_left
      · intro w' hSw
        try dsimp only at hSw
        go_simp
        try with_reducible rfl
      try simp only [Act.put, List.getElem_toArray, List.getElem_cons_zero, List.getElem_cons_succ, List.setIfInBounds_toArray, List.set_cons_zero, List.set_cons_succ]
      refine wpAnyH_ready (rs := [6]) (by kernel_rfl) (by simp) ?_
      refine AllReadyH.cons rfl (fun K' hK => ?_) AllReadyH.nil
      go_simp
      (go_at_call 53; refine A1.mono ?_; rintro e w1 ⟨v1, rfl, R1, _, B1⟩; obtain ⟨ga1, k1, c1, rfl⟩ := row_sl R1; have HR1 := Hid.mk R1; have HB1 := Hid.mk (HB0.out.trans (B1.mono HB0.out.size)); have HB1' := Hid.mk B1; have A2 := LA _ HB1.out j; clear R1 B1 A1)
      try go_wp2_with fail
      refine hK.out _ _ (HSS.out _ HB1.out) (fun hHeld => ?_)
      clear hK K'
      try simp only [Act.put, List.getElem_toArray, List.getElem_cons_zero, List.getElem_cons_succ, List.setIfInBounds_toArray, List.set_cons_zero, List.set_cons_succ]
      refine wpAnyH_ready (rs := [15]) (by kernel_rfl) (by simp) ?_
      refine AllReadyH.cons rfl (fun K' hK => ?_) AllReadyH.nil
      go_simp
      (go_at_call 53; refine A2.mono ?_; rintro e w2 ⟨v2, rfl, R2, _, B2⟩; obtain ⟨ga2, k2, c2, rfl⟩ := row_sl R2; have HR2 := Hid.mk R2; have HB2 := Hid.mk (HB1.out.trans (B2.mono HB1.out.size)); have HB2' := Hid.mk B2; clear R2 B2 A2)
      try go_wp2_with fail
      refine hK.out _ _ (HSS.out _ HB2.out) (fun hHeld => ?_)
      clear hK K'
      try simp only [Act.put, List.getElem_toArray, List.getElem_cons_zero, List.getElem_cons_succ, List.setIfInBounds_toArray, List.set_cons_zero, List.set_cons_succ]
      refine wpAnyH_ready (rs := [16]) (by kernel_rfl) (by simp) ?_
      refine AllReadyH.cons rfl (fun K' hK => ?_) AllReadyH.nil
      go_simp
      refine hK.out _ _ (HSS.out _ (HB2.out.alloc HB2.out.size _)) (fun hHeld => ?_)
      clear hK K'
      try simp only [Act.put, List.getElem_toArray, List.getElem_cons_zero, List.getElem_cons_succ, List.setIfInBounds_toArray, List.set_cons_zero, List.set_cons_succ]
      have BA := (Below.refl _ w2).alloc (Nat.le_refl _) (.cells #[.slice ga0 k0 c0, .slice ga1 k1 c1, .slice ga2 k2 c2] 31)
      have CC := concat_any (w := w2.alloc (.cells #[.slice ga0 k0 c0, .slice ga1 k1 c1, .slice ga2 k2 c2] 31)) (vb := w2.heap.size) (m := 3) (vs := v3 (.slice ga0 k0 c0) (.slice ga1 k1 c1) (.slice ga2 k2 c2)) (ls := l3 (chL H K j) (Rm.allS m H.L j) (Rm.allS m K.late j)) (by simp)
        (fun i hi => v3_cell _ _ _ i hi)
        (fun i hi => v3_sl ((SlV.of HR.out).later (HD.out.trans ((HB1'.out.mono HD.out.size).trans ((HB2'.out.mono (Nat.le_trans HD.out.size HB1'.out.size)).trans (BA.mono (Nat.le_trans HD.out.size (Nat.le_trans HB1'.out.size HB2'.out.size))))))) ((SlV.of HR1.out).later (HB2'.out.trans (BA.mono HB2'.out.size))) ((SlV.of HR2.out).later BA) i hi)
        (by omega) (by rw [l3_cat]; exact HL.out j hlt)
      rw [l3_cat] at CC
      clear BA
      refine wpAnyH_ready (rs := [17]) (by kernel_rfl) (by simp) ?_
      refine AllReadyH.cons rfl (fun K' hK => ?_) AllReadyH.nil
      go_simp
      (go_at_call 132; refine CC.mono ?_; rintro e w4 ⟨v4, rfl, R4, B4⟩; obtain ⟨ga4, k4, c4, rfl⟩ := row_sl R4; have HR4 := Hid.mk R4; have HB4 := Hid.mk ((HB2.out.alloc HB2.out.size (.cells #[.slice ga0 k0 c0, .slice ga1 k1 c1, .slice ga2 k2 c2] 31)).trans (B4.mono (HB2.out.alloc HB2.out.size _).size)); clear R4 B4 CC)
      try go_wp2_with fail
      refine hK.out _ _ (HSS.out _ HB4.out) (fun hHeld => ?_)
      clear hK K'
      try simp only [Act.put, List.getElem_toArray, List.getElem_cons_zero, List.getElem_cons_succ, List.setIfInBounds_toArray, List.set_cons_zero, List.set_cons_succ]
      refine wpAnyH_take (i := 18) (v := ?_) rfl (by kernel_rfl) (by kernel_rfl) (by kernel_rfl) (fun _ _ _ h => h) (Or.inl ⟨by rfl, ?_⟩) (by assumption) ?_
      rotate_left
      · intro w' hSw
        try dsimp only at hSw
        go_simp
        try with_reducible rfl
      try simp only [Act.put, List.getElem_toArray, List.getElem_cons_zero, List.getElem_cons_succ, List.setIfInBounds_toArray, List.set_cons_zero, List.set_cons_succ]
      refine wpAnyH_done (by kernel_rfl) ?_ _
      go_wp2
      go_roundw
      case rel => exact ⟨j + 1, by go_num, by omega, ⟨ownsRow_base_a (by simp only [chL, HM.out]; exact HR4.out) (by have := HB2.out.size; simp; omega)⟩, HB4⟩
      case measure => show m - ((j : Int) + 1).toNat < m - ((j : Int)).toNat; omega
    · obtain rfl : m = j := by omega
      go_wp2
      go_ret
      exact ⟨_, rfl, HR.out, HB.out⟩
end
end Go.Proofs.YtbdoekffadmejaaGreatDoor
