/- Package heap: a closure is moved. -/
import Derived.Test.YtbdoekffadmejaaGreatDoorHms
namespace Go.Proofs.YtbdoekffadmejaaGreatDoor
open Go.RowKit
set_option linter.unusedVariables false
set_option linter.unusedSimpArgs false
set_option maxRecDepth 100000

theorem tkf_hTn {t : Tg} (h : tkf t) : hTn t := by
  rcases h with rfl | rfl <;> (rintro (e | ⟨n, e⟩) <;> cases e)
/-- What a move leaves. -/
def Hs.went (H : Hs) (x : Int) (g s : Nat) : Hs :=
  { H.placed g s (szW H.xs x) with xs := Bp.Ar.writeL (Bp.Ar.moveL (H.placed g s (szW H.xs x)).xs (H.layA g s (szW H.xs x)) x (szW H.xs x)) x (H.layA g s (szW H.xs x) * 2) }
section
variable {w w' : World} {γ γ' : Nat → Tg} {h : Nat} {A : Ad} {H : Hs} {B : Wa} {K : Wk}
set_option maxHeartbeats 2000000 in
theorem move_yes (q : Wm w γ h A H B K) (x : Int) (hx : 1 ≤ x ∧ x ≤ 300000) {g s : Nat} (hg : g < H.c.g) (hs : s < H.c.n g) (hl : (H.sp g s).l.length ≤ 1000) (hE : H.layE g s (szW H.xs x) = 0) (hn0 : A.wn ≤ 1000000) (hfr : K.fresh.length ≤ 1000000) :
    Calls Tryz.prog 69 #[pt h, .int .i64 x, plc (g, s)] w fun e w' => e = .returned (.tuple #[.int .i64 (H.layA g s (szW H.xs x)), .int .i64 0]) ∧ ∃ γ', Fr hTn w w' γ γ' ∧ ∃ v, Wm w' γ' h A.more (H.went x g s) { B with fv := v } { K with fresh := K.fresh ++ [H.layA g s (szW H.xs x)] } := by
  have B0 := (Below.refl _ w).alloc (Nat.le_refl _) (.cells #[.int .i64 g, .int .i64 s] 105)
  have hb0 := heap_alloc_new w (.cells #[.int .i64 g, .int .i64 s] 105)
  have q0 := q.later B0
  have HD := head_any q0.hm x
  have SZ : ∀ (W : World), Below (w.alloc (.cells #[.int .i64 g, .int .i64 s] 105)).heap.size (w.alloc (.cells #[.int .i64 g, .int .i64 s] 105)) W → Calls Tryz.prog 61 #[hdV (Bp.Ar.readW H.xs x)] W fun e w' => e = .returned (.int .i64 (szW H.xs x)) ∧ Below W.heap.size W w' := fun W b => Sh.size_any (Wo.unK (Bp.Ar.readW H.xs x)) (Wo.unI (Bp.Ar.readW H.xs x)) (Wo.unP (Bp.Ar.readW H.xs x)) (Wo.unN (Bp.Ar.readW H.xs x)) W (q0.later b).hm.gl.tb
  have RM := fun (W : World) (b : Below (w.alloc (.cells #[.int .i64 g, .int .i64 s] 105)).heap.size (w.alloc (.cells #[.int .i64 g, .int .i64 s] 105)) W) => room_wk (q0.later b) hg hs hl (szW H.xs x) hE hn0
  have ps0 := lay_pos q.hm.zero (q.hm.fit g s hg hs).nx hE
  have bb := q.hm.ok.b
  have tin : 1 ≤ H.layA g s (szW H.xs x) ∧ H.layA g s (szW H.xs x) ≤ 300000 := ⟨ps0.1, by have := ps0.2.1; have := ps0.2.2.1; unfold Hs.layA; omega⟩
  have HB := Hid.mk B0
  have HF : Hid (Fr hTn w (w.alloc (.cells #[.int .i64 g, .int .i64 s] 105)) γ γ) := ⟨Fr.later _ _ B0⟩
  obtain ⟨ga0, k0, c0, e0⟩ := row_sl q.km.fr
  unfold Hs.went
  have He0 := Hid.mk e0
  have MV := fun (W : World) (γ1 : Nat → Tg) (H1 : Hs) (Q : Wm W γ1 h A.more H1 B K) => move_wk Q (H.layA g s (szW H.xs x)) x (szW H.xs x) (by omega) (by omega)
  have FW := fun (W : World) => Wo.forward_yes (H.layA g s (szW H.xs x)) W tin.1 (by omega)
  have WR := fun (W : World) (γ1 : Nat → Tg) (H1 : Hs) (Q : Wm W γ1 h A.more H1 B K) => write_wk Q x (H.layA g s (szW H.xs x) * 2) (by omega)
  generalize hdV (Bp.Ar.readW H.xs x) = hv at HD SZ
  generalize H.layA g s (szW H.xs x) = t at *
  generalize H.placed g s (szW H.xs x) = H2 at *
  generalize szW H.xs x = n at *
  clear q q0 B0 hE ps0 bb hl e0
  go_enter Tryz.func69, Tryz.ntmps69
  go_wp2_with (first
    | (go_at_call 50; refine HD.mono ?_; rintro e w1 ⟨rfl, B1⟩; have S1 := SZ _ B1; have HB1 := Hid.mk B1; clear B1 SZ HD)
    | (go_at_call 61; refine S1.mono ?_; rintro e w2 ⟨rfl, B2⟩; have HB2 := Hid.mk (HB1.out.trans (B2.mono HB1.out.size)); have b2 := (HB2.out.block w.heap.size (by simp)).trans hb0; have p0 := hd4 b2 0; have p1 := hd4 b2 1; simp only [List.getElem?_toArray, List.getElem?_cons_zero, List.getElem?_cons_succ] at p0 p1; have R1 := RM _ HB2.out; clear b2 B2 RM S1)
    | (go_at_call 60; refine R1.mono ?_; rintro e w3 ⟨rfl, γ1, F1, Q1⟩; have HF1 := Hid.mk (HF.out.trans ((Fr.later hTn _ HB2.out).trans F1)); have c6 := Q1.hm.ca; have M1 := MV _ _ _ Q1; clear F1 Q1 MV R1)
    | (go_at_call 123; refine M1.mono ?_; rintro e w4 ⟨⟨z, rfl⟩, Q2, F2⟩; have c6' := Q2.hm.ca; have HF2 := Hid.mk (HF1.out.trans (F2.mono (fun t e => tar_hTn e))); have W1 := WR _ _ _ Q2; clear Q2 F2 WR M1)
    | (go_at_call 124; refine (FW _).mono ?_; rintro e w5 ⟨rfl, hw⟩; rw [hw]; clear hw)
    | (go_at_call 64; refine W1.mono ?_; rintro e W ⟨⟨z2, rfl⟩, Q3, F3⟩; have HQ3 := Hid.mk Q3; have HF3 := Hid.mk (HF2.out.trans (F3.mono (fun t e => tar_hTn e))); clear Q3 F3 W1))
  have QD := HQ3.out.later (below_drew1 W)
  have BA := (Below.refl _ W.drew).alloc (Nat.le_refl _) (.cells #[.int .i64 t] 3)
  rw [show W.drew.alloc (.cells #[.int .i64 t] 3) = (W.alloc (.cells #[.int .i64 t] 3)).drew from rfl] at BA
  have HQA := Hid.mk (QD.later BA)
  have HRA : Hid (((W.alloc (.cells #[.int .i64 t] 3)).drew).ownsRow 0 3 1 (.slice ga0 k0 c0) K.fresh.length (ints K.fresh)) := ⟨by rw [← He0.out]; exact HQA.out.km.fr⟩
  have b10 : W.drew.cell? ⟨h, 10, none⟩ = some (pt B.kb) := QD.hm.ck
  have b2 : W.drew.cell? ⟨B.kb, 2, none⟩ = some (.slice ga0 k0 c0) := by rw [← He0.out]; exact hd4 QD.km.box 2
  have a10 : ((W.alloc (.cells #[.int .i64 t] 3)).drew).cell? ⟨h, 10, none⟩ = some (pt B.kb) := HQA.out.hm.ck
  have a2 : ((W.alloc (.cells #[.int .i64 t] 3)).drew).cell? ⟨B.kb, 2, none⟩ = some (.slice ga0 k0 c0) := by rw [← He0.out]; exact hd4 HQA.out.km.box 2
  have HFR : Hid (Fr hTn w ((W.alloc (.cells #[.int .i64 t] 3)).drew) γ γ1) := ⟨HF3.out.trans (Fr.later hTn γ1 ((below_drew1 W).trans (BA.mono (Nat.le_refl _))))⟩
  have an : (W.alloc (.cells #[.int .i64 t] 3)).drew.cell? ⟨W.heap.size, 0, none⟩ = some (.int .i64 t) := cell_new1 W.drew (.int .i64 t) 3
  clear QD BA
  refine wp_region_held_drew (S := (fun wx => wx.cell? ⟨h, 10, none⟩ = some (pt B.kb))) (by kernel_rfl) b10 (fun hHeld => ?_)
  refine wpAnyH_take (i := 0) (v := ?_) rfl (by kernel_rfl) (by kernel_rfl) (by kernel_rfl) (fun _ _ _ h => h) (Or.inl ⟨by rfl, ?_⟩) (by assumption) ?_
  rotate_left
  · intro w' hSw
    try dsimp only at hSw
    go_simp
    try with_reducible rfl
  try simp only [Act.put, List.getElem_toArray, List.getElem_cons_zero, List.getElem_cons_succ, List.setIfInBounds_toArray, List.set_cons_zero, List.set_cons_succ]
  refine wpAnyH_take (i := 1) (v := ?_) rfl (by kernel_rfl) (by kernel_rfl) (by kernel_rfl) (fun _ _ _ h => h) (Or.inl ⟨by rfl, ?_⟩) (by assumption) ?_
  rotate_left
  · intro w' hSw
    try dsimp only at hSw
    go_simp
    try with_reducible rfl
  try simp only [Act.put, List.getElem_toArray, List.getElem_cons_zero, List.getElem_cons_succ, List.setIfInBounds_toArray, List.set_cons_zero, List.set_cons_succ]
  refine wpAnyH_take (i := 2) (v := ?_) rfl (by kernel_rfl) (by kernel_rfl) (by kernel_rfl) (fun _ _ _ h => h) (Or.inl ⟨by rfl, ?_⟩) (by assumption) ?_
  rotate_left
  · intro w' hSw
    try dsimp only at hSw
    go_simp
    try with_reducible rfl
  try simp only [Act.put, List.getElem_toArray, List.getElem_cons_zero, List.getElem_cons_succ, List.setIfInBounds_toArray, List.set_cons_zero, List.set_cons_succ]
  refine wpAnyH_take (i := 3) (v := ?_) rfl (by kernel_rfl) (by kernel_rfl) (by kernel_rfl) (fun _ _ _ h => h) (Or.inl ⟨by rfl, ?_⟩) (by assumption) ?_
  rotate_left
  · intro w' hSw
    try dsimp only at hSw
    go_simp
    try with_reducible rfl
  try simp only [Act.put, List.getElem_toArray, List.getElem_cons_zero, List.getElem_cons_succ, List.setIfInBounds_toArray, List.set_cons_zero, List.set_cons_succ]
  refine wpAnyH_take (i := 4) (v := ?_) rfl (by kernel_rfl) (by kernel_rfl) (by kernel_rfl) (fun _ _ _ h => h) (Or.inl ⟨by rfl, ?_⟩) (by assumption) ?_
  rotate_left
  · intro w' hSw
    try dsimp only at hSw
    go_simp
    try with_reducible rfl
  try simp only [Act.put, List.getElem_toArray, List.getElem_cons_zero, List.getElem_cons_succ, List.setIfInBounds_toArray, List.set_cons_zero, List.set_cons_succ]
  refine wpAnyH_take (i := 5) (v := ?_) rfl (by kernel_rfl) (by kernel_rfl) (by kernel_rfl) (fun _ _ _ h => h) (Or.inl ⟨by rfl, ?_⟩) (by assumption) ?_
  rotate_left
  · intro w' hSw
    try dsimp only at hSw
    go_simp
    try with_reducible rfl
  try simp only [Act.put, List.getElem_toArray, List.getElem_cons_zero, List.getElem_cons_succ, List.setIfInBounds_toArray, List.set_cons_zero, List.set_cons_succ]
  refine wpAnyH_take (i := 6) (v := ?_) rfl (by kernel_rfl) (by kernel_rfl) (by kernel_rfl) (fun _ _ _ h => h) (Or.inl ⟨by rfl, ?_⟩) (by assumption) ?_
  rotate_left
  · intro w' hSw
    try dsimp only at hSw
    go_simp
    try with_reducible rfl
  try simp only [Act.put, List.getElem_toArray, List.getElem_cons_zero, List.getElem_cons_succ, List.setIfInBounds_toArray, List.set_cons_zero, List.set_cons_succ]
  refine wpAnyH_take (i := 7) (v := ?_) rfl (by kernel_rfl) (by kernel_rfl) (by kernel_rfl) (fun _ _ _ h => h) (Or.inl ⟨by rfl, ?_⟩) (by assumption) ?_
  rotate_left
  · intro w' hSw
    try dsimp only at hSw
    go_simp
    try with_reducible rfl
  try simp only [Act.put, List.getElem_toArray, List.getElem_cons_zero, List.getElem_cons_succ, List.setIfInBounds_toArray, List.set_cons_zero, List.set_cons_succ]
  refine wpAnyH_take (i := 8) (v := ?_) rfl (by kernel_rfl) (by kernel_rfl) (by kernel_rfl) (fun _ _ _ h => h) (Or.inl ⟨by rfl, ?_⟩) (by assumption) ?_
  rotate_left
  · intro w' hSw
    try dsimp only at hSw
    go_simp
    try with_reducible rfl
  try simp only [Act.put, List.getElem_toArray, List.getElem_cons_zero, List.getElem_cons_succ, List.setIfInBounds_toArray, List.set_cons_zero, List.set_cons_succ]
  refine wpAnyH_take (i := 9) (v := ?_) rfl (by kernel_rfl) (by kernel_rfl) (by kernel_rfl) (fun _ _ _ h => h) (Or.inl ⟨by rfl, ?_⟩) (by assumption) ?_
  rotate_left
  · intro w' hSw
    try dsimp only at hSw
    go_simp
    try with_reducible rfl
  try simp only [Act.put, List.getElem_toArray, List.getElem_cons_zero, List.getElem_cons_succ, List.setIfInBounds_toArray, List.set_cons_zero, List.set_cons_succ]
  refine wpAnyH_take (i := 11) (v := ?_) rfl (by kernel_rfl) (by kernel_rfl) (by kernel_rfl) (fun _ _ _ h => h) (Or.inl ⟨by rfl, ?_⟩) (by assumption) ?_
  rotate_left
  · intro w' hSw
    try dsimp only at hSw
    go_simp
    try with_reducible rfl
  try simp only [Act.put, List.getElem_toArray, List.getElem_cons_zero, List.getElem_cons_succ, List.setIfInBounds_toArray, List.set_cons_zero, List.set_cons_succ]
  refine wpAnyH_ready (rs := [10, 12]) (by kernel_rfl) (by simp) ?_
  refine AllReadyH.cons rfl (fun K' hK => ?_) (AllReadyH.cons rfl (fun K' hK => ?_) AllReadyH.nil)
  · go_simp
    refine hK.out _ _ b10 (fun hHeld => ?_)
    clear hK K'
    try simp only [Act.put, List.getElem_toArray, List.getElem_cons_zero, List.getElem_cons_succ, List.setIfInBounds_toArray, List.set_cons_zero, List.set_cons_succ]
    refine wpAnyH_ready (rs := [12]) (by kernel_rfl) (by simp) ?_
    refine AllReadyH.cons rfl (fun K' hK => ?_) AllReadyH.nil
    go_simp
    refine hK.out _ _ a10 (fun hHeld => ?_)
    clear hK K'
    try simp only [Act.put, List.getElem_toArray, List.getElem_cons_zero, List.getElem_cons_succ, List.setIfInBounds_toArray, List.set_cons_zero, List.set_cons_succ]
    generalize (W.alloc (.cells #[.int .i64 t] 3)).drew = WA at *
    refine wpAnyH_ready (rs := [13]) (by kernel_rfl) (by simp) ?_
    refine AllReadyH.cons rfl (fun K' hK => ?_) AllReadyH.nil
    refine step_app1 rfl (.tmp 59) (.tmp 61) 31 rfl 0 3 (.int .i64 0) 8 Tryz.underlying31 info3 (by decide) rfl (.slice ga0 k0 c0) K.fresh.length (ints K.fresh) rfl HRA.out W.heap.size _ rfl an rfl (by omega) (Nat.zero_le _) ?_
    intro v' w8 r8 g8 o8
    obtain ⟨gw, nw, cw, rfl⟩ := row_sl r8
    have G8 := Hid.mk g8
    have R8 := Hid.mk r8
    have O8 := Hid.mk o8
    have hb8 : w8.heap[h]? = WA.heap[h]? := g8.block _ HQA.out.hm.lt (fun e => by have := HQA.out.km.frT _ (by rw [He0.out]; exact e.symm); rw [HQA.out.hm.tag] at this; cases this)
    have hk8 : w8.heap[B.kb]? = WA.heap[B.kb]? := g8.block _ (lt_of HQA.out.km.box) (fun e => by have := HQA.out.km.frT _ (by rw [He0.out]; exact e.symm); rw [HQA.out.km.tag] at this; cases this)
    have d10 : w8.cell? ⟨h, 10, none⟩ = some (pt B.kb) := (World.cell?_of_block hb8).trans HQA.out.hm.ck
    have d2 : w8.cell? ⟨B.kb, 2, none⟩ = some (.slice ga0 k0 c0) := (World.cell?_of_block hk8).trans (by rw [← He0.out]; exact hd4 HQA.out.km.box 2)
    have z2 : w8.frozen? ⟨B.kb, 2, none⟩ = false := Joins.unfrozen_of_block (hk8.trans HQA.out.km.box) 2
    clear r8 g8 o8 hb8 hk8
    refine hK.out _ _ d10 (fun hHeld => ?_)
    clear hK K'
    try simp only [Act.put, List.getElem_toArray, List.getElem_cons_zero, List.getElem_cons_succ, List.setIfInBounds_toArray, List.set_cons_zero, List.set_cons_succ]
    refine wpAnyH_take (i := 14) (v := ?_) rfl (by kernel_rfl) (by kernel_rfl) (by kernel_rfl) (fun _ _ _ h => h) (Or.inl ⟨by rfl, ?_⟩) (by assumption) ?_
    rotate_left
    · intro w' hSw
      try dsimp only at hSw
      go_simp
      try with_reducible rfl
    try simp only [Act.put, List.getElem_toArray, List.getElem_cons_zero, List.getElem_cons_succ, List.setIfInBounds_toArray, List.set_cons_zero, List.set_cons_succ]
    refine wpAnyH_take (i := 15) (v := ?_) rfl (by kernel_rfl) (by kernel_rfl) (by kernel_rfl) (fun _ _ _ h => h) (Or.inl ⟨by rfl, ?_⟩) (by assumption) ?_
    rotate_left
    · intro w' hSw
      try dsimp only at hSw
      go_simp
      try with_reducible rfl
    try simp only [Act.put, List.getElem_toArray, List.getElem_cons_zero, List.getElem_cons_succ, List.setIfInBounds_toArray, List.set_cons_zero, List.set_cons_succ]
    obtain ⟨γ2, t2', F2, K2⟩ := HQA.out.km.laid (B := B) R8.out (by rw [He0.out]; exact G8.out) (by rw [He0.out]; exact O8.out)
    have f10 := cell_fr F2 HQA.out.hm.ck (by rw [HQA.out.hm.tag]; nofun)
    have HF2 := Hid.mk F2
    have HK2 := Hid.mk K2
    clear F2 K2
    refine wpAnyH_ready (rs := [16]) (by kernel_rfl) (by simp) ?_
    refine AllReadyH.cons rfl (fun K' hK => ?_) AllReadyH.nil
    go_simp
    refine hK.out _ _ f10 (fun hHeld => ?_)
    clear hK K'
    try simp only [Act.put, List.getElem_toArray, List.getElem_cons_zero, List.getElem_cons_succ, List.setIfInBounds_toArray, List.set_cons_zero, List.set_cons_succ]
    refine wpAnyH_done (by kernel_rfl) ?_ _
    go_wp2
    go_ret2
    exact ⟨rfl, γ2, HFR.out.trans (HF2.out.mono (fun t e => tkf_hTn e)), .slice gw nw cw, HQA.out.hm.fr HF2.out (fun u e => e.elim (fun e => .inr (.inl e)) (fun e => .inr (.inr (.inr (.inr (.inl e)))))), HK2.out, HQA.out.ap⟩
  · go_simp
    refine hK.out _ _ a10 (fun hHeld => ?_)
    clear hK K'
    try simp only [Act.put, List.getElem_toArray, List.getElem_cons_zero, List.getElem_cons_succ, List.setIfInBounds_toArray, List.set_cons_zero, List.set_cons_succ]
    generalize (W.alloc (.cells #[.int .i64 t] 3)).drew = WA at *
    refine wpAnyH_ready (rs := [10]) (by kernel_rfl) (by simp) ?_
    refine AllReadyH.cons rfl (fun K' hK => ?_) AllReadyH.nil
    go_simp
    refine hK.out _ _ a10 (fun hHeld => ?_)
    clear hK K'
    try simp only [Act.put, List.getElem_toArray, List.getElem_cons_zero, List.getElem_cons_succ, List.setIfInBounds_toArray, List.set_cons_zero, List.set_cons_succ]
    refine wpAnyH_ready (rs := [13]) (by kernel_rfl) (by simp) ?_
    refine AllReadyH.cons rfl (fun K' hK => ?_) AllReadyH.nil
    refine step_app1 rfl (.tmp 59) (.tmp 61) 31 rfl 0 3 (.int .i64 0) 8 Tryz.underlying31 info3 (by decide) rfl (.slice ga0 k0 c0) K.fresh.length (ints K.fresh) rfl HRA.out W.heap.size _ rfl an rfl (by omega) (Nat.zero_le _) ?_
    intro v' w8 r8 g8 o8
    obtain ⟨gw, nw, cw, rfl⟩ := row_sl r8
    have G8 := Hid.mk g8
    have R8 := Hid.mk r8
    have O8 := Hid.mk o8
    have hb8 : w8.heap[h]? = WA.heap[h]? := g8.block _ HQA.out.hm.lt (fun e => by have := HQA.out.km.frT _ (by rw [He0.out]; exact e.symm); rw [HQA.out.hm.tag] at this; cases this)
    have hk8 : w8.heap[B.kb]? = WA.heap[B.kb]? := g8.block _ (lt_of HQA.out.km.box) (fun e => by have := HQA.out.km.frT _ (by rw [He0.out]; exact e.symm); rw [HQA.out.km.tag] at this; cases this)
    have d10 : w8.cell? ⟨h, 10, none⟩ = some (pt B.kb) := (World.cell?_of_block hb8).trans HQA.out.hm.ck
    have d2 : w8.cell? ⟨B.kb, 2, none⟩ = some (.slice ga0 k0 c0) := (World.cell?_of_block hk8).trans (by rw [← He0.out]; exact hd4 HQA.out.km.box 2)
    have z2 : w8.frozen? ⟨B.kb, 2, none⟩ = false := Joins.unfrozen_of_block (hk8.trans HQA.out.km.box) 2
    clear r8 g8 o8 hb8 hk8
    refine hK.out _ _ d10 (fun hHeld => ?_)
    clear hK K'
    try simp only [Act.put, List.getElem_toArray, List.getElem_cons_zero, List.getElem_cons_succ, List.setIfInBounds_toArray, List.set_cons_zero, List.set_cons_succ]
    refine wpAnyH_take (i := 14) (v := ?_) rfl (by kernel_rfl) (by kernel_rfl) (by kernel_rfl) (fun _ _ _ h => h) (Or.inl ⟨by rfl, ?_⟩) (by assumption) ?_
    rotate_left
    · intro w' hSw
      try dsimp only at hSw
      go_simp
      try with_reducible rfl
    try simp only [Act.put, List.getElem_toArray, List.getElem_cons_zero, List.getElem_cons_succ, List.setIfInBounds_toArray, List.set_cons_zero, List.set_cons_succ]
    refine wpAnyH_take (i := 15) (v := ?_) rfl (by kernel_rfl) (by kernel_rfl) (by kernel_rfl) (fun _ _ _ h => h) (Or.inl ⟨by rfl, ?_⟩) (by assumption) ?_
    rotate_left
    · intro w' hSw
      try dsimp only at hSw
      go_simp
      try with_reducible rfl
    try simp only [Act.put, List.getElem_toArray, List.getElem_cons_zero, List.getElem_cons_succ, List.setIfInBounds_toArray, List.set_cons_zero, List.set_cons_succ]
    obtain ⟨γ2, t2', F2, K2⟩ := HQA.out.km.laid (B := B) R8.out (by rw [He0.out]; exact G8.out) (by rw [He0.out]; exact O8.out)
    have f10 := cell_fr F2 HQA.out.hm.ck (by rw [HQA.out.hm.tag]; nofun)
    have HF2 := Hid.mk F2
    have HK2 := Hid.mk K2
    clear F2 K2
    refine wpAnyH_ready (rs := [16]) (by kernel_rfl) (by simp) ?_
    refine AllReadyH.cons rfl (fun K' hK => ?_) AllReadyH.nil
    go_simp
    refine hK.out _ _ f10 (fun hHeld => ?_)
    clear hK K'
    try simp only [Act.put, List.getElem_toArray, List.getElem_cons_zero, List.getElem_cons_succ, List.setIfInBounds_toArray, List.set_cons_zero, List.set_cons_succ]
    refine wpAnyH_done (by kernel_rfl) ?_ _
    go_wp2
    go_ret2
    exact ⟨rfl, γ2, HFR.out.trans (HF2.out.mono (fun t e => tkf_hTn e)), .slice gw nw cw, HQA.out.hm.fr HF2.out (fun u e => e.elim (fun e => .inr (.inl e)) (fun e => .inr (.inr (.inr (.inr (.inl e)))))), HK2.out, HQA.out.ap⟩
end
end Go.Proofs.YtbdoekffadmejaaGreatDoor
