/- Package heap: the small collection of the law HeapNone. -/
import Derived.Test.YtbdoekffadmejaaGreatDoorHne
namespace Go.Proofs.YtbdoekffadmejaaGreatDoor
open Go.RowKit
set_option linter.unusedVariables false
set_option linter.unusedSimpArgs false
set_option maxRecDepth 100000

section
variable {w : World} {γ : Nat → Tg} {h : Nat} {A : Ad} {B : Wa}
theorem aw_new (G : Gl w γ) : Calls Tryz.prog 34 #[.agg #[.int .i64 2, .int .i64 1, .int .i64 9, .int .i64 2, .int .i64 0]] w fun e w' => ∃ h A γ', e = .returned (.tuple #[pt h, .int .i64 0]) ∧ Hm w' γ' h (.pointer none) A aw0 ∧ A.wn = 0 ∧ Fr hTn w w' γ γ' := by
  have N : Calls Tryz.prog 34 #[.agg #[.int .i64 2, .int .i64 1, .int .i64 9, .int .i64 2, .int .i64 0]] w _ := new_yes G awC aw_c
  refine N.mono ?_
  rintro e w' ⟨h, A, γ', rfl, Q, e0, b, t⟩
  exact ⟨h, A, γ', rfl, Q, e0, (Fr.later hTn γ b).retag t⟩
theorem aw_one (kd : IntKind) (y : Int) (ty : TypeId) (w : World) (γ : Nat → Tg) : LsA (w.alloc (.cells #[.int kd y] ty)) (tagd γ w.heap.size (.x 0)) kd (.slice (some ⟨w.heap.size, 0, none⟩) 1 1) [y] :=
  ⟨_, 1, rfl, fun j hj => by
    have e : j = 0 := by simp at hj; exact hj
    subst e
    exact ⟨w.heap.size, 0, rfl, cell_new1 w _ ty, .inr ⟨0, tagd_same _ _ _⟩⟩⟩
theorem aw_nil (kd : IntKind) (w : World) (γ : Nat → Tg) : LsA w γ kd (.slice none 0 0) [] := ⟨none, 0, rfl, fun j hj => absurd hj (Nat.not_lt_zero _)⟩
theorem aw_lay1 (q : Hm w γ h (.pointer none) A aw0) (hw : A.wn = 0) : Calls Tryz.prog 20 #[pt h, .agg #[.int .i64 10, .int .i64 0, .int .i64 1, .int .i64 0], .slice (some ⟨w.heap.size, 0, none⟩) 1 1, .slice none 0 0] (w.alloc (.cells #[.int .i64 0] 3)) fun e w' =>
    e = .returned (.tuple #[.int .i64 64, .int .i64 0]) ∧ ∃ A' γ', Hm w' γ' h (.pointer none) A' aw1 ∧ A'.wn ≤ 10 ∧ Fr hTn w w' γ γ' := by
  have L := lay_yes (q.alloc (.cells #[.int .i64 0] 3) (.x 0)) 10 0 1 0 (aw_one .i64 0 3 w γ) (aw_nil .u64 _ _) (by intro y hy; simp at hy; subst hy; exact ⟨by decide, by decide⟩) (by decide) (by decide) aw_w0 (by decide +kernel) aw_e0 (by omega)
  rw [aw_a0] at L
  refine L.mono ?_
  rintro e w' ⟨rfl, γ', F, Q⟩
  exact ⟨rfl, A.more, γ', Q, by show A.wn + 1 ≤ 10; omega, (Fr.alloc hTn w γ _ _).trans F⟩
theorem aw_begin (q : Hm w γ h (.pointer none) A aw1) (hw : A.wn ≤ 10) : Calls Tryz.prog 28 #[pt h, .int .i64 0] w fun e w' => e = .returned (.int .i64 0) ∧ ∃ A' B' γ', Wm w' γ' h A' aw2 B' awK2 ∧ A'.wn ≤ 10 ∧ Fr hTn w w' γ γ' := by
  have c0 : ∀ g' s, g' ≤ 0 → s < aw1.c.n g' → g' = 0 ∧ s = 0 := by
    intro g' s h1 h2
    obtain rfl : g' = 0 := by omega
    have : aw1.c.n 0 = 1 := rfl
    omega
  have L : Calls Tryz.prog 28 #[pt h, .int .i64 0] w _ := begin_yes q 0 (by decide +kernel) (fun g' s h1 h2 => by obtain ⟨rfl, rfl⟩ := c0 g' s h1 h2; rw [aw_s1]; decide) (fun g' s h1 h2 => by obtain ⟨rfl, rfl⟩ := c0 g' s h1 h2; rw [aw_s1]; decide)
  refine L.mono ?_
  rintro e w' ⟨rfl, γ', A', B', Q, F, e5, _, _⟩
  exact ⟨rfl, A', B', γ', Q, by omega, F⟩
theorem aw_evac (q : Wm w γ h A aw2 B awK2) (hw : A.wn ≤ 10) : Calls Tryz.prog 22 #[pt h, .int .i64 64, .int .i64 0] w fun e w' => e = .returned (.tuple #[.int .i64 128, .int .i64 0]) ∧ ∃ A' B' γ', Wm w' γ' h A' aw3 B' awK3 ∧ A'.wn ≤ 20 ∧ Fr hTn w w' γ γ' := by
  have L := evac_yes q 64 (by decide) 0 (by decide +kernel) aw_i2 0 0 aw_v2 aw_m2 aw_n2 (by rw [aw_s2]; decide) aw_e2 (by omega) (by rw [aw_f2]; decide)
  have L' : Calls Tryz.prog 22 #[pt h, .int .i64 64, .int .i64 0] w _ := L
  refine L'.mono ?_
  rintro e w' ⟨rfl, γ', F, v, Q⟩
  exact ⟨by rw [aw_a2], A.more, _, γ', Q, by show A.wn + 1 ≤ 20; omega, F⟩
theorem aw_fin (q : Wm w γ h A aw3 B awK3) : Calls Tryz.prog 30 #[pt h] w fun e w' => e = .returned (.int .i64 0) ∧ ∃ γ', Hm w' γ' h (.pointer none) A awF ∧ Fr hTn w w' γ γ' := by
  have o1 : awK3.old.length = 1 := by have := congrArg List.length aw_old; simpa using this
  have L := finish_yes q (by rw [aw_ch]; decide) (by rw [aw_ch]; decide) aw_as (fun S hS => by
    have : S.l ∈ awK3.old.map (fun S => S.l) := List.mem_map.2 ⟨S, hS, rfl⟩
    rw [aw_old] at this
    simp at this
    rw [this]; decide) (by rw [o1]; exact aw_z) (by rw [o1]; decide)
  refine L.mono ?_
  rintro e w' ⟨rfl, γ', F, Q⟩
  exact ⟨rfl, γ', Q, F⟩
theorem aw_lay2 (q : Hm w γ h (.pointer none) A awF) (hw : A.wn ≤ 20) : Calls Tryz.prog 20 #[pt h, .agg #[.int .i64 2, .int .i64 0, .int .i64 0, .int .i64 1], .slice none 0 0, .slice (some ⟨w.heap.size, 0, none⟩) 1 1] (w.alloc (.cells #[.int .u64 7] 59)) fun e w' =>
    e = .returned (.tuple #[.int .i64 64, .int .i64 0]) ∧ ∃ A' γ', Hm w' γ' h (.pointer none) A' aw5 ∧ Fr hTn w w' γ γ' := by
  have L := lay_yes (q.alloc (.cells #[.int .u64 7] 59) (.x 0)) 2 0 0 1 (aw_nil .i64 _ _) (aw_one .u64 7 59 w γ) (by intro y hy; cases hy) (by decide) (by decide) aw_w4 (by rw [aw_s4]; decide) aw_e4 (by omega)
  rw [aw_a4] at L
  refine L.mono ?_
  rintro e w' ⟨rfl, γ', F, Q⟩
  exact ⟨rfl, A.more, γ', Q, (Fr.alloc hTn w γ _ _).trans F⟩
theorem aw_set (q : Hm w γ h (.pointer none) A aw5) : Calls Tryz.prog 24 #[pt h, .int .i64 128, .int .i64 0, .int .i64 64] w fun e w' => e = .returned (.int .i64 0) ∧ Hm w' γ h (.pointer none) A aw6 ∧ Fr hTn w w' γ γ :=
  set_yes q 128 0 64 (by unfold isI Bp.isI; decide) (by unfold isI Bp.isI; decide) aw_p5
theorem aw_oldL (q : Hm w γ h (.pointer none) A aw6) : Calls Tryz.prog 14 #[pt h, .int .i64 1] w fun e w' => ∃ b cap, e = .returned (.slice (some ⟨b, 0, none⟩) 1 cap) ∧ w'.cell? ⟨b, 0, none⟩ = some (.int .i64 128) ∧ Below w.heap.size w w' := by
  refine (old_any q 1).mono ?_
  rintro e w' ⟨v, rfl, R, _, Bl⟩
  rw [aw_l6] at R
  obtain ⟨b, cap, rfl, _, ck⟩ := row_form R (by decide)
  exact ⟨b, cap, rfl, ck 0 (by decide), Bl⟩
theorem aw_ptr (q : Hm w γ h (.pointer none) A aw6) : Calls Tryz.prog 12 #[pt h, .int .i64 128, .int .i64 0] w fun e w' => e = .returned (.tuple #[.int .i64 64, .int .i64 0]) ∧ Below w.heap.size w w' := by
  have hI : isI 128 := by unfold isI Bp.isI; decide
  have D := hd_ok q (sgl_rest q) (x := 128) (fun W b => by have := vis_rest (q.later b) 128 hI; rw [aw_c6] at this; exact this)
  rw [aw_h6] at D
  have P := ptr_ok q D (i := 0) (by decide) (by decide) (by decide)
  rw [aw_x6] at P
  exact P
theorem awake_any (tb : Sh.Table w) (sp : Wo.Spans w) : Calls Tryz.prog 8 #[] w fun e w' => e = .returned (.bool true) ∧ Below w.heap.size w w' := by
  have G : Gl w (fun _ => .no) := ⟨tb, sp, rfl, rfl⟩
  have NW := aw_new G
  have END : ∀ (w' : World) (γ' : Nat → Tg), Fr hTn w w' (fun _ => .no) γ' → Below w.heap.size w w' := fun w' γ' F => F.below (fun k hk => fun e => e (.inl rfl)) (Nat.le_refl _)
  have HE := Hid.mk END
  clear G tb sp END
  go_enter Tryz.func8, Tryz.ntmps8
  go_wp2_with (first
    | (go_at_call 34; refine NW.mono ?_; rintro e w1 ⟨h, A, γ1, rfl, Q1, e0, F1⟩; have L1 := aw_lay1 Q1 e0; have HF1 := Hid.mk F1; clear F1 Q1 NW)
    | (go_at_call 20; refine L1.mono ?_; rintro e w2 ⟨rfl, A2, γ2, Q2, e2, F2⟩; have L2 := aw_begin Q2 e2; have HF2 := Hid.mk (HF1.out.trans F2); clear F2 Q2 L1)
    | (go_at_call 28; refine L2.mono ?_; rintro e w3 ⟨rfl, A3, B3, γ3, Q3, e3, F3⟩; have L3 := aw_evac Q3 e3; have HF3 := Hid.mk (HF2.out.trans F3); clear F3 Q3 L2)
    | (go_at_call 22; refine L3.mono ?_; rintro e w4 ⟨rfl, A4, B4, γ4, Q4, e4, F4⟩; have L4 := aw_fin Q4; have HF4 := Hid.mk (HF3.out.trans F4); clear F4 Q4 L3)
    | (go_at_call 30; refine L4.mono ?_; rintro e w5 ⟨rfl, γ5, Q5, F5⟩; have L5 := aw_lay2 Q5 e4; have HF5 := Hid.mk (HF4.out.trans F5); clear F5 Q5 L4)
    | (go_at_call 20; refine L5.mono ?_; rintro e w6 ⟨rfl, A6, γ6, Q6, F6⟩; have L6 := aw_set Q6; have HF6 := Hid.mk (HF5.out.trans F6); clear F6 Q6 L5)
    | (go_at_call 24; refine L6.mono ?_; rintro e w7 ⟨rfl, Q7, F7⟩; have L7 := aw_oldL Q7; have HQ7 := Hid.mk Q7; have HF7 := Hid.mk (HF6.out.trans F7); clear F7 Q7 L6)
    | (go_at_call 14; refine L7.mono ?_; rintro e w8 ⟨b, cap, rfl, ck, B8⟩; have L8 := aw_ptr (HQ7.out.later B8); have HB8 := Hid.mk B8; clear L7 B8)
    | (go_at_call 12; refine L8.mono ?_; rintro e w9 ⟨rfl, B9⟩; have ck9 := (B9.cell (World.block_lt_of_cell? _ _ ck)).trans ck; have HB9 := Hid.mk B9; clear B9 L8))
  go_ret
  exact ⟨rfl, HE.out _ _ (HF7.out.trans ((Fr.later hTn _ HB8.out).trans (Fr.later hTn _ HB9.out)))⟩
end
end Go.Proofs.YtbdoekffadmejaaGreatDoor
