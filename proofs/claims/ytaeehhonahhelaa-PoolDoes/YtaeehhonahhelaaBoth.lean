/- The program's pool and the document's side by side: every call of both is answered alike, and both have the same blocks behind it. -/
import Derived.Test.YtaeehhonahhelaaRefLast
import Derived.Test.YtaeehhonahhelaaMade
namespace Go.Proofs.Ytaeehhonahhelaa
open Go.RowKit
set_option linter.unusedVariables false

/-- Both have the row f, in four blocks of their own. -/
structure Both (w : World) (p b q c : Nat) (f : Nat → Int) (N d : Nat) : Prop where
  a : Has 58 w p b f N
  x : Ref w q c f N d
  g : Good f N
  pc : p ≠ c
  qb : q ≠ b
  cb : c ≠ b
theorem Both.later {w w' : World} {p b q c N d : Nat} {f : Nat → Int} (h : Both w p b q c f N d) (hb : Below w.heap.size w w') : Both w' p b q c f N d := ⟨h.a.later hb, h.x.later hb, h.g, h.pc, h.qb, h.cb⟩
/-- What a call of both leaves. -/
def Left2 (w : World) (p b q c N d : Nat) (w' : World) : Prop := ∃ f, Both w' p b q c f N d ∧ ∀ B, B ≤ b → B ≤ c → B ≤ w.heap.size → Below B w w'
theorem below_own {B : Nat} {w w1 w2 : World} {g : Nat} (h : Below B w w1) (hg : w1.grownBy w2 (some g)) (hB : B ≤ g) (hw : B ≤ w.heap.size) : Below B w w2 :=
  h.grown hg (Nat.le_trans hw h.size) (fun k hk => by cases hk; exact hB)
theorem left2_of {w wz w1 w2 : World} {p b q c N d : Nat} {f f' : Nat → Int} (hb : Below w.heap.size w wz) (hP : Both wz p b q c f N d) (gd : Good f' N) (H1 : Has 58 w1 p b f' N) (G1 : wz.grownBy w1 (some b)) (H2 : Ref w2 q c f' N d) (G2 : w1.grownBy w2 (some c)) : Left2 w p b q c N d w2 := by
  refine ⟨f', ⟨H1.kept G2 (by simpa using hP.pc) (by simpa using hP.cb.symm), H2, gd, hP.pc, hP.qb, hP.cb⟩, ?_⟩
  intro B h1 h2 h3
  exact below_own (below_own (hb.mono h3) G1 h1 h3) G2 h2 h3
theorem left2_same {w wz : World} {p b q c N d : Nat} {f : Nat → Int} (hb : Below w.heap.size w wz) (hP : Both wz p b q c f N d) : Left2 w p b q c N d wz := ⟨f, hP, fun B _ _ h3 => hb.mono h3⟩
theorem act_box (w : World) (k0 k1 : Int) : Below w.heap.size w (w.alloc (.cells #[.int .i64 k0, .int .i64 k1] 33)) := (Below.refl _ w).alloc (Nat.le_refl _) _

set_option maxHeartbeats 4000000 in
theorem do_alloc {w : World} {p b q c N d : Nat} {f : Nat → Int} (h : Both w p b q c f N d) (k0 k1 : Int) (hk : k0 = 0 ∨ k0 = 1) (b1 : k1 ≤ 9223372036854775807) :
    Calls Try.prog 12 #[.pointer (some ⟨p, 0, none⟩), .pointer (some ⟨q, 0, none⟩), .agg #[.int .i64 k0, .int .i64 k1]] w fun e w' => e = .returned (.bool true) ∧ Left2 w p b q c N d w' := by
  have B0 := act_box w k0 k1
  have P0 := h.later B0
  have A1 := alloc_any P0.a k1 b1
  have HF : Hid (∀ w1, Ref w1 q c f N d → Calls Try.prog 26 #[.pointer (some ⟨q, 0, none⟩), .int .i64 k1] w1 fun e w' => e = .returned (.tuple #[.int .i64 (allocA f N k1), .int .i64 (allocE f N k1)]) ∧ Ref w' q c (allocF f N k1) N d ∧ w1.grownBy w' (some c)) := fun w1 X => ralloc_any X P0.g k1 b1
  have HG : Hid (Good (allocF f N k1) N) := allocF_good P0.g
  have HP : Hid (Both (w.alloc (.cells #[.int .i64 k0, .int .i64 k1] 33)) p b q c f N d) := P0
  obtain ⟨A, hA⟩ : ∃ A, allocA f N k1 = A := ⟨_, rfl⟩
  obtain ⟨E, hE⟩ : ∃ E, allocE f N k1 = E := ⟨_, rfl⟩
  obtain ⟨F, hF⟩ : ∃ F, allocF f N k1 = F := ⟨_, rfl⟩
  rw [hA, hE, hF] at A1 HF
  rw [hF] at HG
  clear h hA hE hF P0
  rcases hk with rfl | rfl
  all_goals go_enter Try.func12, Try.ntmps12
  all_goals go_wp2_with (first
    | (go_at_call 20; refine A1.mono ?_; rintro e w1 ⟨rfl, H1, G1⟩; have A2 := HF.out w1 (HP.out.x.kept G1 (by simpa using HP.out.qb) (by simpa using HP.out.cb)))
    | (go_at_call 26; refine A2.mono ?_; rintro e w2 ⟨rfl, H2, G2⟩))
  all_goals go_ret
  all_goals exact ⟨by simp, left2_of B0 HP.out HG.out H1 G1 H2 G2⟩
set_option maxHeartbeats 4000000 in
theorem do_free {w : World} {p b q c N d : Nat} {f : Nat → Int} (h : Both w p b q c f N d) (k1 : Int) :
    Calls Try.prog 12 #[.pointer (some ⟨p, 0, none⟩), .pointer (some ⟨q, 0, none⟩), .agg #[.int .i64 2, .int .i64 k1]] w fun e w' => e = .returned (.bool true) ∧ Left2 w p b q c N d w' := by
  have B0 := act_box w 2 k1
  have P0 := h.later B0
  have A1 := free_any P0.a P0.g k1
  have HF : Hid (∀ w1, Ref w1 q c f N d → Calls Try.prog 28 #[.pointer (some ⟨q, 0, none⟩), .int .i64 k1] w1 fun e w' => e = .returned (.int .i64 (freeE f N k1)) ∧ Ref w' q c (freeF f N k1) N d ∧ w1.grownBy w' (some c)) := fun w1 X => rfree_any X P0.g k1
  have HG : Hid (Good (freeF f N k1) N) := freeF_good P0.g
  have HP : Hid (Both (w.alloc (.cells #[.int .i64 2, .int .i64 k1] 33)) p b q c f N d) := P0
  obtain ⟨E, hE⟩ : ∃ E, freeE f N k1 = E := ⟨_, rfl⟩
  obtain ⟨F, hF⟩ : ∃ F, freeF f N k1 = F := ⟨_, rfl⟩
  rw [hE, hF] at A1 HF
  rw [hF] at HG
  clear h hE hF P0
  go_enter Try.func12, Try.ntmps12
  go_wp2_with (first
    | (go_at_call 19; refine A1.mono ?_; rintro e w1 ⟨rfl, H1, G1⟩; have A2 := HF.out w1 (HP.out.x.kept G1 (by simpa using HP.out.qb) (by simpa using HP.out.cb)))
    | (go_at_call 28; refine A2.mono ?_; rintro e w2 ⟨rfl, H2, G2⟩))
  go_ret
  exact ⟨by simp, left2_of B0 HP.out HG.out H1 G1 H2 G2⟩
set_option maxHeartbeats 4000000 in
theorem do_group {w : World} {p b q c N d : Nat} {f : Nat → Int} (h : Both w p b q c f N d) (k0 k1 : Int) (h0 : k0 ≠ 0) (h1 : k0 ≠ 1) (h2 : k0 ≠ 2) (h3 : k0 ≠ 3) :
    Calls Try.prog 12 #[.pointer (some ⟨p, 0, none⟩), .pointer (some ⟨q, 0, none⟩), .agg #[.int .i64 k0, .int .i64 k1]] w fun e w' => e = .returned (.bool true) ∧ Left2 w p b q c N d w' := by
  have B0 := act_box w k0 k1
  have P0 := h.later B0
  have A1 := group_any P0.a P0.g k1
  have HF : Hid (∀ w1, Ref w1 q c f N d → Calls Try.prog 27 #[.pointer (some ⟨q, 0, none⟩), .int .i64 k1] w1 fun e w' => e = .returned (.tuple #[.int .i64 (groupA f N k1), .int .i64 (groupN f N k1), .int .i64 (groupE f N k1)]) ∧ w' = w1) := fun w1 X => rgroup_any X P0.g k1
  have HP : Hid (Both (w.alloc (.cells #[.int .i64 k0, .int .i64 k1] 33)) p b q c f N d) := P0
  have t0 : (k0 == 0) = false := by simpa using h0
  have t1 : (k0 == 1) = false := by simpa using h1
  have t2 : (k0 == 2) = false := by simpa using h2
  have t3 : (k0 == 3) = false := by simpa using h3
  obtain ⟨A, hA⟩ : ∃ A, groupA f N k1 = A := ⟨_, rfl⟩
  obtain ⟨M, hM⟩ : ∃ M, groupN f N k1 = M := ⟨_, rfl⟩
  obtain ⟨E, hE⟩ : ∃ E, groupE f N k1 = E := ⟨_, rfl⟩
  rw [hA, hM, hE] at A1 HF
  clear h hA hM hE P0 h0 h1 h2 h3
  go_enter Try.func12, Try.ntmps12
  go_wp2_with (first
    | (go_at_call 18; refine A1.mono ?_; rintro e w1 ⟨rfl, B1⟩; have A2 := HF.out w1 (HP.out.x.later B1))
    | (go_at_call 27; refine A2.mono ?_; rintro e w2 ⟨rfl, hw⟩; rw [hw]; clear hw))
  go_ret
  exact ⟨by simp, left2_same (B0.trans (B1.mono B0.size)) (HP.out.later B1)⟩
set_option maxHeartbeats 4000000 in
theorem do_find {w : World} {p b q c N d : Nat} {f : Nat → Int} (h : Both w p b q c f N d) (k1 : Int) :
    Calls Try.prog 12 #[.pointer (some ⟨p, 0, none⟩), .pointer (some ⟨q, 0, none⟩), .agg #[.int .i64 3, .int .i64 k1]] w fun e w' => e = .returned (.bool true) ∧ Left2 w p b q c N d w' := by
  have B0 := act_box w 3 k1
  have P0 := h.later B0
  have R1 := rgroup_any P0.x P0.g k1
  obtain ⟨k, hk⟩ : ∃ k, (if groupE f N k1 = 0 then groupA f N k1 else k1) = k := ⟨_, rfl⟩
  have A1 := free_any P0.a P0.g k
  have HF : Hid (∀ w1, Ref w1 q c f N d → Calls Try.prog 28 #[.pointer (some ⟨q, 0, none⟩), .int .i64 k] w1 fun e w' => e = .returned (.int .i64 (freeE f N k)) ∧ Ref w' q c (freeF f N k) N d ∧ w1.grownBy w' (some c)) := fun w1 X => rfree_any X P0.g k
  have HG : Hid (Good (freeF f N k) N) := freeF_good P0.g
  have HP : Hid (Both (w.alloc (.cells #[.int .i64 3, .int .i64 k1] 33)) p b q c f N d) := P0
  obtain ⟨E, hE⟩ : ∃ E, freeE f N k = E := ⟨_, rfl⟩
  obtain ⟨F, hF⟩ : ∃ F, freeF f N k = F := ⟨_, rfl⟩
  rw [hE, hF] at A1 HF
  rw [hF] at HG
  obtain ⟨A, hA⟩ : ∃ A, groupA f N k1 = A := ⟨_, rfl⟩
  obtain ⟨M, hM⟩ : ∃ M, groupN f N k1 = M := ⟨_, rfl⟩
  obtain ⟨D, hD⟩ : ∃ D, groupE f N k1 = D := ⟨_, rfl⟩
  rw [hA, hM, hD] at R1
  rw [hA, hD] at hk
  clear h hE hF P0 hA hM hD
  by_cases z : D = 0
  · rw [if_pos z] at hk
    subst hk z
    go_enter Try.func12, Try.ntmps12
    go_wp2_with (first
      | (go_at_call 27; refine R1.mono ?_; rintro e w1 ⟨rfl, hw⟩; rw [hw]; clear hw)
      | (go_at_call 19; refine A1.mono ?_; rintro e w1 ⟨rfl, H1, G1⟩; have A2 := HF.out w1 (HP.out.x.kept G1 (by simpa using HP.out.qb) (by simpa using HP.out.cb)))
      | (go_at_call 28; refine A2.mono ?_; rintro e w2 ⟨rfl, H2, G2⟩))
    go_ret
    exact ⟨by simp, left2_of B0 HP.out HG.out H1 G1 H2 G2⟩
  · rw [if_neg z] at hk
    subst hk
    have z1 : (D == 0) = false := by simpa using z
    clear z
    go_enter Try.func12, Try.ntmps12
    go_wp2_with (first
      | (go_at_call 27; refine R1.mono ?_; rintro e w1 ⟨rfl, hw⟩; rw [hw]; clear hw)
      | (go_at_call 19; refine A1.mono ?_; rintro e w1 ⟨rfl, H1, G1⟩; have A2 := HF.out w1 (HP.out.x.kept G1 (by simpa using HP.out.qb) (by simpa using HP.out.cb)))
      | (go_at_call 28; refine A2.mono ?_; rintro e w2 ⟨rfl, H2, G2⟩))
    go_ret
    exact ⟨by simp, left2_of B0 HP.out HG.out H1 G1 H2 G2⟩
theorem do_any {w : World} {p b q c N d : Nat} {f : Nat → Int} (h : Both w p b q c f N d) (k0 k1 : Int) (b1 : k1 ≤ 9223372036854775807) :
    Calls Try.prog 12 #[.pointer (some ⟨p, 0, none⟩), .pointer (some ⟨q, 0, none⟩), .agg #[.int .i64 k0, .int .i64 k1]] w fun e w' => e = .returned (.bool true) ∧ Left2 w p b q c N d w' := by
  by_cases h0 : k0 = 0 ∨ k0 = 1
  · exact do_alloc h k0 k1 h0 b1
  · by_cases h2 : k0 = 2
    · subst h2; exact do_free h k1
    · by_cases h3 : k0 = 3
      · subst h3; exact do_find h k1
      · exact do_group h k0 k1 (fun e => h0 (.inl e)) (fun e => h0 (.inr e)) h2 h3

/-! ### told -/
set_option maxRecDepth 100000 in
set_option maxHeartbeats 8000000 in
theorem told_all {w : World} {p b q c N d : Nat} {f : Nat → Int} (h : Both w p b q c f N d) :
    Calls Try.prog 13 #[.pointer (some ⟨p, 0, none⟩), .pointer (some ⟨q, 0, none⟩)] w fun e w' => e = .returned (.bool true) ∧ Below w.heap.size w w' := by
  have l := h.x.len
  have n1 : (fs (parts f N true)).length ≤ 10000 := by rw [fs_length]; have := parts_len f N true; omega
  have n2 : (ns (parts f N true)).length ≤ 10000 := by rw [ns_length]; have := parts_len f N true; omega
  have n3 : (fs (parts f N false)).length ≤ 10000 := by rw [fs_length]; have := parts_len f N false; omega
  have n4 : (ns (parts f N false)).length ≤ 10000 := by rw [ns_length]; have := parts_len f N false; omega
  have HP : Hid (Both w p b q c f N d) := h
  have C1 := runs_ok h.a
  clear h
  go_enter Try.func13, Try.ntmps13
  go_wp2_with (first
    | (go_at_call 17; refine C1.mono ?_; clear C1; rintro e w1 ⟨Z1, rfl, Q1, B1⟩; have C2 := pairs_ok Q1)
    | (go_at_call 15; refine C2.mono ?_; clear C2; rintro e w2 ⟨va, vb, m2, rfl, hm2, L2, B2⟩; have D2 := B1.trans (B2.mono B1.size); have C3 := rrows_ok (HP.out.x.later D2) HP.out.g true)
    | (go_at_call 29; refine C3.mono ?_; clear C3; rintro e w3 ⟨vc, vd, rfl, L3, B3⟩; have D3 := D2.trans (B3.mono D2.size); have C4 := groups_ok (HP.out.a.later D3))
    | (go_at_call 16; refine C4.mono ?_; clear C4; rintro e w4 ⟨Z4, rfl, Q4, B4⟩; have C5 := pairs_ok Q4)
    | (go_at_call 15; refine C5.mono ?_; clear C5; rintro e w5 ⟨vg, vh, m5, rfl, hm5, L5, B5⟩; have E5 := B4.trans (B5.mono B4.size); have D5 := D3.trans (E5.mono D3.size); have C6 := rrows_ok (HP.out.x.later D5) HP.out.g false)
    | (go_at_call 29; refine C6.mono ?_; clear C6; rintro e w6 ⟨vy, vz, rfl, L6, B6⟩; have E6 := E5.trans (B6.mono E5.size); have D6 := D5.trans (B6.mono D5.size); have C7 := same_true (((sl_of L2.oa).later B3).later E6) ((sl_of L3.oa).later E6) n1)
    | (go_at_call 21; refine C7.mono ?_; clear C7; rintro e w7 ⟨rfl, B7⟩; have D7 := D6.trans (B7.mono D6.size); have C8 := same_true ((((sl_of L2.ob).later B3).later E6).later B7) (((sl_of L3.ob).later E6).later B7) n2)
    | (go_at_call 21; refine C8.mono ?_; clear C8; rintro e w8 ⟨rfl, B8⟩; have D8 := D7.trans (B8.mono D7.size); have C9 := same_true ((((sl_of L5.oa).later B6).later B7).later B8) (((sl_of L6.oa).later B7).later B8) n3)
    | (go_at_call 21; refine C9.mono ?_; clear C9; rintro e w9 ⟨rfl, B9⟩; have D9 := D8.trans (B9.mono D8.size); have C10 := same_true (((((sl_of L5.ob).later B6).later B7).later B8).later B9) ((((sl_of L6.ob).later B7).later B8).later B9) n4)
    | (go_at_call 21; refine C10.mono ?_; clear C10; rintro e w10 ⟨rfl, B10⟩; have D10 := D9.trans (B10.mono D9.size); have C11 := left_ok (HP.out.a.later D10))
    | (go_at_call 22; refine C11.mono ?_; clear C11; rintro e w11 ⟨rfl, B11⟩; have D11 := D10.trans (B11.mono D10.size); have C12 := rleft_ok (HP.out.x.later D11) HP.out.g)
    | (go_at_call 30; refine C12.mono ?_; clear C12; rintro e w12 ⟨rfl, hw⟩; rw [hw]; clear hw; have C13 := longest_ok (HP.out.a.later D11))
    | (go_at_call 23; refine C13.mono ?_; clear C13; rintro e w13 ⟨rfl, B13⟩; have D13 := D11.trans (B13.mono D11.size); have C14 := rlongest_ok (HP.out.x.later D13) HP.out.g)
    | (go_at_call 31; refine C14.mono ?_; clear C14; rintro e w14 ⟨rfl, B14⟩; have D14 := D13.trans (B14.mono D13.size)))
  go_ret
  exact ⟨by simp, D14⟩
end Go.Proofs.Ytaeehhonahhelaa
