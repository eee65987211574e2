/-
  The statement PoolJoins: for every number of blocks, every list of calls and every order: when all groups are freed, one run has all blocks again.
  Conditions: none on the input.
-/
import Derived.Test.YtaeehhonahhelaaMade
import Derived.Test.YtaeehhonahhelaaSame
import Derived.Test.YtaeehhonahhelaaJoins
namespace Go.Proofs.Ytaeehhonahhelaa.poolJoins
open Go.ChangeShapes Go.WideShapes Go.ChangeAt Go.RowKit
set_option linter.unusedVariables false

theorem sl_form {w : World} {v : Value} {xs : List Int} (h : Sl w v xs) : ∃ ao c, v = .slice ao xs.length c ∧ ∀ j, j < xs.length → ∃ g, ao = some ⟨g, 0, none⟩ ∧ g < w.heap.size ∧ w.cell? ⟨g, j, none⟩ = some (.int .i64 (xs.getD j 0)) := by
  rcases h with ⟨rfl, rfl⟩ | ⟨g, c, rfl, h1, h2⟩
  · exact ⟨none, 0, rfl, fun j hj => by simp at hj⟩
  · exact ⟨_, c, rfl, fun j hj => ⟨g, rfl, h1, h2 j hj⟩⟩
theorem sl_one (w : World) (x : Int) : Sl (w.alloc (.cells #[.int .i64 x] 3)) (.slice (some ⟨w.heap.size, 0, none⟩) 1 1) [x] := by
  refine .inr ⟨w.heap.size, 1, rfl, by simp, fun j hj => ?_⟩
  obtain rfl : j = 0 := by simp at hj; exact hj
  exact (box_cell w (.int .i64 x) 3).1
theorem own_ge {w : World} {n g m c : Nat} {xs : List Value} (h : w.ownsRow n 3 1 (.slice (some ⟨g, 0, none⟩) m c) m xs) : n ≤ g := (h.lt g rfl).1
theorem kept_row {w w' : World} {n b : Nat} {v : Value} {m : Nat} {xs : List Value} (h : w.ownsRow n 3 1 v m xs) (G : w.grownBy w' (some b)) (hb : b < n) : w'.ownsRow n 3 1 v m xs :=
  h.kept G (.inr (fun e => by have := h.lt b e; omega))
theorem alloc1 (w : World) (o : Obj) : Below w.heap.size w (w.alloc o) := (Below.refl _ w).alloc (Nat.le_refl _) _

/-- What is left to do when the order is gone through: all groups are freed, and one run has all. -/
def Rest (w : World) (k : Nat) (wr : World) (f : Nat → Int) : Prop := Has 58 wr (w.heap.size + 1) w.heap.size f (k + 1) ∧ Good f (k + 1) ∧ Below w.heap.size w wr

set_option maxRecDepth 100000 in
set_option maxHeartbeats 16000000 in
theorem walk (a0 : Int) (ad : Option Addr) (len cap : Nat) (od : Option Addr) (olen ocap : Nat) (w : World) (h0 : 0 ≤ a0 ∧ a0 ≤ 255) (hl : IsActs w ad len) (hb : IsBytes w od olen) :
    Calls Try.prog 5 #[.int .u8 a0, .slice ad len cap, .slice od olen ocap] w fun e w' => e = .returned (.bool true) ∧ Below w.heap.size w w' := by
  obtain ⟨k, rfl⟩ : ∃ k : Nat, a0 = k := ⟨a0.toNat, by omega⟩
  have MD := made_any k (by omega) ad len cap w hl
  have hm : olen ≤ 9223372036854775807 := by have := hb.1; unfold maxLen at this; exact this
  have hk : k ≤ 255 := by omega
  have HBS : Hid (IsBytes w od olen) := hb
  clear hl hb h0
  go_enter Try.func5, Try.ntmps5
  go_wp2_with (first
    | (go_at_call 14; refine MD.mono ?_; rintro e w1 ⟨rfl, ⟨f1, H1, G1⟩, B1⟩; clear MD)
    | (go_at_call 11; refine (awake_any w1).mono ?_; rintro e w2 ⟨rfl, B2⟩))
  have R2 : Rest w k w2 f1 := ⟨H1.later B2, G1, B1.trans (B2.mono B1.size)⟩
  clear B1 B2 H1 G1
  go_loopw [9] (fun i wr => ∃ (j : Nat) (f : Nat → Int), j ≤ olen ∧ j ≤ 300 ∧ i = .int .i64 j ∧ Rest w k wr f) (fun i _ => 300 - (intOf i).toNat)
  case atStart => exact ⟨0, f1, Nat.zero_le _, Nat.zero_le _, rfl, R2⟩
  case round =>
    obtain ⟨j, f, hj, hj2, rfl, H, G, B⟩ := hrel
    clear R2
    by_cases hlt : j < olen ∧ j < 300
    · obtain ⟨BB, OO, x, rfl, c0, b0⟩ := HBS.out.2 j hlt.1
      have c0 := old_cells c0 B
      have z1 := hlt.1
      have z2 := hlt.2
      clear hlt
      have GA := group_any H G (x : Int)
      by_cases hE : groupE f (k + 1) (x : Int) = 0
      · have FE := free_group G hE
        rw [hE] at GA
        obtain ⟨y, hy⟩ : ∃ y, groupA f (k + 1) (x : Int) = y := ⟨_, rfl⟩
        rw [hy] at GA FE
        have HG : Hid (Good f (k + 1)) := G
        clear hE hy G
        go_wp2_with (first
          | (go_at_call 18; refine GA.mono ?_; clear GA; rintro e w3 ⟨rfl, B3⟩; have FA := free_any (H.later B3) HG.out y; rw [FE] at FA)
          | (go_at_call 19; refine FA.mono ?_; rintro e w4 ⟨rfl, H4, G4⟩))
        go_roundw
        case rel => exact ⟨j + 1, _, by omega, by omega, by go_num, H4, freeF_good HG.out, grown_own (B.trans (B3.mono B.size)) G4 (Nat.le_refl _)⟩
        case measure => simp [intOf]; omega
      · obtain ⟨E, he⟩ : ∃ E, groupE f (k + 1) (x : Int) = E := ⟨_, rfl⟩
        rw [he] at GA hE
        have hE2 : (E == 0) = false := by simpa using hE
        have HG : Hid (Good f (k + 1)) := G
        clear he G
        go_wp2_with (go_at_call 18; refine GA.mono ?_; clear GA; rintro e w3 ⟨rfl, B3⟩)
        go_roundw
        case rel => exact ⟨j + 1, _, by omega, by omega, by go_num, H.later B3, HG.out, B.trans (B3.mono B.size)⟩
        case measure => simp [intOf]; omega
    · have HG : Hid (Good f (k + 1)) := G
      have ex : olen ≤ j ∨ (j < olen ∧ 300 ≤ j) := by omega
      clear G hlt
      rcases ex with g1 | ⟨g1, g2⟩
      all_goals
        go_wp2_with (first
          | (go_at_call 16; refine (groups_ok H).mono ?_; rintro e w3 ⟨Z3, rfl, Q3, B3⟩; have P3 := pairs_ok Q3)
          | (go_at_call 15; refine P3.mono ?_; clear P3; rintro e w4 ⟨va, vb, n, rfl, hn, L4, B4⟩; have H4 := (H.later B3).later B4; have D4 := (B.trans (B3.mono B.size)).trans (B4.mono (Nat.le_trans B.size B3.size))))
        obtain ⟨ao, c, hva, ca⟩ := sl_form (sl_of L4.oa)
        subst hva
        have sg := L4.oa
        have fl : (fs (parts f (k + 1) false)).length = (parts f (k + 1) false).length := fs_length _
        rw [fl] at ca sg ⊢
        obtain ⟨m, hm2⟩ : ∃ m, (parts f (k + 1) false).length = m := ⟨_, rfl⟩
        have pl := parts_len f (k + 1) false
        rw [hm2] at ca pl sg ⊢
        have CA : Hid (∀ j, j < m → ∃ g, ao = some ⟨g, 0, none⟩ ∧ g < w4.heap.size ∧ w4.cell? ⟨g, j, none⟩ = some (.int .i64 ((fs (parts f (k + 1) false)).getD j 0))) := ca
        have SG : Hid (w4.ownsRow n 3 1 (.slice ao m c) m (ints (fs (parts f (k + 1) false)))) := sg
        have nb : w.heap.size < n := Nat.lt_of_lt_of_le (Nat.lt_of_lt_of_le H.lt.2 B3.size) hn
        clear ca sg L4 Q3 B3 B4 hn
        go_loopw [15] (fun i wq => ∃ (j : Nat) (pre post : List (Nat × Nat)), pre.length = j ∧ pre ++ post = parts f (k + 1) false ∧ i = .int .i64 j ∧ Has 58 wq (w.heap.size + 1) w.heap.size (cut f pre) (k + 1) ∧ w4.grownBy wq (some w.heap.size)) (fun i _ => m - (intOf i).toNat)
        case atStart => exact ⟨0, [], _, rfl, rfl, rfl, by rw [cut_nil]; exact H4, grown_refl _ _⟩
        case round =>
          obtain ⟨j2, pre, post, hp1, hp2, rfl, HQ, GQ⟩ := hrel
          clear H4
          cases post with
          | cons s post =>
            have lj : j2 < m := by rw [← hm2, ← hp2]; simp; omega
            obtain ⟨g, rfl, lg, cg⟩ := CA.out j2 lj
            have e1 : (fs (parts f (k + 1) false)).getD j2 0 = s.1 := by
              rw [← hp2, ← hp1]
              simp [fs]
            rw [e1] at cg
            have gb : g ≠ w.heap.size := by have := own_ge SG.out; omega
            have cg2 : wr.cell? ⟨g, j2, none⟩ = some (.int .i64 s.1) := (World.grownBy.cell_far GQ ⟨g, j2, none⟩ lg (by simp; omega)).trans cg
            obtain ⟨E1, E2⟩ := cut_step HG.out hp2
            have FA := free_any HQ (cut_good HG.out pre _ hp2) (s.1 : Int)
            rw [E1, E2] at FA
            obtain ⟨x, hx⟩ : ∃ x, s.1 = x := ⟨_, rfl⟩
            have HX : Hid (pre ++ s :: post = parts f (k + 1) false) := hp2
            rw [hx] at FA cg2
            clear E1 E2 e1 cg hp2 hx
            go_wp2_with (go_at_call 19; refine FA.mono ?_; rintro e w5 ⟨rfl, H5, G5⟩)
            go_roundw
            case rel => exact ⟨j2 + 1, pre ++ [s], post, by simp [hp1], by simpa using HX.out, by go_num, H5, grown_trans GQ G5⟩
            case measure => simp [intOf]; omega
          | nil =>
            have lj : j2 = m := by rw [← hm2, ← hp2]; simp [hp1]
            subst lj
            rw [List.append_nil] at hp2
            subst hp2
            have HB := HQ.congr (g := bare) (fun j hj => cut_all j hj)
            have DQ := grown_own D4 GQ (Nat.le_refl _)
            obtain ⟨y1, y2, y3⟩ := alloc_bare (N := k + 1) (by omega)
            have pb := parts_bare (N := k + 1) (by omega)
            rw [show ((k + 1 : Nat) : Int) = (k : Int) + 1 by omega] at y1 y2 y3
            have q1 : fs [(0, k + 1)] = [0] := by simp [fs]
            have q2 : ns [(0, k + 1)] = [(k : Int) + 1] := by simp [ns]
            clear HQ GQ CA SG D4 H B
            go_wp2_with (first
              | (go_at_call 17; refine (runs_ok HB).mono ?_; rintro e w6 ⟨Z6, rfl, Q6, B6⟩; have P6 := pairs_ok Q6; rw [pb] at P6)
              | (go_at_call 15; refine P6.mono ?_; clear P6; rintro e w7 ⟨vc, vd, n7, rfl, hn7, L7, B7⟩; have H7 := (HB.later B6).later B7; have D7 := (DQ.trans (B6.mono DQ.size)).trans (B7.mono (Nat.le_trans DQ.size B6.size)); have AL := alloc_any H7 ((k : Int) + 1) (by omega); rw [y1, y2] at AL; rw [q1, q2] at L7)
              | (go_at_call 20; refine AL.mono ?_; clear AL; rintro e w8 ⟨rfl, H8, G8⟩; have LF := left_ok H8; rw [y3] at LF; have D8 := grown_own D7 G8 (Nat.le_refl _); have ln7 : w.heap.size < n7 := (Nat.lt_of_lt_of_le (Nat.lt_of_lt_of_le HB.lt.2 B6.size) hn7); have sc := sl_of (kept_row L7.oa G8 ln7); have sd := sl_of (kept_row L7.ob G8 ln7); have S1 := same_true (sc.later (alloc1 _ _)) (sl_one w8 0) (by simp))
              | (go_at_call 21; refine S1.mono ?_; clear S1; rintro e w9 ⟨rfl, B9⟩; have D9 := (alloc1 w8 (.cells #[.int .i64 0] 3)).trans (B9.mono (alloc1 w8 (.cells #[.int .i64 0] 3)).size); have S2 := same_true ((sd.later D9).later (alloc1 _ _)) (sl_one w9 ((k : Int) + 1)) (by simp))
              | (go_at_call 21; refine S2.mono ?_; clear S2; rintro e w10 ⟨rfl, B10⟩; have D10 := (D9.trans (((alloc1 w9 (.cells #[.int .i64 ((k : Int) + 1)] 3)).trans (B10.mono (alloc1 w9 (.cells #[.int .i64 ((k : Int) + 1)] 3)).size)).mono D9.size)); have LF2 := left_ok (H8.later D10); rw [y3] at LF2)
              | (go_at_call 22; refine LF2.mono ?_; rintro e w11 ⟨rfl, B11⟩))
            go_ret
            exact ⟨rfl, (D8.trans (D10.mono D8.size)).trans (B11.mono (Nat.le_trans D8.size D10.size))⟩


set_option maxRecDepth 100000 in
theorem lifted (os : Os) (started : os.Started) (H : Type) (enc : TypeId × Value → H) :
    ReturnsInHanded {} Try.checked os 5 .any (Rows.poolJoinsSpec.pre6 enc Try.prog Try.f5 Rows.poolJoinsRow.domain false) (Rows.poolJoinsSpec.post enc Try.prog Try.f5 false true false false) := by
  refine returnsInHanded_of_change (C := Try.checked) own started (by kernel_rfl) Try.func5
    (ChangeSpec.witness6 (enc := enc) (C := Try.checked) false ⟨#[], #[.int .u8 0, .slice none 0 0, .slice none 0 0], []⟩ 8 (by kernel_rfl) (by kernel_rfl) (by kernel_rfl) (by kernel_rfl)) ?_
  intro W base args ds gs before hval0 hW hcnd _
  have hval : ∀ (j : Nat) t v, Try.f5.params[j]? = some t → args[j]? = some v → Value.okWide Try.prog W .any base t v := hval0
  have hW' := hW
  obtain ⟨p, q, hA0, hV, rfl, hfz, hnd⟩ := hW
  have hA : DataW.TrodAll enc Try.prog W 0 (fun _ => true) true Try.f5.params.toList args.toList ds p := hA0
  rw [Try.params5] at hA hval
  obtain ⟨v0, vs0, d0, ds0, p0, q0, hargs, rfl, rfl, h0, r0⟩ := trodAll_cons hA
  obtain ⟨v1, vs1, d1, ds1, p1, q1, rfl, rfl, rfl, h1, r1⟩ := trodAll_cons r0
  obtain ⟨v2, vs2, d2, ds2, p2, q2, rfl, rfl, rfl, h2, r2⟩ := trodAll_cons r1
  obtain ⟨rfl, rfl, rfl⟩ := trodAll_nil r2
  obtain rfl : args = #[v0, v1, v2] := by cases args; simp_all
  obtain ⟨rfl, rfl⟩ := trodVars_none hV
  have t0 := h0
  have lt0 : ∀ x ∈ p0, x.block < W.heap.size := by obtain ⟨m, hm⟩ := t0; exact DataW.trod_lt m _ _ _ hm
  obtain ⟨a0, rfl, hd0, hp0, w0⟩ := open_int Try.underlying5 (hval 0 5 v0 rfl rfl) h0
  have t1 := h1
  have lt1 : ∀ x ∈ p1, x.block < W.heap.size := by obtain ⟨m, hm⟩ := t1; exact DataW.trod_lt m _ _ _ hm
  obtain ⟨ad1, len1, cap1, rfl⟩ := okWide_slice Try.underlying22 (hval 1 22 v1 rfl rfl)
  have w1 := open_acts h1
  have t2 := h2
  have lt2 : ∀ x ∈ p2, x.block < W.heap.size := by obtain ⟨m, hm⟩ := t2; exact DataW.trod_lt m _ _ _ hm
  obtain ⟨ad2, len2, cap2, rfl⟩ := okWide_slice Try.underlying45 (hval 2 45 v2 rfl rfl)
  have w2 := open_bytes h2
  clear hA0 hval0
  refine (walk a0 ad1 len1 cap1 ad2 len2 cap2 W (bounds_u8 w0) w1 w2).mono fun e W' ⟨he, bel⟩ => ?_
  subst he
  exact ⟨_, rfl, _, _, _, [], _, [], hW', trodAll_mk1 (shut_bool Try.underlying4 _), (trodAll_cons_mk (Below.trod laidOut (by kernel_rfl) (of_decide_eq_true (by kernel_rfl)) t0 bel lt0) (trodAll_cons_mk (Below.trod laidOut (by kernel_rfl) (of_decide_eq_true (by kernel_rfl)) t1 bel lt1) (trodAll_cons_mk (Below.trod laidOut (by kernel_rfl) (of_decide_eq_true (by kernel_rfl)) t2 bel lt2) trodAll_mk0))), rfl, bel.frame _, fun h => by cases h⟩

theorem over : Rows.poolJoinsRow.holds Try.pinned (OpenSpec.ofChange Rows.poolJoinsSpec) :=
  OpenClaim.holds_of_wide 5 Try.f5 rfl rfl rfl rfl rfl rfl rfl ⟨rfl, rfl, rfl, rfl, rfl⟩ rfl rfl rfl rfl rfl (by kernel_rfl) Try.func5 (by kernel_rfl)
    (of_decide_eq_true (by kernel_rfl)) (by unfold Func.isWrapper; first | (rw [if_pos (by decide +kernel)]; kernel_rfl) | (rw [if_neg (by decide +kernel)]; exact ⟨rfl, rfl⟩))
    (fun os started H enc _ => lifted os started H enc)
end Go.Proofs.Ytaeehhonahhelaa.poolJoins

namespace Go.Proofs.Ytaeehhonahhelaa
theorem poolJoins_holds : Rows.PoolJoinsSaid := poolJoins.over
#print axioms poolJoins_holds
end Go.Proofs.Ytaeehhonahhelaa
