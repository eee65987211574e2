/-
  The statement RememberOwn: what is told is one's own.
  Conditions: none on the input.
-/
import Derived.Test.YtfenbjkkljggiaaRmg
namespace Go.Proofs.Ytfenbjkkljggiaa.rememberOwn
open Go.ChangeShapes Go.WideShapes Go.ChangeAt Go.RowKit
set_option linter.unusedVariables false

set_option maxRecDepth 100000 in
set_option maxHeartbeats 8000000 in
theorem walk (ad : Option Addr) (len cap : Nat) (w : World) (hl : IsNums .i64 w ad len) :
    Calls Try.prog 6 #[.slice ad len cap] w fun e w' => e = .returned (.bool true) ∧ Below w.heap.size w w' := by
  have hm : len ≤ 9223372036854775807 := by have := hl.1; unfold maxLen at this; exact this
  have HL := Hid.mk hl
  clear hl
  have NW := new_any w 1 (by omega)
  go_enter Try.func6, Try.ntmps6
  go_wp2_with (first
    | (go_at_call 8; refine NW.mono ?_; rintro e w1 ⟨s, sb, m, rfl, H1, B1⟩; have AW := awake_any w1; have HH1 := Hid.mk H1; have HB1 := Hid.mk B1; clear NW H1 B1)
    | (go_at_call 10; refine AW.mono ?_; rintro e w2 ⟨rfl, B2⟩; have HH2 := Hid.mk (HH1.out.later B2); have HB2 := Hid.mk (HB1.out.trans (B2.mono HB1.out.size)); clear AW B2))
  go_loopw [5] (fun i wr => ∃ (k : Nat) (L : Nat → List Int), k ≤ len ∧ i = .int .i64 (k : Int) ∧ Hid (Ls w.heap.size wr s sb 1 m L) ∧ Hid (Below w.heap.size w wr)) (fun i _ => len - (RowKit.intOf i).toNat)
  case atStart => exact ⟨0, _, Nat.zero_le _, rfl, HH2, HB2⟩
  case round =>
    obtain ⟨k, L, hk, rfl, HS, HB⟩ := hrel
    clear HH1 HB1 HH2 HB2
    by_cases hgo : k < len ∧ k < 200
    · obtain ⟨hlt, h200⟩ := hgo
      have hlt' : (k : Int) < len := by omega
      have h200' : (k : Int) < 200 := by omega
      obtain ⟨B, O, x, rfl, c0, wf⟩ := HL.out.2 k hlt
      have c1 := old_cells c0 HB.out
      have PT := put_any HS.out 0 x
      clear c0 wf
      go_wp2_with (go_at_call 17; refine PT.mono ?_; rintro e w3 ⟨rfl, H3, K3⟩; have HH3 := Hid.mk H3; have HB3 := Hid.mk (HB.out.trans K3.bel); clear H3 K3)
      go_roundw
      case rel => exact ⟨k + 1, _, by omega, by go_num, HH3, HB3⟩
      case measure => simp [RowKit.intOf]; omega
    · have AL := all_any HS.out 0
      have hA : allS 1 L 0 = L 0 := by simp [allS, isl]
      rw [hA] at AL
      have hgd := HS.out.gd 0 (by omega)
      have hlen := hgd.len
      obtain ⟨l, hl⟩ : ∃ l, L 0 = l := ⟨_, rfl⟩
      rw [hl] at AL hlen
      obtain ⟨wb, hwb⟩ : ∃ x, x = wr := ⟨_, rfl⟩
      rw [← hwb] at HS HB AL
      obtain ⟨n, hn⟩ : ∃ n, l.length = n := ⟨_, rfl⟩
      rw [hn] at hlen
      have hcond : (k : Int) < len → ¬ (k : Int) < 200 := fun q1 q2 => hgo ⟨by omega, by omega⟩
      have hg : ((k : Int) < len) = False ∨ (((k : Int) < len) = True ∧ ((k : Int) < 200) = False) := by
        by_cases q : (k : Int) < len
        · exact .inr ⟨by simp [q], by simp [hcond q]⟩
        · exact .inl (by simp [q])
      have tail : ∀ a1 : Unit, True := fun _ => trivial
      have hcon : (decide ((k : Int) < len) && decide ((k : Int) < 200)) = false := by
        by_cases q : (k : Int) < len
        · simp [hcond q]
        · simp [q]
      clear hg tail
      obtain ⟨i0, hi, hz0, hz1, hz2⟩ := info_parts info3
      by_cases q : (k : Int) < len
      case' pos => have q2 := hcond q
      all_goals
        clear hcond hgo hcon
        subst hwb
        go_wp2_with (first
          | (go_at_call 15; refine AL.mono ?_; rintro e w4 ⟨v1, rfl, R4, N4, B4⟩; have HR4 := Hid.mk R4; obtain ⟨ga, ca, g, hv1, hg1⟩ := row_form R4; rw [hn] at hv1 hg1; subst hv1; have HG1 := Hid.mk hg1; have HH4 := Hid.mk (HS.out.later B4); have HB4 := Hid.mk (HB.out.trans (B4.mono HB.out.size)); have HLT := Hid.mk HB.out.size; have S4 := sl_of R4; have HNW := Hid.mk ((S4.later (Below.alloc (Below.refl _ w4) (Nat.le_refl _) (Obj.cells #[] 3))).news hn); have HS4 := Hid.mk S4; clear R4 N4 B4 AL hg1 S4)
          | (at_builtin; refine wpList_append_T rfl _ _ 36 rfl w4.heap.size 3 i0 (.int .i64 0) 1 8 Try.underlying36 hi hz0 hz1 hz2 rfl (by decide) _ 0 [] rfl (Or.inl ⟨rfl, rfl, _, rfl⟩) ga n ca (ints l) rfl (by rw [ints_length, hn]; omega) HNW.out (ints_one l) n (by omega) (ints l) rfl (by unfold maxLen; omega) (by omega) (by simp) ?_; intro ga' cap' w5 hown5 hgr5; have HO5 := Hid.mk hown5; have HG5 := Hid.mk hgr5; clear hown5 hgr5))
        have B5 : Below w4.heap.size w4 w5 := by
          obtain ⟨row, g1, g2⟩ := HG5.out
          cases row with
          | none => exact ⟨g1.os, g1.tape, g1.output, Nat.le_trans (by simp) g1.size, fun k hk => (g1.block k (by simp; omega) (by simp)).trans (Below.heap_alloc _ _ _ hk)⟩
          | some r => exact absurd (g2 r rfl).1 (by omega)
        have HFar : Hid (0 < n → Value.ownBlock (.slice ga' n cap') ≠ some g) := ⟨fun h0 e => by
          have q1 := RowS.lt HO5.out h0 g e
          have q2 := (HG1.out h0).2.2.1
          omega⟩
        have HS5 : Hid (Sl w5 (.slice ga' n cap') l) := ⟨sl_ofS (by rw [hn]; exact HO5.out)⟩
        have HH5 := Hid.mk (HH4.out.later B5)
        have HB5 := Hid.mk (HB4.out.trans (B5.mono HB4.out.size))
        have HG5' : Hid (0 < n → ga = some ⟨g, 0, none⟩ ∧ w.heap.size ≤ g ∧ ∃ cur, w5.heap[g]? = some (.cells cur 3 (0, 0)) ∧ n ≤ cur.size) := ⟨fun h0 => by
          obtain ⟨q1, q2, q3, cur, q4, q5⟩ := HG1.out h0
          exact ⟨q1, Nat.le_trans HLT.out q2, cur, (B5.block g q3).trans q4, q5⟩⟩
        clear B5 HO5 HG5 HG1 HH4 HB4 HS4 HNW HR4 hi hz0 hz1 hz2 HLT
        go_loopw [8] (fun i w6 => ∃ t : Nat, t ≤ n ∧ i = .int .i64 (t : Int) ∧ Hid (Ls w.heap.size w6 s sb 1 m L) ∧ Hid (Below w.heap.size w w6) ∧ Hid (Sl w6 (.slice ga' n cap') l) ∧ Hid (0 < n → ga = some ⟨g, 0, none⟩ ∧ w.heap.size ≤ g ∧ ∃ cur, w6.heap[g]? = some (.cells cur 3 (0, 0)) ∧ n ≤ cur.size)) (fun i _ => n - (RowKit.intOf i).toNat)
        case atStart => exact ⟨0, Nat.zero_le _, rfl, HH5, HB5, HS5, HG5'⟩
        case round =>
          obtain ⟨t, ht, rfl, HH, HBB, HSS, HGG⟩ := hrel
          clear HH5 HB5 HS5 HG5'
          by_cases htn : t < n
          · have htn' : (t : Int) < n := by omega
            obtain ⟨rfl, hgl, cur, hgb, hcs⟩ := HGG.out (by omega)
            have z1 : wr.frozen? ⟨g, t, none⟩ = false := Joins.unfrozen_of_block hgb _
            have c1 : wr.cell? ⟨g, t, none⟩ = some (cur[t]'(by omega)) := by rw [Joins.cell_of_block hgb]; exact Array.getElem?_eq_getElem _
            generalize cur[t]'(by omega) = u at c1
            have K := Hid.mk (Kp.set (X := X3) hgb ⟨_, _, rfl⟩ hgl t (.int .i64 (-1)))
            have B1 := Hid.mk (Joins.block_setCell hgb (i := t) (v := .int .i64 (-1)))
            have F1 := HFar.out (by omega)
            have HF1 := Hid.mk F1
            have HCS := Hid.mk hcs
            have HGL := Hid.mk hgl
            clear hgb F1 hcs hgl
            go_wp2
            go_roundw
            case rel => exact ⟨t + 1, by omega, by go_num, ⟨HH.out.kp K.out (fun _ _ => not3 _ _ _ (by decide)) (fun _ _ => not3 _ _ _ (by decide)) (fun _ _ => not3m _ _)⟩, ⟨HBB.out.trans K.out.bel⟩, ⟨HSS.out.store HF1.out _⟩, ⟨fun _ => ⟨by first | rfl | trivial, HGL.out, _, B1.out, by simpa using HCS.out⟩⟩⟩
            case measure => simp [RowKit.intOf]; omega
          · obtain rfl : t = n := by omega
            have htn' : ¬ (t : Int) < (t : Int) := by omega
            have AL := all_any HH.out 0
            rw [hA, hl] at AL
            have hlen2 : l.length ≤ 600000 := by omega
            have hA2 : allS 1 L 0 = l := hA.trans hl
            have hT : lenS (takeS 1 L 0) 1 = 0 := by simp [lenS, takeS, isl, upd]
            have HT := Hid.mk hT
            clear hT
            go_wp2_with (first
              | (go_at_call 15; refine AL.mono ?_; rintro e w7 ⟨v3, rfl, R7, _, B7⟩; have SM1 := same_true (sl_of R7) (HSS.out.later B7) hlen2; have HH7 := Hid.mk (HH.out.later B7); have HB7 := Hid.mk (HBB.out.trans (B7.mono HBB.out.size)); have HS7 := Hid.mk (HSS.out.later B7); clear R7 B7 AL)
              | (go_at_call 14; refine SM1.mono ?_; rintro e w8 ⟨rfl, B8⟩; have TK := take_any (HH7.out.later B8) (HB7.out.trans (B8.mono HB7.out.size)).size 0; rw [hA2] at TK; have HS8 := Hid.mk (HS7.out.later B8); have HB8 := Hid.mk (HB7.out.trans (B8.mono HB7.out.size)); clear SM1 B8)
              | (go_at_call 19; refine TK.mono ?_; rintro e w9 ⟨v4, m9, rfl, S9, H9, K9⟩; have SM2 := same_true S9 (HS8.out.kp K9 (fun cur => notXP cur 3 (0, 0) (by decide))) hlen2; have HH9 := Hid.mk H9; have HB9 := Hid.mk (HB8.out.trans K9.bel); clear S9 H9 K9 TK)
              | (go_at_call 14; refine SM2.mono ?_; rintro e w10 ⟨rfl, B10⟩; have LN := len_any (HH9.out.later B10); rw [HT.out] at LN; have B11 := HB9.out.trans (B10.mono HB9.out.size); clear SM2)
              | (go_at_call 12; refine LN.mono ?_; rintro e w11 ⟨rfl, hw⟩; rw [hw]; clear hw LN))
            go_ret
            exact ⟨rfl, B11⟩


set_option maxRecDepth 100000 in
theorem lifted (os : Os) (started : os.Started) (H : Type) (enc : TypeId × Value → H) :
    ReturnsInHanded {} Try.checked os 6 .any (Rows.rememberOwnSpec.pre6 enc Try.prog Try.f6 Rows.rememberOwnRow.domain false) (Rows.rememberOwnSpec.post enc Try.prog Try.f6 false true false false) := by
  refine returnsInHanded_of_change (C := Try.checked) own started (by kernel_rfl) Try.func6
    (ChangeSpec.witness6 (enc := enc) (C := Try.checked) false ⟨#[], #[.slice none 0 0], []⟩ 8 (by kernel_rfl) (by kernel_rfl) (by kernel_rfl) (by kernel_rfl)) ?_
  intro W base args ds gs before hval0 hW hcnd _
  have hval : ∀ (j : Nat) t v, Try.f6.params[j]? = some t → args[j]? = some v → Value.okWide Try.prog W .any base t v := hval0
  have hW' := hW
  obtain ⟨p, q, hA0, hV, rfl, hfz, hnd⟩ := hW
  have hA : DataW.TrodAll enc Try.prog W 0 (fun _ => true) true Try.f6.params.toList args.toList ds p := hA0
  rw [Try.params6] at hA hval
  obtain ⟨v0, vs0, d0, ds0, p0, q0, hargs, rfl, rfl, h0, r0⟩ := trodAll_cons hA
  obtain ⟨rfl, rfl, rfl⟩ := trodAll_nil r0
  obtain rfl : args = #[v0] := by cases args; simp_all
  obtain ⟨rfl, rfl⟩ := trodVars_none hV
  have t0 := h0
  have lt0 : ∀ x ∈ p0, x.block < W.heap.size := by obtain ⟨m, hm⟩ := t0; exact DataW.trod_lt m _ _ _ hm
  obtain ⟨ad0, len0, cap0, rfl⟩ := okWide_slice Try.underlying36 (hval 0 36 v0 rfl rfl)
  have w0 := open_ints36 h0
  clear hA0 hval0
  refine (walk ad0 len0 cap0 W w0).mono fun e W' ⟨he, bel⟩ => ?_
  subst he
  exact ⟨_, rfl, _, _, _, [], _, [], hW', trodAll_mk1 (shut_bool Try.underlying4 _), (trodAll_cons_mk (Below.trod laidOut (by kernel_rfl) (of_decide_eq_true (by kernel_rfl)) t0 bel lt0) trodAll_mk0), rfl, bel.frame _, fun h => by cases h⟩

theorem over : Rows.rememberOwnRow.holds Try.pinned (OpenSpec.ofChange Rows.rememberOwnSpec) :=
  OpenClaim.holds_of_wide 6 Try.f6 rfl rfl rfl rfl rfl rfl rfl ⟨rfl, rfl, rfl, rfl, rfl⟩ rfl rfl rfl rfl rfl (by kernel_rfl) Try.func6 (by kernel_rfl)
    (of_decide_eq_true (by kernel_rfl)) (by unfold Func.isWrapper; first | (rw [if_pos (by decide +kernel)]; kernel_rfl) | (rw [if_neg (by decide +kernel)]; exact ⟨rfl, rfl⟩))
    (fun os started H enc _ => lifted os started H enc)
end Go.Proofs.Ytfenbjkkljggiaa.rememberOwn

namespace Go.Proofs.Ytfenbjkkljggiaa
theorem rememberOwn_holds : Rows.RememberOwnSaid := rememberOwn.over
#print axioms rememberOwn_holds
end Go.Proofs.Ytfenbjkkljggiaa
