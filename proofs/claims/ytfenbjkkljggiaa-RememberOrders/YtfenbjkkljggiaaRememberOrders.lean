/-
  The statement RememberOrders: addresses stand rising, each once, whatever the order in which they were put.
  Conditions: none on the input.
-/
import Derived.Test.YtfenbjkkljggiaaRmh
namespace Go.Proofs.Ytfenbjkkljggiaa.rememberOrders
open Go.ChangeShapes Go.WideShapes Go.ChangeAt Go.RowKit
set_option linter.unusedVariables false

set_option maxRecDepth 100000 in
set_option maxHeartbeats 8000000 in
theorem walk (ad : Option Addr) (len cap : Nat) (ad1 : Option Addr) (len1 cap1 : Nat) (w : World) (hl : IsNums .i64 w ad len) (hl1 : IsNums .u8 w ad1 len1) :
    Calls Try.prog 4 #[.slice ad len cap, .slice ad1 len1 cap1] w fun e w' => e = .returned (.bool true) ∧ Below w.heap.size w w' := by
  have hm : len ≤ 9223372036854775807 := by have := hl.1; unfold maxLen at this; exact this
  have hm1 : len1 ≤ 9223372036854775807 := by have := hl1.1; unfold maxLen at this; exact this
  obtain ⟨av, hav⟩ := nums_fun hl
  obtain ⟨ov, hov⟩ := nums_fun hl1
  have HL := Hid.mk hav
  have HO := Hid.mk hov
  clear hl hl1 hav hov
  have NW := new_any w 1 (by omega)
  go_enter Try.func4, Try.ntmps4
  go_wp2_with (first
    | (go_at_call 8; refine NW.mono ?_; rintro e w1 ⟨s, sb, m, rfl, H1, B1⟩; have NX := new_any w1 1 (by omega); have HH1 := Hid.mk H1; have HB1 := Hid.mk B1; have HP := Hid.mk B1.size; have HC := Hid.mk (And.intro H1.lt.1 (And.intro H1.lt.2 (fun i (hi : i < 1) => (H1.map i hi).lt))); clear NW H1 B1)
    | (go_at_call 8; refine NX.mono ?_; rintro e w2 ⟨s', sb', m', rfl, H2, B2⟩; have AW := awake_any w2; have HA2 := Hid.mk (HH1.out.later B2); have HD2 := Hid.mk H2; have HB2 := Hid.mk (HB1.out.trans (B2.mono HB1.out.size)); clear NX H2 B2)
    | (go_at_call 10; refine AW.mono ?_; rintro e w3 ⟨rfl, B3⟩; have HA3 := Hid.mk (HA2.out.later B3); have HD3 := Hid.mk (HD2.out.later B3); have HB3 := Hid.mk (HB2.out.trans (B3.mono HB2.out.size)); clear AW B3))
  clear HH1 HB1 HA2 HD2 HB2
  generalize w1.heap.size = P at *
  go_loopw [9] (fun i wr => ∃ (k : Nat) (La : Nat → List Int), k ≤ len ∧ k ≤ 200 ∧ i = .int .i64 (k : Int) ∧ Hid (Fill (La 0) av (fun i => i < k)) ∧ Hid (Ls w.heap.size wr s sb 1 m La) ∧ Hid (Ls P wr s' sb' 1 m' (fun _ => [])) ∧ Hid (Below w.heap.size w wr)) (fun i _ => len - (RowKit.intOf i).toNat)
  case atStart => exact ⟨0, _, Nat.zero_le _, Nat.zero_le _, rfl, ⟨fill_none _ (fun i => Nat.not_lt_zero i)⟩, HA3, HD3, HB3⟩
  case round =>
    obtain ⟨k, La, hk, hk2, rfl, HF, HA, HD, HB⟩ := hrel
    clear HA3 HD3 HB3
    by_cases hgo : k < len ∧ k < 200
    · obtain ⟨hlt, h200⟩ := hgo
      have hlt' : (k : Int) < len := by omega
      have h200' : (k : Int) < 200 := by omega
      obtain ⟨B, O, rfl, c0, _⟩ := HL.out k hlt
      have c1 := old_cells c0 HB.out
      have PT := put_one HA.out 0 (av k)
      have HF2 := Hid.mk (HF.out.put (T := fun i => i < k + 1) k (fun i => by omega))
      obtain ⟨x, hx⟩ : ∃ x, av k = x := ⟨_, rfl⟩
      rw [hx] at c1 PT HF2
      clear c0 hx
      go_wp2_with (go_at_call 17; refine PT.mono ?_; rintro e w4 ⟨rfl, H4, K4, kk, G4, ii, hii, hkk⟩; have HA4 := Hid.mk H4; have HD4 := Hid.mk (HD.out.far G4 (by rw [hkk]; exact HC.out.2.2 ii hii)); have HB4 := Hid.mk (HB.out.trans K4.bel); clear H4 K4 G4 hkk)
      go_roundw
      case rel => exact ⟨k + 1, _, by omega, by omega, by go_num, HF2, HA4, HD4, HB4⟩
      case measure => simp [RowKit.intOf]; omega
    · obtain ⟨M, hM⟩ : ∃ M, M = k := ⟨_, rfl⟩
      have hMS : ∀ i, i < M ↔ i < len ∧ i < 200 := fun i => by omega
      have HM := Hid.mk hMS
      have hcond : (k : Int) < len → ¬ (k : Int) < 200 := fun q1 q2 => hgo ⟨by omega, by omega⟩
      obtain ⟨wb, hwb⟩ : ∃ x, x = wr := ⟨_, rfl⟩
      rw [← hwb] at HA HD HB
      rw [← hM] at HF
      by_cases q : (k : Int) < len
      case' pos => have q2 := hcond q
      all_goals
        clear hcond hgo hMS hM
        subst hwb
        go_wp2
        clear q
        go_loopw [10] (fun i w5 => ∃ (t : Nat) (Lb : Nat → List Int), t ≤ len ∧ i = .int .i64 ((t : Int) - 1) ∧ Hid (Fill (Lb 0) av (fun i => t ≤ i ∧ i < M)) ∧ Hid (Ls w.heap.size w5 s sb 1 m La) ∧ Hid (Ls P w5 s' sb' 1 m' Lb) ∧ Hid (Below w.heap.size w w5)) (fun i _ => (RowKit.intOf i + 1).toNat)
        case atStart => exact ⟨len, _, Nat.le_refl _, by first | rfl | go_num, ⟨fill_none _ (fun i q => by have := (HM.out i).1 q.2; omega)⟩, HA, HD, HB⟩
        case round =>
          obtain ⟨t, Lb, ht, rfl, HG, HA5, HD5, HB5⟩ := hrel
          clear HA HD HB
          rcases Nat.eq_zero_or_pos t with h0 | h0
          · subst h0
            rw [show ((0 : Nat) : Int) - 1 = -1 from rfl]
            have HG0 := Hid.mk (HG.out.ext (T := fun i => i < M) (fun i => by omega))
            clear HG
            obtain ⟨wc, hwc⟩ : ∃ x, x = wr := ⟨_, rfl⟩
            rw [← hwc] at HA5 HD5 HB5
            subst hwc
            go_wp2
            go_loopw [11] (fun i w6 => ∃ (t : Nat) (Lb : Nat → List Int), t ≤ len1 ∧ i = .int .i64 (t : Int) ∧ Hid (Fill (Lb 0) av (fun i => i < M)) ∧ Hid (Ls w.heap.size w6 s sb 1 m La) ∧ Hid (Ls P w6 s' sb' 1 m' Lb) ∧ Hid (Below w.heap.size w w6)) (fun i _ => len1 - (RowKit.intOf i).toNat)
            case atStart => exact ⟨0, _, Nat.zero_le _, rfl, HG0, HA5, HD5, HB5⟩
            case round =>
              obtain ⟨u, Lc, hu, rfl, HG, HA, HD, HB⟩ := hrel
              clear HG0 HA5 HD5 HB5
              by_cases hgo : u < len1 ∧ u < 200
              · obtain ⟨hlt, h200⟩ := hgo
                have hlt' : (u : Int) < len1 := by omega
                have h200' : (u : Int) < 200 := by omega
                obtain ⟨B1, O1, rfl, o0, wfo⟩ := HO.out u hlt
                have o1 := old_cells o0 HB.out
                have ob := bounds_u8 wfo
                obtain ⟨y, hy⟩ : ∃ y : Nat, ov u = y := ⟨(ov u).toNat, by omega⟩
                rw [hy] at o1 ob
                clear o0 wfo hy
                by_cases hy2 : y < M
                · have hy3 := (HM.out y).1 hy2
                  have y1 : (y : Int) < len := by omega
                  have y2 : (y : Int) < 200 := by omega
                  obtain ⟨B, O, rfl, c0, _⟩ := HL.out y hy3.1
                  have c1 := old_cells c0 HB.out
                  have PT := put_any HD.out 0 (av y)
                  have HF2 := Hid.mk (HG.out.put (T := fun i => i < M) y (fun i => by omega))
                  obtain ⟨x, hx⟩ : ∃ x, av y = x := ⟨_, rfl⟩
                  rw [hx] at c1 PT HF2
                  clear c0 hx hy2 hy3
                  go_wp2_with (go_at_call 17; refine PT.mono ?_; rintro e w4 ⟨rfl, H4, K4⟩; have HD4 := Hid.mk H4; have HA4 := Hid.mk (HA.out.below K4.bel HC.out); have HB4 := Hid.mk (HB.out.trans (K4.bel.mono HP.out)); clear H4 K4)
                  go_roundw
                  case rel => exact ⟨u + 1, _, by omega, by go_num, HF2, HA4, HD4, HB4⟩
                  case measure => simp [RowKit.intOf]; omega
                · have hy3 : (y : Int) < len → ¬ (y : Int) < 200 := fun q1 q2 => hy2 ((HM.out y).2 ⟨by omega, by omega⟩)
                  by_cases q : (y : Int) < len
                  case' pos => have q2 := hy3 q
                  all_goals
                    clear hy2 hy3
                    go_wp2
                    go_roundw
                    case rel => exact ⟨u + 1, _, by omega, by go_num, HG, HA, HD, HB⟩
                    case measure => simp [RowKit.intOf]; omega
              · have hcond : (u : Int) < len1 → ¬ (u : Int) < 200 := fun q1 q2 => hgo ⟨by omega, by omega⟩
                have hE := HF.out.one HG.out (HA.out.gd 0 (by omega)) (HD.out.gd 0 (by omega))
                obtain ⟨l, hl⟩ : ∃ l, La 0 = l := ⟨_, rfl⟩
                have hl2 : Lc 0 = l := hE.symm.trans hl
                have hgd : Gd l := by rw [← hl]; exact HA.out.gd 0 (by omega)
                have hlen := hgd.len
                have HGD := Hid.mk hgd
                have AL := all_any HA.out 0
                have BL := fun (W : World) (B : Below wr.heap.size wr W) => all_any (HD.out.later B) 0
                rw [show allS 1 La 0 = l from hl] at AL
                simp only [show allS 1 Lc 0 = l from hl2] at BL
                have hLN : lenS La 1 = l.length := by simp [lenS, hl]
                have HLN := Hid.mk hLN
                obtain ⟨n, hn⟩ : ∃ n, l.length = n := ⟨_, rfl⟩
                have HN := Hid.mk hn
                rw [hn] at hlen
                clear hLN hE hl hl2 hgd HF HG
                obtain ⟨wd, hwd⟩ : ∃ x, x = wr := ⟨_, rfl⟩
                rw [← hwd] at HA HD HB AL BL
                by_cases q : (u : Int) < len1
                case' pos => have q2 := hcond q
                all_goals
                  clear hcond hgo
                  subst hwd
                  go_wp2_with (first
                    | (go_at_call 15; refine AL.mono ?_; rintro e w7 ⟨v1, rfl, R7, _, B7⟩; have BL7 := BL w7 B7; have S7 := Hid.mk (sl_of R7); have HA7 := Hid.mk (HA.out.later B7); have HB7 := Hid.mk (HB.out.trans (B7.mono HB.out.size)); clear R7 B7 AL BL)
                    | (go_at_call 15; refine BL7.mono ?_; rintro e w8 ⟨v2, rfl, R8, _, B8⟩; have T8 := Hid.mk (sl_of R8); have S8 := Hid.mk (S7.out.later B8); have HA8 := Hid.mk (HA7.out.later B8); have HB8 := Hid.mk (HB7.out.trans (B8.mono HB7.out.size)); obtain ⟨ga, ca, hv, hcs⟩ := sl_form S8.out; rw [hn] at hv hcs; subst hv; have HCS := Hid.mk hcs; clear R8 B8 BL7 hcs))
                  clear HA HD HB S7 HA7 HB7 hn
                  go_loopw [15] (fun i w9 => ∃ t : Nat, 1 ≤ t ∧ (t ≤ n ∨ t = 1) ∧ i = .int .i64 (t : Int) ∧ Hid (Below w8.heap.size w8 w9)) (fun i _ => n - (RowKit.intOf i).toNat)
                  case atStart => exact ⟨1, by omega, .inr rfl, rfl, ⟨Below.refl _ _⟩⟩
                  case round =>
                    obtain ⟨t, ht1, ht2, rfl, HQ⟩ := hrel
                    by_cases htn : t < n
                    · have htn' : (t : Int) < n := by omega
                      obtain ⟨t', rfl⟩ : ∃ t', t = t' + 1 := ⟨t - 1, by omega⟩
                      obtain ⟨g, rfl, k1⟩ := HCS.out (t' + 1) htn
                      obtain ⟨g', hg', k0⟩ := HCS.out t' (by omega)
                      cases hg'
                      have k1' := old_cells k1 HQ.out
                      have k0' := old_cells k0 HQ.out
                      have hri := rising HGD.out t' (by rw [HN.out]; exact htn)
                      obtain ⟨x, hx⟩ : ∃ x, l.getD (t' + 1) 0 = x := ⟨_, rfl⟩
                      obtain ⟨y, hy⟩ : ∃ y, l.getD t' 0 = y := ⟨_, rfl⟩
                      rw [hx] at k1' hri
                      rw [hy] at k0' hri
                      have hri' : ¬ x ≤ y := by omega
                      have e1 : ((t' + 1 : Nat) : Int) - 1 = (t' : Int) := by omega
                      clear k1 k0 hx hy hri
                      go_wp2
                      go_quiet (fail)
                      go_wp2
                      go_roundw
                      case rel => exact ⟨t' + 1 + 1, by omega, by omega, by go_num, ⟨below_drewN HQ.out _⟩⟩
                      case measure => simp [RowKit.intOf]; omega
                    · have htn' : ¬ (t : Int) < n := by omega
                      have SM := same_true (S8.out.later HQ.out) (T8.out.later HQ.out) (by rw [HN.out]; omega)
                      have HA9 := Hid.mk (HA8.out.later HQ.out)
                      have HB9 := Hid.mk (HB8.out.trans (HQ.out.mono HB8.out.size))
                      go_wp2_with (first
                        | (go_at_call 14; refine SM.mono ?_; rintro e w10 ⟨rfl, B10⟩; have LN := len_any (HA9.out.later B10); rw [HLN.out, HN.out] at LN; have B11 := HB9.out.trans (B10.mono HB9.out.size); clear SM)
                        | (go_at_call 12; refine LN.mono ?_; rintro e w11 ⟨rfl, hw⟩; rw [hw]; clear hw LN))
                      go_ret
                      exact ⟨rfl, B11⟩
          · obtain ⟨u, rfl⟩ : ∃ u, t = u + 1 := ⟨t - 1, by omega⟩
            have e1 : ((u + 1 : Nat) : Int) - 1 = (u : Int) := by omega
            rw [e1]
            clear e1
            by_cases hu : (u : Int) < 200
            · obtain ⟨B, O, rfl, c0, _⟩ := HL.out u (by omega)
              have c1 := old_cells c0 HB5.out
              have PT := put_any HD5.out 0 (av u)
              have hulen : (u : Int) < len := by omega
              have HF2 := Hid.mk (HG.out.put (T := fun i => u ≤ i ∧ i < M) u (fun i => by have := HM.out i; have := HM.out u; omega))
              obtain ⟨x, hx⟩ : ∃ x, av u = x := ⟨_, rfl⟩
              rw [hx] at c1 PT HF2
              clear c0 hx
              go_wp2_with (go_at_call 17; refine PT.mono ?_; rintro e w4 ⟨rfl, H4, K4⟩; have HD4 := Hid.mk H4; have HA4 := Hid.mk (HA5.out.below K4.bel HC.out); have HB4 := Hid.mk (HB5.out.trans (K4.bel.mono HP.out)); clear H4 K4)
              go_roundw
              case rel => exact ⟨u, _, by omega, by first | rfl | go_num, HF2, HA4, HD4, HB4⟩
              case measure => first | (simp [RowKit.intOf]; done) | (simp [RowKit.intOf]; omega)
            · have HF2 := Hid.mk (HG.out.ext (T := fun i => u ≤ i ∧ i < M) (fun i => by have := HM.out i; omega))
              go_wp2
              go_roundw
              case rel => exact ⟨u, _, by omega, by first | rfl | go_num, HF2, HA5, HD5, HB5⟩
              case measure => first | (simp [RowKit.intOf]; done) | (simp [RowKit.intOf]; omega)


set_option maxRecDepth 100000 in
theorem lifted (os : Os) (started : os.Started) (H : Type) (enc : TypeId × Value → H) :
    ReturnsInHanded {} Try.checked os 4 .any (Rows.rememberOrdersSpec.pre6 enc Try.prog Try.f4 Rows.rememberOrdersRow.domain false) (Rows.rememberOrdersSpec.post enc Try.prog Try.f4 false true false false) := by
  refine returnsInHanded_of_change (C := Try.checked) own started (by kernel_rfl) Try.func4
    (ChangeSpec.witness6 (enc := enc) (C := Try.checked) false ⟨#[], #[.slice none 0 0, .slice none 0 0], []⟩ 8 (by kernel_rfl) (by kernel_rfl) (by kernel_rfl) (by kernel_rfl)) ?_
  intro W base args ds gs before hval0 hW hcnd _
  have hval : ∀ (j : Nat) t v, Try.f4.params[j]? = some t → args[j]? = some v → Value.okWide Try.prog W .any base t v := hval0
  have hW' := hW
  obtain ⟨p, q, hA0, hV, rfl, hfz, hnd⟩ := hW
  have hA : DataW.TrodAll enc Try.prog W 0 (fun _ => true) true Try.f4.params.toList args.toList ds p := hA0
  rw [Try.params4] at hA hval
  obtain ⟨v0, vs0, d0, ds0, p0, q0, hargs, rfl, rfl, h0, r0⟩ := trodAll_cons hA
  obtain ⟨v1, vs1, d1, ds1, p1, q1, rfl, rfl, rfl, h1, r1⟩ := trodAll_cons r0
  obtain ⟨rfl, rfl, rfl⟩ := trodAll_nil r1
  obtain rfl : args = #[v0, v1] := by cases args; simp_all
  obtain ⟨rfl, rfl⟩ := trodVars_none hV
  have t0 := h0
  have lt0 : ∀ x ∈ p0, x.block < W.heap.size := by obtain ⟨m, hm⟩ := t0; exact DataW.trod_lt m _ _ _ hm
  obtain ⟨ad0, len0, cap0, rfl⟩ := okWide_slice Try.underlying36 (hval 0 36 v0 rfl rfl)
  have w0 := open_ints36 h0
  have t1 := h1
  have lt1 : ∀ x ∈ p1, x.block < W.heap.size := by obtain ⟨m, hm⟩ := t1; exact DataW.trod_lt m _ _ _ hm
  obtain ⟨ad1, len1, cap1, rfl⟩ := okWide_slice Try.underlying39 (hval 1 39 v1 rfl rfl)
  have w1 := open_bytes39 h1
  clear hA0 hval0
  refine (walk ad0 len0 cap0 ad1 len1 cap1 W w0 w1).mono fun e W' ⟨he, bel⟩ => ?_
  subst he
  exact ⟨_, rfl, _, _, _, [], _, [], hW', trodAll_mk1 (shut_bool Try.underlying4 _), (trodAll_cons_mk (Below.trod laidOut (by kernel_rfl) (of_decide_eq_true (by kernel_rfl)) t0 bel lt0) (trodAll_cons_mk (Below.trod laidOut (by kernel_rfl) (of_decide_eq_true (by kernel_rfl)) t1 bel lt1) trodAll_mk0)), rfl, bel.frame _, fun h => by cases h⟩

theorem over : Rows.rememberOrdersRow.holds Try.pinned (OpenSpec.ofChange Rows.rememberOrdersSpec) :=
  OpenClaim.holds_of_wide 4 Try.f4 rfl rfl rfl rfl rfl rfl rfl ⟨rfl, rfl, rfl, rfl, rfl⟩ rfl rfl rfl rfl rfl (by kernel_rfl) Try.func4 (by kernel_rfl)
    (of_decide_eq_true (by kernel_rfl)) (by unfold Func.isWrapper; first | (rw [if_pos (by decide +kernel)]; kernel_rfl) | (rw [if_neg (by decide +kernel)]; exact ⟨rfl, rfl⟩))
    (fun os started H enc _ => lifted os started H enc)
end Go.Proofs.Ytfenbjkkljggiaa.rememberOrders

namespace Go.Proofs.Ytfenbjkkljggiaa
theorem rememberOrders_holds : Rows.RememberOrdersSaid := rememberOrders.over
#print axioms rememberOrders_holds
end Go.Proofs.Ytfenbjkkljggiaa
