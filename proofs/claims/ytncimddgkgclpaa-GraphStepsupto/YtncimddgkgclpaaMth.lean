/- A meeting: the walk. -/
import Derived.Test.YtncimddgkgclpaaMtg
import Derived.Deep.LoopGhost
namespace Go.Proofs.Ytncimddgkgclpaa
open Go.RowKit
set_option linter.unusedVariables false
set_option linter.unusedSimpArgs false
set_option maxRecDepth 100000

section
variable {base lo mb mm m gb ab : Nat} {X : Nat → Prop} {J : World → Prop} {w w' : World} {nv : Value} {D : Nat → Nd}
theorem isI_plc {x : Int} (hm : m ≤ 1000) (h : -1 ≤ x ∧ x < m) : isI x := by unfold isI; omega
set_option maxHeartbeats 16000000 in
theorem walk44 (L : Lk base lo X J D m gb ab) (hJ : J w) (h : Mt base lo X w mb mm (lkv gb ab) nv D []) (hw : lo ≤ w.heap.size) (hm : m ≤ 1000) (l0 : List Int) (o0 : Option Addr) (c0 : Nat) (P : Fs lo X w .i64 3 o0 c0 l0) (hp : Plc m l0) (hl : l0.length ≤ 1000000)
    (hD : ∀ n, Plc m (D n).ks) (hDl : ∀ n, (D n).ks.length ≤ 1000000) :
    Calls Try.prog 44 #[pt mb, .slice o0 l0.length c0] w fun e w' => e = .returned (.int .i64 0) ∧ (∃ nv', Mt base lo X w' mb mm (lkv gb ab) nv' D (vis (fun n => (D n).ks) (m + 1) l0 [])) ∧ J w' ∧ Ky base X [67, 34, 22, 71] w w' := by
  have bl := L.lo
  have bw : base ≤ w.heap.size := Nat.le_trans bl hw
  have hnX : ∀ k, lo ≤ k → ¬ X k := fun k q => h.no q
  have B1 : Below w.heap.size w (w.alloc (.cells #[.slice o0 l0.length c0] 22)) := Joins.below_alloc1 _ _
  have H1 : Hid (Wlk base lo X J D m gb ab mb mm (vis (fun n => (D n).ks) (m + 1) l0 []) w (w.alloc (.cells #[.slice o0 l0.length c0] 22)) (.slice (some ⟨w.heap.size, 0, none⟩) 1 1) (2 * unm m [] + 1)) :=
    ⟨[l0], [], nv, [.slice o0 l0.length c0], own_built hw, ⟨o0, c0, [], rfl, P.later B1, rfl⟩, h.later bw B1, L.keep _ _ hJ (Ky.later bw B1), Ky.later bw B1, rfl, fun l q => by simp at q; subst q; exact ⟨hp, hl⟩, by rw [List.length_nil, Nat.zero_add]; exact cnt_max _ m, rfl⟩
  have HL := Hid.mk L
  have HX := Hid.mk hnX
  have HD := Hid.mk hD
  have HDl := Hid.mk hDl
  generalize hV : vis (fun n => (D n).ks) (m + 1) l0 [] = V at *
  have HW := Hid.mk hw
  obtain ⟨n0, hn0⟩ : ∃ n, l0.length = n := ⟨_, rfl⟩
  rw [hn0] at H1 ⊢
  clear L hJ h P hp hl hD hDl B1 hnX hV hn0
  go_enter Try.func44, Try.ntmps44
  go_wp2
  go_step3
  go_wp2
  go_step3
  go_wp2
  go_loopg [5] (2 * unm m [] + 1) (fun k cv wr => Hid (Wlk base lo X J D m gb ab mb mm V w wr cv k ∧ k ≤ 2 * m + 1))
  case atStart => exact ⟨H1.out, by have : unm m [] ≤ m := cnt_max _ m; omega⟩
  case round =>
    obtain ⟨⟨ls, met, nv1, cs, r1, s1, M1, J1, K1, V1, P1, U1, E1⟩, hgk⟩ := hrel.out
    cases hls : ls.length with
    | zero =>
      have e0 : ls = [] := List.eq_nil_of_length_eq_zero hls
      subst e0
      obtain ⟨ga, cap, rfl⟩ := row_sl r1
      have hV2 : Hid (met = V) := ⟨V1⟩
      have HH := Hid.mk (And.intro M1 (And.intro J1 K1))
      clear hrel r1 s1 M1 J1 K1 V1 P1 U1 E1 hls
      go_wp2
      rw [Exit.noGoto_ret]
      go_ret
      exact ⟨rfl, ⟨nv1, by rw [← hV2.out]; exact HH.out.1⟩, HH.out.2⟩
    | succ q =>
      obtain ⟨init, l, rfl, hq⟩ := snoc_of hls
      obtain ⟨o, c, ci, rfl, Fl, Sl⟩ := s1.split
      have hci : ci.length = q := by rw [Sl.len, hq]
      rw [hls] at r1
      obtain ⟨g, cap, rfl, hc1, hc2, hg1, hg2⟩ := own_form r1
      obtain ⟨cl, zl⟩ := own_lastCell r1 hci
      obtain ⟨Pl, Ll⟩ := P1 l (by simp)
      have hqm : Hid (2 * unm m met + (q + 1) = gk) := ⟨by rw [← hls]; exact E1⟩
      have bw1 : Hid (lo ≤ wr.heap.size) := ⟨Nat.le_trans HW.out K1.bel.size⟩
      have hq1 : q ≤ 1000000 := by have := hqm.out; omega
      have hgkH := Hid.mk hgk
      have w1 : IntKind.i64.wrap (((q + 1 : Nat) : Int) - 1) = (q : Int) := by rw [IntKind.wrap_i64]; omega
      have hqp : ((q + 1 : Nat) : Int) > 0 := by omega
      have cap1 := Fl.1
      obtain ⟨n, hn⟩ : ∃ n, l.length = n := ⟨_, rfl⟩
      rw [hn] at cl cap1 Ll r1
      have HN := Hid.mk hn
      have HFl := Hid.mk Fl
      have HSl := Hid.mk Sl
      have HM1 := Hid.mk M1
      have HJ1 := Hid.mk J1
      have HK1 := Hid.mk K1
      have HV1 := Hid.mk V1
      have HP1 := Hid.mk P1
      have HU1 := Hid.mk U1
      have Hr1 := Hid.mk r1
      have HPl := Hid.mk Pl
      have Hhq := Hid.mk hq
      have Hhci := Hid.mk hci
      clear hrel r1 s1 M1 J1 K1 V1 P1 U1 E1 hls Fl Sl Pl hn hq hci hgk
      go_wp2
      go_loopg [5, 24] n (fun k lv cv wq => ∃ i : Nat, i + k = n ∧ lv = .slice (some ⟨g, 0, none⟩) (q + 1) cap ∧ cv = .int .i64 i ∧ Hid (∀ j (h : j < l.length), j < i → ¬ newP met l[j]) ∧ Hid (Below wr.heap.size wr wq))
      case atStart => exact ⟨0, by omega, rfl, rfl, ⟨fun j _ hj => absurd hj (Nat.not_lt_zero _)⟩, ⟨Below.refl _ _⟩⟩
      case round =>
        obtain ⟨i, hik, rfl, rfl, HS, HB⟩ := hrel
        have bq : Hid (lo ≤ wr.heap.size) := ⟨Nat.le_trans bw1.out HB.out.size⟩
        have bqb : base ≤ wr.heap.size := Nat.le_trans bl bq.out
        have r2 := own_later Hr1.out HB.out
        obtain ⟨cl2, zl2⟩ := own_lastCell r2 Hhci.out
        have M2 := HM1.out.later (Nat.le_trans bl bw1.out) HB.out
        have HM2 := Hid.mk M2
        have J2 := HL.out.keep _ _ HJ1.out (Ky.later (Nat.le_trans bl bw1.out) HB.out)
        have HJ2 := Hid.mk J2
        have Hr2 := Hid.mk r2
        clear r2 J2
        cases gk with
        | zero =>
          have hin : i = n := by omega
          subst hin
          have hdone : Hid (vis (fun n => (D n).ks) (m + 1) l met = met) := ⟨vis_done fun x hx => by
            obtain ⟨j, hj, rfl⟩ := List.getElem_of_mem hx
            exact HS.out j hj (by rw [← HN.out]; exact hj)⟩
          clear M2 cl2 zl2
          go_wp2
          go_roundg (2 * unm m met + q)
          case measure => have := hqm.out; omega
          case rel =>
            refine ⟨⟨init, met, nv1, ci, ?_, HSl.out.map (fun q => q.later HB.out), HM2.out, HJ2.out, HK1.out.trans (Ky.later (Nat.le_trans bl bw1.out) HB.out), ?_, fun x hx => HP1.out x (by simp [hx]), HU1.out, by rw [Hhq.out]⟩, by have := hqm.out; have := hgkH.out; omega⟩
            · rw [Hhq.out]; exact own_cutLast Hr2.out Hhci.out
            · have := HV1.out
              rw [List.reverse_append] at this
              simp only [List.reverse_cons, List.reverse_nil, List.nil_append, List.cons_append, visS] at this
              rw [hdone.out] at this
              exact this
        | succ gq =>
          have hin : i < n := by omega
          have kl : i < l.length := by rw [HN.out]; exact hin
          have hin' : (i : Int) < n := by omega
          obtain ⟨qo, off, cc, rfl, ho1, ho2, ho3, ho4⟩ := HFl.out.2.2 (by omega)
          have cx : wr.cell? ⟨qo, off + i, none⟩ = some (.int .i64 l[i]) := by
            obtain ⟨g1, f1, e1, cx⟩ := (HFl.out.later HB.out).ps.get i kl
            simp only [Option.some.injEq, Addr.mk.injEq, and_true] at e1
            obtain ⟨rfl, rfl⟩ := e1
            exact cx
          have hpx := HPl.out _ (List.getElem_mem kl)
          have hix := isI_plc hm hpx
          have CN := isNew50 M2 hix hpx.1
          have HZ : Hid (∀ j (h : j < l.length), j = i → ¬ newP met l[i] → ¬ newP met l[j]) := ⟨fun j h e q => by subst e; exact q⟩
          have hsplit : Hid (l = l.take i ++ l[i] :: l.drop (i + 1)) := ⟨by rw [← List.drop_eq_getElem_cons kl]; exact (List.take_append_drop i l).symm⟩
          generalize hy : l[i] = y at *
          have HY := Hid.mk hy
          have HCN := Hid.mk CN
          clear CN hy M2
          by_cases hnew : newP met y
          case neg =>
            rw [decide_eq_false hnew] at HCN
            have hnn := Hid.mk hnew
            clear hnew
            go_wp2_with (go_at_call 50; refine HCN.out.mono ?_; clear HCN; rintro e w5 ⟨rfl, B5⟩; have HB5 := Hid.mk B5; clear B5)
            go_roundg gq
            case measure => omega
            case rel => exact ⟨i + 1, by omega, rfl, by go_num, ⟨fun j h hj => (Nat.lt_succ_iff_lt_or_eq.1 hj).elim (HS.out j h) (fun e => HZ.out j h e hnn.out)⟩, ⟨belowOn HB.out HB5.out⟩⟩
          case pos =>
          obtain ⟨p, rfl⟩ : ∃ p : Nat, y = p := ⟨y.toNat, by have := hnew.1; omega⟩
          rw [decide_eq_true hnew] at HCN
          have hpm : p < m := by omega
          have hpos : pos met p = none := hnew.2
          have hnn := Hid.mk hnew
          have CM := fun (W : World) (B : Below wr.heap.size wr W) => meet51 HL.out (HL.out.keep _ _ HJ2.out (Ky.later bqb B)) (HM2.out.later bqb B) (Nat.le_trans bq.out B.size) hpm hm hpos (by have := HU1.out; omega)
          have HCM := Hid.mk CM
          have HPOS := Hid.mk hpos
          clear CM hnew hpos
          obtain ⟨n2, hn2⟩ : ∃ n2, (D p).ks.length = n2 := ⟨_, rfl⟩
          have HN2 := Hid.mk hn2
          rw [hn2] at HCM
          clear hn2
          have wi : IntKind.i64.wrap ((i : Int) + 1) = ((i + 1 : Nat) : Int) := by rw [IntKind.wrap_i64]; have := HFl.out.2.1; omega
          obtain ⟨i0, hi, hz0, hz1, hz2⟩ := info_parts' info22
          by_cases hcz : c = i + 1
          case pos =>
            subst hcz
            have HFU : Hid (∀ W, Ky base X [67, 34, 22, 71] wr W → Fs lo X W .i64 3 (some ⟨qo, off, none⟩) (0) (l.drop (i + 1))) := ⟨fun W K => by
              have e : l.drop (i + 1) = [] := List.drop_eq_nil_of_le (by have := HN.out; omega)
              rw [e]
              exact ⟨Nat.le_refl _, Nat.zero_le _, fun h => absurd h (Nat.lt_irrefl _)⟩⟩
            go_wp2_with (first
              | (go_at_call 50; refine HCN.out.mono ?_; clear HCN; rintro e w5 ⟨rfl, B5⟩; have HB5 := Hid.mk B5; clear B5)
              | (go_at_call 51; refine (HCM.out _ HB5.out).mono ?_; clear HCM; rintro e w6 ⟨o6, c6, nv6, rfl, F6, M6, J6, K6⟩; have H6 := Hid.mk (And.intro F6 (And.intro M6 (And.intro J6 K6))); have r6 := own_ky (own_later Hr2.out HB5.out) K6 (by decide) HX.out; obtain ⟨cl6, zl6⟩ := own_lastCell r6 Hhci.out; have Hr6 := Hid.mk r6; have bq6 : lo ≤ w6.heap.size := Nat.le_trans (Nat.le_trans bq.out HB5.out.size) K6.bel.size; clear F6 M6 J6 K6 r6)
              | (at_builtin; go_loud (refine wpList_append_lies _ rfl (.tmp 52) (.tmp 54) 79 rfl lo 22 i0 _ 1 24 Try.underlying79 hi hz0 hz1 hz2 rfl (by decide) (.slice (some ⟨g, 0, none⟩) (q + 1) cap) (q + 1) (ci ++ [.slice (some ⟨qo, off, none⟩) 0 0]) rfl (own_later (own_setLast Hr6.out Hhci.out) (Joins.below_alloc1 _ _)) ⟨w6.heap.size, 0, none⟩ 1 1 [.slice o6 n2 c6] rfl rfl (World.news_of_block (by have q9 := heap_alloc_new (w6.setCell ⟨g, q, none⟩ (.slice (some ⟨qo, off, none⟩) 0 0)) (.cells #[.slice o6 n2 c6] 22); simpa using q9)) (by simp [Value.oneCell']) (by decide) (by unfold Go.maxLen; omega) (by omega) (by simp; omega) _ rfl ?_; intro gz cz w9 hown hgr hat hlt; have H9 := Hid.mk (And.intro hown hgr); clear hown hgr hat hlt)))
            go_roundg (2 * unm m (met ++ [p]) + (q + 2))
            case measure =>
              have := unm_app hpm HPOS.out
              have := hqm.out
              omega
            case rel =>
              obtain ⟨F6, M6, J6, K6⟩ := H6.out
              obtain ⟨hown, hgr⟩ := H9.out
              obtain ⟨cur6, g1, g2, _⟩ := own_parts Hr6.out
              have bq6b : base ≤ w6.heap.size := Nat.le_trans bl bq6
              have KA : Kt base 22 w6 (w6.setCell ⟨g, q, none⟩ (.slice (some ⟨qo, off, none⟩) 0 0)) := Kt.set g2 (Nat.le_trans bl g1)
              have KB : Kt base 22 (w6.setCell ⟨g, q, none⟩ (.slice (some ⟨qo, off, none⟩) 0 0)) ((w6.setCell ⟨g, q, none⟩ (.slice (some ⟨qo, off, none⟩) 0 0)).alloc (.cells #[.slice o6 n2 c6] 22)) := Kt.later (Nat.le_trans bq6b KA.bel.size) (Joins.below_alloc1 _ _)
              have KC : Kt base 22 ((w6.setCell ⟨g, q, none⟩ (.slice (some ⟨qo, off, none⟩) 0 0)).alloc (.cells #[.slice o6 n2 c6] 22)) w9 := Kt.own hgr (own_mono (own_later (own_setLast Hr6.out Hhci.out) (Joins.below_alloc1 _ _)) bl) (Nat.le_trans (Nat.le_trans bq6b KA.bel.size) KB.bel.size)
              have KT := (KA.trans KB).trans KC
              have KR : Ky base X [67, 34, 22, 71] wr w9 := ((Ky.later bqb HB5.out).trans (K6.mono (by simp))).trans (KT.ky.any.mono (by simp))
              have hun := unm_app hpm HPOS.out
              have hl2 : ((init ++ [l.drop (i + 1)]) ++ [(D p).ks]).length = q + 1 + 1 := by simp [Hhq.out]
              have hld : (l.drop (i + 1)).length = 0 := by rw [List.length_drop, HN.out]; omega
              have S9 := ((HSl.out.map (fun q => (q.later HB.out).ky KR (by decide))).snoc (HFU.out w9 KR)).snoc (F6.ky KT.ky.any (by decide))
              rw [hld, HN2.out] at S9
              refine ⟨⟨_, met ++ [p], nv6, _, by rw [hl2]; exact hown, S9, M6.kt KT, HL.out.keep _ _ J6 (KT.ky.mono (by simp)), (HK1.out.trans (Ky.later (Nat.le_trans bl bw1.out) HB.out)).trans KR, ?_, ?_, ?_, by rw [hl2]⟩, ?_⟩
              · have h1 := HV1.out
                rw [List.reverse_append] at h1
                simp only [List.reverse_append, List.reverse_cons, List.reverse_nil, List.nil_append, List.cons_append, visS] at h1 ⊢
                have h2 := vis_meet (D := fun n => (D n).ks) (m := m) (F := m) HD.out (l := l.take i) (r := l.drop (i + 1)) (x := (p : Int)) (met := met) (by rw [← hsplit.out]; exact HPl.out) (fun y hy => by
                  obtain ⟨j, hj, rfl⟩ := List.getElem_of_mem hy
                  rw [List.length_take] at hj
                  rw [List.getElem_take]
                  exact HS.out j (by omega) (by omega)) hnn.out (by have : unm m met ≤ m := cnt_max _ m; omega)
                rw [← hsplit.out, Int.toNat_natCast] at h2
                rw [h2] at h1
                exact h1
              · intro x hx
                rcases List.mem_append.1 hx with hx | hx
                · rcases List.mem_append.1 hx with hx | hx
                  · exact HP1.out x (by simp [hx])
                  · have e : x = l.drop (i + 1) := by simpa using hx
                    subst e
                    exact ⟨fun y hy => HPl.out y (List.mem_of_mem_drop hy), by rw [hld]; omega⟩
                · have e : x = (D p).ks := by simpa using hx
                  subst e
                  exact ⟨HD.out p, HDl.out p⟩
              · have := HU1.out; rw [List.length_append]; have l1 : [p].length = 1 := rfl; omega
              · have := hqm.out; have := hgkH.out; omega
          case neg =>
            have hcz1 : ¬ (c - (i + 1) = 0) := by omega
            have hcz2 : ¬ ((c : Int) - ((i : Int) + 1) = 0) := by omega
            have HFU : Hid (∀ W, Ky base X [67, 34, 22, 71] wr W → Fs lo X W .i64 3 (some ⟨qo, off + (i + 1), none⟩) (c - (i + 1)) (l.drop (i + 1))) := ⟨fun W K => by
              exact ((HFl.out.later HB.out).ky K (by decide)).drop (i + 1) (by have := HN.out; omega)⟩
            go_wp2_with (first
              | (go_at_call 50; refine HCN.out.mono ?_; clear HCN; rintro e w5 ⟨rfl, B5⟩; have HB5 := Hid.mk B5; clear B5)
              | (go_at_call 51; refine (HCM.out _ HB5.out).mono ?_; clear HCM; rintro e w6 ⟨o6, c6, nv6, rfl, F6, M6, J6, K6⟩; have H6 := Hid.mk (And.intro F6 (And.intro M6 (And.intro J6 K6))); have r6 := own_ky (own_later Hr2.out HB5.out) K6 (by decide) HX.out; obtain ⟨cl6, zl6⟩ := own_lastCell r6 Hhci.out; have Hr6 := Hid.mk r6; have bq6 : lo ≤ w6.heap.size := Nat.le_trans (Nat.le_trans bq.out HB5.out.size) K6.bel.size; clear F6 M6 J6 K6 r6)
              | (at_builtin; go_loud (refine wpList_append_lies _ rfl (.tmp 52) (.tmp 54) 79 rfl lo 22 i0 _ 1 24 Try.underlying79 hi hz0 hz1 hz2 rfl (by decide) (.slice (some ⟨g, 0, none⟩) (q + 1) cap) (q + 1) (ci ++ [.slice (some ⟨qo, off + (i + 1), none⟩) (n - (i + 1)) (c - (i + 1))]) rfl (own_later (own_setLast Hr6.out Hhci.out) (Joins.below_alloc1 _ _)) ⟨w6.heap.size, 0, none⟩ 1 1 [.slice o6 n2 c6] rfl rfl (World.news_of_block (by have q9 := heap_alloc_new (w6.setCell ⟨g, q, none⟩ (.slice (some ⟨qo, off + (i + 1), none⟩) (n - (i + 1)) (c - (i + 1)))) (.cells #[.slice o6 n2 c6] 22); simpa using q9)) (by simp [Value.oneCell']) (by decide) (by unfold Go.maxLen; omega) (by omega) (by simp; omega) _ rfl ?_; intro gz cz w9 hown hgr hat hlt; have H9 := Hid.mk (And.intro hown hgr); clear hown hgr hat hlt)))
            go_roundg (2 * unm m (met ++ [p]) + (q + 2))
            case measure =>
              have := unm_app hpm HPOS.out
              have := hqm.out
              omega
            case rel =>
              obtain ⟨F6, M6, J6, K6⟩ := H6.out
              obtain ⟨hown, hgr⟩ := H9.out
              obtain ⟨cur6, g1, g2, _⟩ := own_parts Hr6.out
              have bq6b : base ≤ w6.heap.size := Nat.le_trans bl bq6
              have KA : Kt base 22 w6 (w6.setCell ⟨g, q, none⟩ (.slice (some ⟨qo, off + (i + 1), none⟩) (n - (i + 1)) (c - (i + 1)))) := Kt.set g2 (Nat.le_trans bl g1)
              have KB : Kt base 22 (w6.setCell ⟨g, q, none⟩ (.slice (some ⟨qo, off + (i + 1), none⟩) (n - (i + 1)) (c - (i + 1)))) ((w6.setCell ⟨g, q, none⟩ (.slice (some ⟨qo, off + (i + 1), none⟩) (n - (i + 1)) (c - (i + 1)))).alloc (.cells #[.slice o6 n2 c6] 22)) := Kt.later (Nat.le_trans bq6b KA.bel.size) (Joins.below_alloc1 _ _)
              have KC : Kt base 22 ((w6.setCell ⟨g, q, none⟩ (.slice (some ⟨qo, off + (i + 1), none⟩) (n - (i + 1)) (c - (i + 1)))).alloc (.cells #[.slice o6 n2 c6] 22)) w9 := Kt.own hgr (own_mono (own_later (own_setLast Hr6.out Hhci.out) (Joins.below_alloc1 _ _)) bl) (Nat.le_trans (Nat.le_trans bq6b KA.bel.size) KB.bel.size)
              have KT := (KA.trans KB).trans KC
              have KR : Ky base X [67, 34, 22, 71] wr w9 := ((Ky.later bqb HB5.out).trans (K6.mono (by simp))).trans (KT.ky.any.mono (by simp))
              have hun := unm_app hpm HPOS.out
              have hl2 : ((init ++ [l.drop (i + 1)]) ++ [(D p).ks]).length = q + 1 + 1 := by simp [Hhq.out]
              have hld : (l.drop (i + 1)).length = n - (i + 1) := by rw [List.length_drop, HN.out]
              have S9 := ((HSl.out.map (fun q => (q.later HB.out).ky KR (by decide))).snoc (HFU.out w9 KR)).snoc (F6.ky KT.ky.any (by decide))
              rw [hld, HN2.out] at S9
              refine ⟨⟨_, met ++ [p], nv6, _, by rw [hl2]; exact hown, S9, M6.kt KT, HL.out.keep _ _ J6 (KT.ky.mono (by simp)), (HK1.out.trans (Ky.later (Nat.le_trans bl bw1.out) HB.out)).trans KR, ?_, ?_, ?_, by rw [hl2]⟩, ?_⟩
              · have h1 := HV1.out
                rw [List.reverse_append] at h1
                simp only [List.reverse_append, List.reverse_cons, List.reverse_nil, List.nil_append, List.cons_append, visS] at h1 ⊢
                have h2 := vis_meet (D := fun n => (D n).ks) (m := m) (F := m) HD.out (l := l.take i) (r := l.drop (i + 1)) (x := (p : Int)) (met := met) (by rw [← hsplit.out]; exact HPl.out) (fun y hy => by
                  obtain ⟨j, hj, rfl⟩ := List.getElem_of_mem hy
                  rw [List.length_take] at hj
                  rw [List.getElem_take]
                  exact HS.out j (by omega) (by omega)) hnn.out (by have : unm m met ≤ m := cnt_max _ m; omega)
                rw [← hsplit.out, Int.toNat_natCast] at h2
                rw [h2] at h1
                exact h1
              · intro x hx
                rcases List.mem_append.1 hx with hx | hx
                · rcases List.mem_append.1 hx with hx | hx
                  · exact HP1.out x (by simp [hx])
                  · have e : x = l.drop (i + 1) := by simpa using hx
                    subst e
                    exact ⟨fun y hy => HPl.out y (List.mem_of_mem_drop hy), by rw [hld]; omega⟩
                · have e : x = (D p).ks := by simpa using hx
                  subst e
                  exact ⟨HD.out p, HDl.out p⟩
              · have := HU1.out; rw [List.length_append]; have l1 : [p].length = 1 := rfl; omega
              · have := hqm.out; have := hgkH.out; omega
end
end Go.Proofs.Ytncimddgkgclpaa
