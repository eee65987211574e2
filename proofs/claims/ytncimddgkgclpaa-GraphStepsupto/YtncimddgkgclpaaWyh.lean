/- The way's end. -/
import Derived.Test.YtncimddgkgclpaaWyg
namespace Go.Proofs.Ytncimddgkgclpaa
open Go.RowKit
set_option linter.unusedVariables false
set_option linter.unusedSimpArgs false
set_option maxRecDepth 100000

/-- where going on from a number ends -/
noncomputable def endI (g : List Nd) (n : Int) : Int := if 0 ≤ n ∧ n < g.length then oI (endF g n.toNat) else -1
section
variable {w0 w w' : World} {wb eb sb ca : Nat} {g : List Nd} {a : Option Addr} {E S : Nat → Int} {v : Value} {P : List (Nat × Bool)}
/-- the way between two of its steps; M: how much is left to be done -/
def St27 (w0 w wr : World) (wb eb sb : Nat) (g : List Nd) (a : Option Addr) (ca n x M : Nat) : Prop :=
  ∃ E1 S1 v1 P1, Wy w0 wr wb eb sb g a ca E1 S1 v1 P1 ∧ Iw g E1 S1 P1 ∧ Chn g P1 n x ∧ fresh E1 S1 g.length + P1.length ≤ g.length ∧ 3 * fresh E1 S1 g.length + nl P1 + P1.length = M ∧ Kx w0.heap.size (Xw wb eb sb) w wr
theorem St27.tell {wr : World} {n x M : Nat} (h : St27 w0 w wr wb eb sb g a ca n x M) : (∃ v l c, wr.cell? ⟨wb, 2, none⟩ = some (.slice v l c) ∧ (l = 0 → n = x)) := by
  obtain ⟨E1, S1, v1, P1, H1, I1, C1, F1, F2, K⟩ := h
  obtain ⟨ga, pc, e⟩ := H1.form
  refine ⟨ga, _, pc, by rw [H1.c2, e], fun e0 => ?_⟩
  have : P1 = [] := List.eq_nil_of_length_eq_zero e0
  subst this
  exact C1
theorem Wy.zpath {pb k cap : Nat} (h : Wy w0 w wb eb sb g a ca E S (.slice (some ⟨pb, 0, none⟩) k cap) P) (hp : 0 < P.length) (i : Nat) : w.frozen? ⟨pb, i, none⟩ = false := by
  obtain ⟨pb', cap', e, _, _, _, _, _, _, ⟨cur, hg, _⟩, _⟩ := h.row hp
  have : pb' = pb := by simp at e; exact e.1.symm
  subst this
  exact Joins.unfrozen_of_block hg i
theorem snoc_of {α : Type} {l : List α} {n : Nat} (h : l.length = n + 1) : ∃ l' x, l = l' ++ [x] ∧ l'.length = n := by
  have e : l ≠ [] := fun e => by simp [e] at h
  exact ⟨l.dropLast, l.getLast e, (List.dropLast_concat_getLast e).symm, by simp [h]⟩
set_option maxHeartbeats 16000000 in
theorem end27 (h : Wy w0 w wb eb sb g a ca E S v []) (I : Iw g E S []) (n : Int) (hm : g.length ≤ 1000) (ok : ∀ x, x < g.length → OkN (nd0 g x)) :
    Calls Try.prog 27 #[pt wb, .int .i64 n] w fun e w' => e = .returned (.int .i64 (endI g n)) ∧ (∃ E' S' v', Wy w0 w' wb eb sb g a ca E' S' v' [] ∧ Iw g E' S' []) ∧ Kx w0.heap.size (Xw wb eb sb) w w' := by
  obtain ⟨m, hm'⟩ : ∃ m, g.length = m := ⟨_, rfl⟩
  have HM := Hid.mk hm'
  have H0 := Hid.mk h
  have HI := Hid.mk I
  have HOK := Hid.mk ok
  have c0 := h.c0
  rw [hm'] at c0 hm
  have IN := isNode_any n m w
  clear h I ok
  by_cases hr : 0 ≤ n ∧ n < m
  case neg =>
    have HE : Hid (endI g n = -1) := ⟨if_neg (by rw [hm']; exact hr)⟩
    rw [decide_eq_false hr] at IN
    clear hm' hr
    go_enter Try.func27, Try.ntmps27
    go_wp2_with (go_at_call 40; refine IN.mono ?_; clear IN; rintro e w1 ⟨rfl, hw⟩; rw [hw]; clear hw)
    go_ret
    exact ⟨by rw [HE.out]; rfl, ⟨E, S, v, H0.out, HI.out⟩, Kx.refl _ _ _⟩
  case pos =>
  obtain ⟨N, rfl⟩ : ∃ N : Nat, n = N := ⟨n.toNat, by omega⟩
  have hN : N < m := by omega
  have HE : Hid (endI g N = oI (endF g N)) := ⟨by unfold endI; rw [if_pos (by rw [hm']; exact hr)]; simp⟩
  rw [decide_eq_true hr] at IN
  have FW := forward42 (n := N) (n0 := N) H0.out HI.out (by rw [hm']; exact hN) rfl (by rw [hm']; exact hm) (by simp)
  have hfr : Hid (fresh E S g.length ≤ g.length) := ⟨cnt_max _ _⟩
  clear hm' hr
  go_enter Try.func27, Try.ntmps27
  go_wp2_with (first | (go_at_call 40; refine IN.mono ?_; clear IN; rintro e w1 ⟨rfl, hw⟩; rw [hw]; clear hw) | (go_at_call 42; refine FW.mono ?_; clear FW; rintro e w2 ⟨x0, rfl, FD⟩; have HFD := Hid.mk FD; clear FD))
  go_loopw [5] (fun cv wr => ∃ (x : Nat), cv = .int .i64 (oI (endF g x)) ∧ x < m ∧ Hid (∃ M, St27 w0 w wr wb eb sb g a ca N x M)) (fun cv wr => least (fun M => ∃ x, cv = .int .i64 (oI (endF g x)) ∧ x < m ∧ St27 w0 w wr wb eb sb g a ca N x M))
  case atStart =>
    obtain ⟨lx, ⟨E1, S1, v1, P1, H1, I1, C1, F1⟩, K1⟩ := HFD.out
    exact ⟨x0, rfl, by rw [← HM.out]; exact lx, ⟨_, E1, S1, v1, P1, H1, I1, C1, Nat.le_trans F1 hfr.out, rfl, K1⟩⟩
  case round =>
    obtain ⟨x', rfl, hx', ⟨M', hM'⟩⟩ := hrel
    have hmin : Hid (∃ M, (∃ x, Value.int IntKind.i64 (oI (endF g x')) = .int .i64 (oI (endF g x)) ∧ x < m ∧ St27 w0 w wr wb eb sb g a ca N x M) ∧ least (fun M => ∃ x, Value.int IntKind.i64 (oI (endF g x')) = .int .i64 (oI (endF g x)) ∧ x < m ∧ St27 w0 w wr wb eb sb g a ca N x M) = M) := ⟨⟨_, least_at (p := fun M => ∃ x, Value.int IntKind.i64 (oI (endF g x')) = .int .i64 (oI (endF g x)) ∧ x < m ∧ St27 w0 w wr wb eb sb g a ca N x M) ⟨M', x', rfl, hx', hM'⟩, rfl⟩⟩
    obtain ⟨M, ⟨x, ex, hx, hs⟩, hleast⟩ := hmin.out
    have ex' : oI (endF g x') = oI (endF g x) := by simpa using ex
    have HL := Hid.mk hleast
    clear hM' hleast hmin
    rw [ex'] at HL ⊢
    clear ex ex' hx'
    obtain ⟨E1, S1, v1, P1, H1, I1, C1, F1, F2, K1⟩ := hs
    obtain ⟨ga, pc, ev⟩ := H1.form
    subst ev
    have c2 := H1.c2
    have HF1 := Hid.mk F1
    have HF2 := Hid.mk F2
    have HK1 := Hid.mk K1
    have HH1 := Hid.mk H1
    have HI1 := Hid.mk I1
    cases hp : P1.length with
    | zero =>
      have e1 : P1 = [] := List.eq_nil_of_length_eq_zero hp
      subst e1
      have e2 : N = x := C1
      subst e2
      clear H1 I1 C1 F1 F2 K1 hp
      go_wp2
      go_ret
      exact ⟨by rw [HE.out]; rfl, ⟨E1, S1, _, HH1.out, HI1.out⟩, HK1.out⟩
    | succ q =>
      obtain ⟨Q, ⟨l, b⟩, rfl, hQ⟩ := snoc_of hp
      subst hQ
      obtain ⟨C2, W2⟩ := C1.last
      have W2' : Hid (Wt g (l, b) x) := ⟨W2⟩
      obtain ⟨pb, cap, ev, hc1, hc2, hb1, hb2, hb3, hb4, _, hcell⟩ := H1.row (by simp)
      have hl2 : (Q ++ [(l, b)]).length = Q.length + 1 := by simp
      obtain ⟨cl, cb⟩ := hcell Q.length (by simp)
      rw [hl2] at hc1 c2 HH1
      simp only [Value.slice.injEq] at ev
      obtain ⟨rfl, _, rfl⟩ := ev
      simp only [List.getElem_concat_length] at cl cb
      have hlm : l < m := by rw [← HM.out]; exact W2.lt.1
      have HC2 := Hid.mk C2
      have hq : Hid (Q.length + 1 ≤ m) := ⟨by have := HF1.out; rw [hl2, HM.out] at this; omega⟩
      obtain ⟨q, hq'⟩ : ∃ q, Q.length = q := ⟨_, rfl⟩
      have HQ := Hid.mk hq'
      rw [hq'] at c2 hc1 cl cb hq
      have hq2 := hq.out
      have s1 : IntKind.i64.wrap (((q + 1 : Nat) : Int) - 1) = (q : Int) := by rw [IntKind.wrap_i64]; omega
      have s2 : ((q + 1 : Nat) : Int) > 0 := by omega
      have c1 := H1.c1
      rw [HM.out] at c1
      have ce := H1.ends.cell (i := l) (by rw [HM.out]; exact hlm)
      have ze := H1.ends.z l
      have zp := Joins.unfrozen_of_block H1.box 2
      obtain ⟨n1, n2, n3, n4, n5⟩ := H1.no
      clear hcell H1 I1 C1 C2 W2 F1 F2 K1 hq' hp hl2
      cases b with
      | true =>
        have he : Hid (endF g l = endF g x) := ⟨endF_lead (by simpa [Wt] using W2'.out)⟩
        go_wp2
        go_quiet (fail)
        have BW := below_drewN (Below.refl wr.heap.size wr) nq
        have HHW := Hid.mk (HH1.out.later BW)
        have HKW := Hid.mk (HK1.out.trans (Kx.later HH1.out.bel.size BW))
        have d1 := cellLater BW c1
        have d2 := cellLater BW c2
        have dcl := cellLater BW cl
        have dcb := cellLater BW cb
        have de := cellLater BW ce
        have dz := HHW.out.ends.z l
        have dzp := Joins.unfrozen_of_block HHW.out.box 2
        generalize wr.drewN nq = W at *
        have HBW := Hid.mk BW
        clear c1 c2 cl cb ce ze zp BW
        have hval : Hid (oI (endF g x) = oI (endF g l)) := ⟨by rw [he.out]⟩
        have hv2 : Hid (oI (endF g x) ≠ -2) := ⟨oI_ne _⟩
        go_wp2
        go_region
        have H3 := ((HHW.out).setE (x := l) (by rw [HM.out]; exact hlm) (oI (endF g x))).later (show Below _ (W.setCell ⟨eb, l, none⟩ (.int .i64 (oI (endF g x)))) (W.setCell ⟨eb, l, none⟩ (.int .i64 (oI (endF g x)))).drew from (Below.refl _ _).drew)
        have K3 : Kx w0.heap.size (Xw wb eb sb) w (W.setCell ⟨eb, l, none⟩ (.int .i64 (oI (endF g x)))).drew := HKW.out.trans ((Kx.set (.inr (.inl rfl)) HHW.out.lo.2.1).trans (Kx.later (HHW.out.setE (x := l) (by rw [HM.out]; exact hlm) (oI (endF g x))).bel.size (Below.refl _ _).drew))
        generalize (W.setCell ⟨eb, l, none⟩ (.int .i64 (oI (endF g x)))).drew = W3 at *
        have e2 := H3.c2
        rw [HQ.out] at e2
        have e3 := Joins.unfrozen_of_block H3.box 2
        have HH3 := Hid.mk H3
        have HK3 := Hid.mk K3
        clear H3 K3 d1 d2 de dz dzp dcl dcb
        go_wp2
        go_region
        obtain ⟨H4, K4⟩ := HH3.out.pop
        rw [HQ.out] at H4 K4
        have H5 := H4.later (show Below _ (W3.setCell ⟨wb, 2, none⟩ (.slice (some ⟨pb, 0, none⟩) q pc)) (W3.setCell ⟨wb, 2, none⟩ (.slice (some ⟨pb, 0, none⟩) q pc)).drew from (Below.refl _ _).drew)
        have K5 := K4.trans (Kx.later H4.bel.size (show Below _ (W3.setCell ⟨wb, 2, none⟩ (.slice (some ⟨pb, 0, none⟩) q pc)) (W3.setCell ⟨wb, 2, none⟩ (.slice (some ⟨pb, 0, none⟩) q pc)).drew from (Below.refl _ _).drew))
        have HS : Hid (St27 w0 w (W3.setCell ⟨wb, 2, none⟩ (.slice (some ⟨pb, 0, none⟩) q pc)).drew wb eb sb g a ca N l (3 * fresh (upd E1 l (oI (endF g x))) S1 g.length + nl Q + Q.length) ∧ 3 * fresh (upd E1 l (oI (endF g x))) S1 g.length + nl Q + Q.length < M) := by
          have f1 := fresh_set (E := E1) (S := S1) (m := g.length) (x := l) (by rw [HM.out]; exact hlm) (oI (endF g x)) hv2.out
          have f2 := HF1.out
          have f3 := HF2.out
          rw [nl_app] at f3
          have f4 : (Q ++ [(l, true)]).length = Q.length + 1 := by simp
          rw [f4] at f2 f3
          exact ⟨⟨⟨_, _, _, Q, H5, HI1.out.pop hval.out, HC2.out, by omega, rfl, HK3.out.trans K5⟩, by omega⟩⟩
        clear H4 K4 H5 K5
        go_roundw
        case rel =>
          refine ⟨_, _, _, _, _, _, _, _, _, _, _, _, _, _, _, _, _, _, _, _, _, _, _, _, _, _, _, _, _, _, _, _, _, _, _, _, _, _, _, _, _, _, _, _, _, _, _, _, _, _, _, _, _, _, _, _, _, _, _, _, _, _, _, _, _, _, _, _, ⟨l, ?_, hlm, ⟨_, HS.out.1⟩⟩, rfl⟩
          exact congrArg (Value.int .i64) hval.out
        case measure => exact Nat.lt_of_le_of_lt (least_le ⟨l, congrArg (Value.int .i64) hval.out, hlm, HS.out.1⟩) (Nat.lt_of_lt_of_le HS.out.2 (Nat.le_of_eq HL.out.symm))
      | false =>
        go_wp2
        go_quiet (fail)
        have BW := below_drewN (Below.refl wr.heap.size wr) nq
        have HHW := Hid.mk (HH1.out.later BW)
        have HKW := Hid.mk (HK1.out.trans (Kx.later HH1.out.bel.size BW))
        have d1 := cellLater BW c1
        have d2 := cellLater BW c2
        have dcl := cellLater BW cl
        have dcb := cellLater BW cb
        have de := cellLater BW ce
        have dz := HHW.out.ends.z l
        have dzp := Joins.unfrozen_of_block HHW.out.box 2
        generalize wr.drewN nq = W at *
        have HBW := Hid.mk BW
        clear c1 c2 cl cb ce ze zp BW
        cases hex : endF g x with
        | none =>
          have hself : Hid (endF g l = some l) := ⟨sel_self W2'.out (fun c e => by rw [hex] at e; cases e)⟩
          have CF : Calls Try.prog 43 #[pt wb, .int .i64 l, .int .i64 (-1)] W fun e w' => e = .returned (.int .i64 (-1)) ∧ Below W.heap.size W w' := (field_none wb l W).mono (by rintro e w' ⟨rfl, hw⟩; rw [hw]; exact ⟨rfl, Below.refl _ _⟩)
          have hval : Hid ((l : Int) = oI (endF g l)) := ⟨by rw [hself.out]; rfl⟩
          have hv2 : Hid ((l : Int) ≠ -2) := ⟨by omega⟩
          go_wp2_with (go_at_call 43; refine CF.mono ?_; clear CF; rintro e w5 ⟨rfl, B5⟩; have HHX := Hid.mk (HHW.out.later B5); replace HKW := Hid.mk (HKW.out.trans (Kx.later HHW.out.bel.size B5)); replace HHW := HHX; replace d1 := cellLater B5 d1; replace d2 := cellLater B5 d2; replace dcl := cellLater B5 dcl; replace dcb := cellLater B5 dcb; replace de := cellLater B5 de; replace dz := HHW.out.ends.z l; replace dzp := Joins.unfrozen_of_block HHW.out.box 2)
          go_region
          have H3 := ((HHW.out).setE (x := l) (by rw [HM.out]; exact hlm) (l : Int)).later (show Below _ (w5.setCell ⟨eb, l, none⟩ (.int .i64 (l : Int))) (w5.setCell ⟨eb, l, none⟩ (.int .i64 (l : Int))).drew from (Below.refl _ _).drew)
          have K3 : Kx w0.heap.size (Xw wb eb sb) w (w5.setCell ⟨eb, l, none⟩ (.int .i64 (l : Int))).drew := HKW.out.trans ((Kx.set (.inr (.inl rfl)) HHW.out.lo.2.1).trans (Kx.later (HHW.out.setE (x := l) (by rw [HM.out]; exact hlm) (l : Int)).bel.size (Below.refl _ _).drew))
          generalize (w5.setCell ⟨eb, l, none⟩ (.int .i64 (l : Int))).drew = W3 at *
          have e2 := H3.c2
          rw [HQ.out] at e2
          have e3 := Joins.unfrozen_of_block H3.box 2
          have HH3 := Hid.mk H3
          have HK3 := Hid.mk K3
          clear H3 K3 d1 d2 de dz dzp dcl dcb
          go_wp2
          go_region
          obtain ⟨H4, K4⟩ := HH3.out.pop
          rw [HQ.out] at H4 K4
          have H5 := H4.later (show Below _ (W3.setCell ⟨wb, 2, none⟩ (.slice (some ⟨pb, 0, none⟩) q pc)) (W3.setCell ⟨wb, 2, none⟩ (.slice (some ⟨pb, 0, none⟩) q pc)).drew from (Below.refl _ _).drew)
          have K5 := K4.trans (Kx.later H4.bel.size (show Below _ (W3.setCell ⟨wb, 2, none⟩ (.slice (some ⟨pb, 0, none⟩) q pc)) (W3.setCell ⟨wb, 2, none⟩ (.slice (some ⟨pb, 0, none⟩) q pc)).drew from (Below.refl _ _).drew))
          have HS : Hid (St27 w0 w (W3.setCell ⟨wb, 2, none⟩ (.slice (some ⟨pb, 0, none⟩) q pc)).drew wb eb sb g a ca N l (3 * fresh (upd E1 l (l : Int)) S1 g.length + nl Q + Q.length) ∧ 3 * fresh (upd E1 l (l : Int)) S1 g.length + nl Q + Q.length < M) := by
            have f1 := fresh_set (E := E1) (S := S1) (m := g.length) (x := l) (by rw [HM.out]; exact hlm) (l : Int) hv2.out
            have f2 := HF1.out
            have f3 := HF2.out
            rw [nl_app] at f3
            have f4 : (Q ++ [(l, false)]).length = Q.length + 1 := by simp
            rw [f4] at f2 f3
            exact ⟨⟨⟨_, _, _, Q, H5, HI1.out.pop hval.out, HC2.out, by omega, rfl, HK3.out.trans K5⟩, by omega⟩⟩
          clear H4 K4 H5 K5
          go_roundw
          case rel =>
            refine ⟨_, _, _, _, _, _, _, _, _, _, _, _, _, _, _, _, _, _, _, _, _, _, _, _, _, _, _, _, _, _, _, _, _, _, _, _, _, _, _, _, _, _, _, _, _, _, _, _, _, _, _, _, _, _, _, _, _, _, _, _, _, _, _, _, _, _, _, _, ⟨l, ?_, hlm, ⟨_, HS.out.1⟩⟩, rfl⟩
            exact congrArg (Value.int .i64) hval.out
          case measure => exact Nat.lt_of_le_of_lt (least_le ⟨l, congrArg (Value.int .i64) hval.out, hlm, HS.out.1⟩) (Nat.lt_of_lt_of_le HS.out.2 (Nat.le_of_eq HL.out.symm))
        | some c =>
          have hcm : c < g.length := endF_lt hex (by rw [HM.out]; exact hx)
          have CF := field43 HHW.out (s := l) (c := c) (by rw [HM.out]; exact hlm) hcm (HOK.out l (by rw [HM.out]; exact hlm))
          cases hf : fdO g.length (nd0 g l) (nd0 g c) with
          | none =>
            have hself : Hid (endF g l = some l) := ⟨sel_self W2'.out (fun c' e => by rw [hex] at e; cases e; exact hf)⟩
            rw [hf, show oI none = -1 from rfl] at CF
            clear hf hcm
            have hval : Hid ((l : Int) = oI (endF g l)) := ⟨by rw [hself.out]; rfl⟩
            have hv2 : Hid ((l : Int) ≠ -2) := ⟨by omega⟩
            go_wp2_with (go_at_call 43; refine CF.mono ?_; clear CF; rintro e w5 ⟨rfl, B5⟩; have HHX := Hid.mk (HHW.out.later B5); replace HKW := Hid.mk (HKW.out.trans (Kx.later HHW.out.bel.size B5)); replace HHW := HHX; replace d1 := cellLater B5 d1; replace d2 := cellLater B5 d2; replace dcl := cellLater B5 dcl; replace dcb := cellLater B5 dcb; replace de := cellLater B5 de; replace dz := HHW.out.ends.z l; replace dzp := Joins.unfrozen_of_block HHW.out.box 2)
            go_region
            have H3 := ((HHW.out).setE (x := l) (by rw [HM.out]; exact hlm) (l : Int)).later (show Below _ (w5.setCell ⟨eb, l, none⟩ (.int .i64 (l : Int))) (w5.setCell ⟨eb, l, none⟩ (.int .i64 (l : Int))).drew from (Below.refl _ _).drew)
            have K3 : Kx w0.heap.size (Xw wb eb sb) w (w5.setCell ⟨eb, l, none⟩ (.int .i64 (l : Int))).drew := HKW.out.trans ((Kx.set (.inr (.inl rfl)) HHW.out.lo.2.1).trans (Kx.later (HHW.out.setE (x := l) (by rw [HM.out]; exact hlm) (l : Int)).bel.size (Below.refl _ _).drew))
            generalize (w5.setCell ⟨eb, l, none⟩ (.int .i64 (l : Int))).drew = W3 at *
            have e2 := H3.c2
            rw [HQ.out] at e2
            have e3 := Joins.unfrozen_of_block H3.box 2
            have HH3 := Hid.mk H3
            have HK3 := Hid.mk K3
            clear H3 K3 d1 d2 de dz dzp dcl dcb
            go_wp2
            go_region
            obtain ⟨H4, K4⟩ := HH3.out.pop
            rw [HQ.out] at H4 K4
            have H5 := H4.later (show Below _ (W3.setCell ⟨wb, 2, none⟩ (.slice (some ⟨pb, 0, none⟩) q pc)) (W3.setCell ⟨wb, 2, none⟩ (.slice (some ⟨pb, 0, none⟩) q pc)).drew from (Below.refl _ _).drew)
            have K5 := K4.trans (Kx.later H4.bel.size (show Below _ (W3.setCell ⟨wb, 2, none⟩ (.slice (some ⟨pb, 0, none⟩) q pc)) (W3.setCell ⟨wb, 2, none⟩ (.slice (some ⟨pb, 0, none⟩) q pc)).drew from (Below.refl _ _).drew))
            have HS : Hid (St27 w0 w (W3.setCell ⟨wb, 2, none⟩ (.slice (some ⟨pb, 0, none⟩) q pc)).drew wb eb sb g a ca N l (3 * fresh (upd E1 l (l : Int)) S1 g.length + nl Q + Q.length) ∧ 3 * fresh (upd E1 l (l : Int)) S1 g.length + nl Q + Q.length < M) := by
              have f1 := fresh_set (E := E1) (S := S1) (m := g.length) (x := l) (by rw [HM.out]; exact hlm) (l : Int) hv2.out
              have f2 := HF1.out
              have f3 := HF2.out
              rw [nl_app] at f3
              have f4 : (Q ++ [(l, false)]).length = Q.length + 1 := by simp
              rw [f4] at f2 f3
              exact ⟨⟨⟨_, _, _, Q, H5, HI1.out.pop hval.out, HC2.out, by omega, rfl, HK3.out.trans K5⟩, by omega⟩⟩
            clear H4 K4 H5 K5
            go_roundw
            case rel =>
              refine ⟨_, _, _, _, _, _, _, _, _, _, _, _, _, _, _, _, _, _, _, _, _, _, _, _, _, _, _, _, _, _, _, _, _, _, _, _, _, _, _, _, _, _, _, _, _, _, _, _, _, _, _, _, _, _, _, _, _, _, _, _, _, _, _, _, _, _, _, _, ⟨l, ?_, hlm, ⟨_, HS.out.1⟩⟩, rfl⟩
              exact congrArg (Value.int .i64) hval.out
            case measure => exact Nat.lt_of_le_of_lt (least_le ⟨l, congrArg (Value.int .i64) hval.out, hlm, HS.out.1⟩) (Nat.lt_of_lt_of_le HS.out.2 (Nat.le_of_eq HL.out.symm))
          | some f =>
            rw [hf, show oI (some f) = (f : Int) from rfl] at CF
            have nf : ((f : Int) != -1) = true := by simp
            have hfl := fdO_lt hf
            have LW : Hid (Wt g (l, true) f) := ⟨sel_lead W2'.out hex hf⟩
            have hl3 : (Q ++ [(l, true)]).length ≤ 1000 := by have := hq.out; have := HQ.out; simp; omega
            clear hf hcm
            go_wp2_with (first | (go_at_call 43; refine CF.mono ?_; clear CF; rintro e w5 ⟨rfl, B5⟩; have HHX := Hid.mk (HHW.out.later B5); replace HKW := Hid.mk (HKW.out.trans (Kx.later HHW.out.bel.size B5)); replace HHW := HHX; replace d1 := cellLater B5 d1; replace d2 := cellLater B5 d2; replace dcl := cellLater B5 dcl; replace dcb := cellLater B5 dcb; replace de := cellLater B5 de; replace dz := HHW.out.ends.z l; replace dzp := Joins.unfrozen_of_block HHW.out.box 2; have dzb := HHW.out.zpath (by simp) (q * 2 + 1); have HL6 := HHW.out.lead; rw [HQ.out] at HL6; have FW2 := forward42 HL6.1 (HI1.out.lead (c := true)) hfl (HC2.out.app ⟨rfl, f, LW.out, rfl⟩) (by rw [HM.out]; exact hm) hl3; have HK6 := Hid.mk (HKW.out.trans HL6.2); clear HL6) | (go_at_call 42; refine FW2.mono ?_; clear FW2; rintro e w7 ⟨x1, rfl, FD⟩; have HFD2 := Hid.mk FD; clear FD))
            have HS : Hid (x1 < m ∧ ∃ M2, St27 w0 w w7 wb eb sb g a ca N x1 M2 ∧ M2 < M) := by
              obtain ⟨lx, ⟨E2, S2, v2, P2, H2, I2, C2, F2⟩, K2⟩ := HFD2.out
              have f2 := HF1.out
              have f3 := HF2.out
              have f4 : (Q ++ [(l, false)]).length = Q.length + 1 := by simp
              have f5 : ((Q ++ [(l, true)]) ++ P2).length = Q.length + 1 + P2.length := by simp; omega
              have f6 : nl (Q ++ [(l, false)]) = nl Q + 1 := by rw [nl_app]; rfl
              have f7 : nl ((Q ++ [(l, true)]) ++ P2) = nl Q + nl P2 := by rw [nl_app, nl_app]; rfl
              have f8 := nl_le P2
              rw [f4, f6] at f3
              rw [f4] at f2
              refine ⟨⟨by rw [← HM.out]; exact lx, _, ⟨E2, S2, v2, _, H2, I2, (HC2.out.app ⟨rfl, f, LW.out, rfl⟩ : Chn g (Q ++ [(l, true)]) N f).app C2, by rw [f5]; omega, rfl, HK6.out.trans K2⟩, by rw [f5, f7]; omega⟩⟩
            go_roundw
            case rel =>
              obtain ⟨h1, M2, h2, _⟩ := HS.out
              exact ⟨x1, rfl, h1, ⟨_, h2⟩⟩
            case measure =>
              obtain ⟨h1, M2, h2, h3⟩ := HS.out
              exact Nat.lt_of_le_of_lt (least_le ⟨x1, rfl, h1, h2⟩) (Nat.lt_of_lt_of_le h3 (Nat.le_of_eq HL.out.symm))
end
end Go.Proofs.Ytncimddgkgclpaa
