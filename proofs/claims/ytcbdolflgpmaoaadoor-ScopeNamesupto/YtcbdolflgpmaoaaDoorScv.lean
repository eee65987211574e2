/- The document's check: any expression. -/
import Derived.Test.YtcbdolflgpmaoaaDoorScr
import Derived.WalkSmall
namespace Go.Proofs.YtcbdolflgpmaoaaDoor
open Go.RowKit
set_option linter.unusedVariables false
set_option linter.unusedSimpArgs false

set_option maxHeartbeats 2000000 in
theorem exp_part5 (a m : Int) (n : Nm) (g4 g5 g6 g7 : Option Addr) (l4 l5 l6 l7 c4 c5 c6 c7 : Nat) (w : World) (b : Nat) (vd vb vi : Value) (F : Flt) (h : Ck w b vd vb none)
    (LT : ∀ W, Fr b w W → Ck W b vd vb none → Calls Tryd.prog 53 #[ptr b, .agg #[.int .i64 5, .int .i64 a, .string (str n), .int .i64 m, .slice g4 l4 c4, .slice g5 l5 c5, .slice g6 l6 c6, .slice g7 l7 c7], vi] W fun e w' => e = done ∧ Fr b W w' ∧ Ck w' b vd vb F) :
    Calls Tryd.prog 35 #[ptr b, .agg #[.int .i64 5, .int .i64 a, .string (str n), .int .i64 m, .slice g4 l4 c4, .slice g5 l5 c5, .slice g6 l6 c6, .slice g7 l7 c7], vi] w fun e w' => e = done ∧ Fr b w w' ∧ Ck w' b vd vb F := by
  have CW : Hid (Ck (w.alloc (.cells #[.int .i64 5, .int .i64 a, .string (str n), .int .i64 m, .slice g4 l4 c4, .slice g5 l5 c5, .slice g6 l6 c6, .slice g7 l7 c7] 45)) b vd vb none) := ⟨h.fr_alloc _⟩
  have FW : Hid (Fr b w (w.alloc (.cells #[.int .i64 5, .int .i64 a, .string (str n), .int .i64 m, .slice g4 l4 c4, .slice g5 l5 c5, .slice g6 l6 c6, .slice g7 l7 c7] 45))) := ⟨(Fr.refl b w).alloc _⟩
  have y2 : (w.alloc (.cells #[.int .i64 5, .int .i64 a, .string (str n), .int .i64 m, .slice g4 l4 c4, .slice g5 l5 c5, .slice g6 l6 c6, .slice g7 l7 c7] 45)).cell? ⟨b, 2, none⟩ = some (.bool false) := CW.out.cell 2
  have L1 := LT _ FW.out CW.out
  clear h LT
  go_enter Tryd.func35, Tryd.ntmps35
  go_wp2_with (go_at_call 53; refine L1.mono ?_; rintro e w8 ⟨rfl, F8, C8⟩; have HE := Hid.mk (And.intro (FW.out.trans F8) C8); clear F8 C8 L1)
  go_end0
  exact ⟨rfl, HE.out.1, HE.out.2⟩
set_option maxHeartbeats 2000000 in
theorem exp_part6 (a m : Int) (n : Nm) (g4 g5 g6 g7 : Option Addr) (l4 l5 l6 l7 c4 c5 c6 c7 : Nat) (w : World) (b : Nat) (vd vb vi : Value) (F : Flt) (h : Ck w b vd vb none)
    (LT : ∀ W, Fr b w W → Ck W b vd vb none → Calls Tryd.prog 54 #[ptr b, .agg #[.int .i64 6, .int .i64 a, .string (str n), .int .i64 m, .slice g4 l4 c4, .slice g5 l5 c5, .slice g6 l6 c6, .slice g7 l7 c7], vi] W fun e w' => e = done ∧ Fr b W w' ∧ Ck w' b vd vb F) :
    Calls Tryd.prog 35 #[ptr b, .agg #[.int .i64 6, .int .i64 a, .string (str n), .int .i64 m, .slice g4 l4 c4, .slice g5 l5 c5, .slice g6 l6 c6, .slice g7 l7 c7], vi] w fun e w' => e = done ∧ Fr b w w' ∧ Ck w' b vd vb F := by
  have CW : Hid (Ck (w.alloc (.cells #[.int .i64 6, .int .i64 a, .string (str n), .int .i64 m, .slice g4 l4 c4, .slice g5 l5 c5, .slice g6 l6 c6, .slice g7 l7 c7] 45)) b vd vb none) := ⟨h.fr_alloc _⟩
  have FW : Hid (Fr b w (w.alloc (.cells #[.int .i64 6, .int .i64 a, .string (str n), .int .i64 m, .slice g4 l4 c4, .slice g5 l5 c5, .slice g6 l6 c6, .slice g7 l7 c7] 45))) := ⟨(Fr.refl b w).alloc _⟩
  have y2 : (w.alloc (.cells #[.int .i64 6, .int .i64 a, .string (str n), .int .i64 m, .slice g4 l4 c4, .slice g5 l5 c5, .slice g6 l6 c6, .slice g7 l7 c7] 45)).cell? ⟨b, 2, none⟩ = some (.bool false) := CW.out.cell 2
  have L1 := LT _ FW.out CW.out
  clear h LT
  go_enter Tryd.func35, Tryd.ntmps35
  go_wp2_with (go_at_call 54; refine L1.mono ?_; rintro e w8 ⟨rfl, F8, C8⟩; have HE := Hid.mk (And.intro (FW.out.trans F8) C8); clear F8 C8 L1)
  go_end0
  exact ⟨rfl, HE.out.1, HE.out.2⟩
theorem E_all_of (k a : Int) (n : Nm) (m : Int) (ts : List Atm) (bs : List B) (ks : List E) (al : List A) (HB : ∀ x ∈ bs, BOK x) (HK : ∀ x ∈ ks, EOK x) (HA : ∀ x ∈ al, EOK (bodA x)) : EOK (.mk k a n m ts bs ks al) := by
  intro w b vd vb f ds d is vi h R I IR hw
  simp only [isE] at I
  obtain ⟨vt, vb', vk, va, xb, xk, xa, rfl, IT, IB, IBS, IK, IKS, IA, IAS⟩ := I
  have IT0 := IT
  have IB0 := IB
  have IK0 := IK
  have IA0 := IA
  obtain ⟨g4, c4, rfl, _, _⟩ := IT
  obtain ⟨g5, c5, rfl, _, _⟩ := IB
  obtain ⟨g6, c6, rfl, _, _⟩ := IK
  obtain ⟨g7, c7, rfl, _, _⟩ := IA
  rw [nmE] at hw
  cases f with
  | some z =>
    rw [orF_some]
    exact exp_some h _ _ _ _ _ _ _ _ vi
  | none =>
    rw [orF_left, chE]
    by_cases k1 : k = 1
    · rw [if_pos k1]; subst k1
      exact exp_app h a m n ts _ _ _ _ IT0 is vi IR
    · rw [if_neg k1]
      by_cases k2 : k = 2
      · rw [if_pos k2]; subst k2
        exact exp_con h ds R a m n ts _ _ _ _ IT0 is vi IR
      · rw [if_neg k2]
        by_cases k3 : k = 3
        · rw [if_pos k3]; subst k3
          exact exp_prim h a m n ts _ _ _ _ IT0 is vi IR
        · rw [if_neg k3]
          by_cases k4 : k = 4
          · rw [if_pos k4]; subst k4
            exact exp_int h a m n ts _ _ _ _ IT0 is vi IR
          · rw [if_neg k4]
            by_cases k5 : k = 5
            · rw [if_pos k5]; subst k5
              refine exp_part5 a m n g4 g5 g6 g7 _ _ _ _ c4 c5 c6 c7 w b vd vb vi _ h (fun W F C => ?_)
              by_cases z : bs.length = 0 ∨ ks.length = 0
              · rw [if_pos z]
                exact let_none 5 a m n g4 g5 g6 g7 _ _ _ _ c4 c5 c6 c7 W b vd vb vi C z
              · rw [if_neg z]
                exact let_some 5 a m n g4 g5 g6 g7 _ _ _ _ c4 c5 c6 c7 bs ks W b vd vb vi ds is xb xk HB HK C (R.keeps (keeps_fr F)) (IR.keeps (keeps_fr F)) (IB0.keeps (keeps_fr F)) (isBs_keeps (keeps_fr F) _ _ IBS) (IK0.keeps (keeps_fr F)) (isEs_keeps (keeps_fr F) _ _ IKS) (by omega) (by omega) rfl rfl (by omega)
            · rw [if_neg k5]
              by_cases k6 : k = 6
              · rw [if_pos k6]; subst k6
                refine exp_part6 a m n g4 g5 g6 g7 _ _ _ _ c4 c5 c6 c7 w b vd vb vi _ h (fun W F C => ?_)
                by_cases z : ks.length = 0 ∨ al.length = 0
                · rw [if_pos z]
                  exact cases_none 6 a m n g4 g5 g6 g7 _ _ _ _ c4 c5 c6 c7 W b vd vb vi C z
                · rw [if_neg z]
                  exact cases_some 6 a m n g4 g5 g6 g7 _ _ _ _ c4 c5 c6 c7 al ks W b vd vb vi ds is xa xk HA HK C (R.keeps (keeps_fr F)) (IR.keeps (keeps_fr F)) (IA0.keeps (keeps_fr F)) (isAs_keeps (keeps_fr F) _ _ IAS) (IK0.keeps (keeps_fr F)) (isEs_keeps (keeps_fr F) _ _ IKS) (by omega) (by omega) rfl rfl (by omega)
              · rw [if_neg k6]
                exact exp_none h k (by omega) a m n ts _ _ _ _ IT0 is vi IR
mutual
theorem E_all : ∀ x : E, EOK x
  | .mk k a n m ts bs ks al => E_all_of k a n m ts bs ks al (Bs_all bs) (Es_all ks) (As_all al)
theorem B_all : ∀ x : B, BOK x
  | .mk n a l x => form_any n a l x (E_all x)
theorem A_all : ∀ x : A, EOK (bodA x)
  | .mk _ _ _ _ _ x => E_all x
theorem Es_all : ∀ l : List E, ∀ x ∈ l, EOK x
  | [], x, h => by cases h
  | y :: r, x, h => by
    rcases List.mem_cons.1 h with e | e
    · rw [e]; exact E_all y
    · exact Es_all r x e
theorem Bs_all : ∀ l : List B, ∀ x ∈ l, BOK x
  | [], x, h => by cases h
  | y :: r, x, h => by
    rcases List.mem_cons.1 h with e | e
    · rw [e]; exact B_all y
    · exact Bs_all r x e
theorem As_all : ∀ l : List A, ∀ x ∈ l, EOK (bodA x)
  | [], x, h => by cases h
  | y :: r, x, h => by
    rcases List.mem_cons.1 h with e | e
    · rw [e]; exact A_all y
    · exact As_all r x e
end
end Go.Proofs.YtcbdolflgpmaoaaDoor

/- The document's check, whole. -/
namespace Go.Proofs.YtcbdolflgpmaoaaDoor
open Go.RowKit
set_option linter.unusedVariables false
set_option linter.unusedSimpArgs false

/-- the datas, each asked both things -/
def datQ (ahead : List Nm) : List D → Flt
  | [] => none
  | d :: r => orF (orF (if ahead.contains d.name = true then some (d.at', 30) else none) (if d.arity < 0 ∨ 8 < d.arity then some (d.at', 33) else none)) (datQ (ahead ++ [d.name]) r)
theorem datQ_F : ∀ (l : List D) (p q : List Nm), (∀ y, p.contains y = q.contains y) → datQ p l = datF q l
  | [], _, _, _ => rfl
  | d :: r, p, q, h => by
    have ih := datQ_F r (p ++ [d.name]) (d.name :: q) (fun y => by rw [has_snoc, List.contains_cons, h y]; cases q.contains y <;> cases (y == d.name) <;> rfl)
    rw [datQ, datF, h d.name, ih]
    by_cases g : q.contains d.name = true
    · rw [if_pos g, if_pos g]; rfl
    · rw [if_neg g, if_neg g, orF_left]
      by_cases z : d.arity < 0 ∨ 8 < d.arity
      · rw [if_pos z, if_pos z]; rfl
      · rw [if_neg z, if_neg z]; rfl
theorem twice_step (f : Flt) (c e : Bool) (t : Int) : orF (orF f (if c = true then some (t, 30) else none)) (if e = true then some (t, 30) else none) = orF f (if (c || e) = true then some (t, 30) else none) := by
  cases f <;> cases c <;> cases e <;> rfl
set_option maxRecDepth 100000 in
set_option maxHeartbeats 8000000 in
theorem check_any (ds : List D) (bs : List B) (gd gb : Option Addr) (ld lb cd cb : Nat) (xb : List Value) (w : World)
    (ID : IsRow w (fun g => g < w.heap.size) (datC ds) ds.length (.slice gd ld cd)) (IB : IsRow w (fun g => g < w.heap.size) xb bs.length (.slice gb lb cb)) (IBS : isBs w (fun g => g < w.heap.size) bs xb) (ed : ds.length = ld) (eb : bs.length = lb) (hw : bs.length + nmBs bs ≤ 1000000000) :
    Calls Tryd.prog 9 #[.agg #[.slice gd ld cd, .slice gb lb cb]] w fun e w' => e = .returned (.tuple #[.int .i64 (atF (checkP prN tA ⟨ds, bs⟩)), .int .i64 (erF (checkP prN tA ⟨ds, bs⟩))]) ∧ Below w.heap.size w w' := by
  obtain ⟨F, hF⟩ : ∃ F, checkP prN tA ⟨ds, bs⟩ = F := ⟨_, rfl⟩
  rw [hF]
  obtain ⟨O1, hO1⟩ : ∃ o, Obj.cells #[.slice gd ld cd, .slice gb lb cb] 25 = o := ⟨_, rfl⟩
  have BB0 : Below w.heap.size w ((w.alloc (.cells #[.slice gd ld cd, .slice gb lb cb] 25)).alloc (.cells #[.slice gd ld cd, .slice gb lb cb, .bool false, .int .i64 0, .int .i64 0] 56)) := (Joins.below_alloc1 w _).alloc (by simp) _
  have CW : Hid (Ck ((w.alloc (.cells #[.slice gd ld cd, .slice gb lb cb] 25)).alloc (.cells #[.slice gd ld cd, .slice gb lb cb, .bool false, .int .i64 0, .int .i64 0] 56)) (w.heap.size + 1) (.slice gd ld cd) (.slice gb lb cb) none) := ⟨by have := heap_alloc_new (w.alloc (.cells #[.slice gd ld cd, .slice gb lb cb] 25)) (.cells #[.slice gd ld cd, .slice gb lb cb, .bool false, .int .i64 0, .int .i64 0] 56); simpa [Ck, atF, erF] using this⟩
  have XW : Hid (Bx ((w.alloc (.cells #[.slice gd ld cd, .slice gb lb cb] 25)).alloc (.cells #[.slice gd ld cd, .slice gb lb cb, .bool false, .int .i64 0, .int .i64 0] 56)) w.heap.size #[.slice gd ld cd, .slice gb lb cb] 25) := ⟨(show Bx (w.alloc (.cells #[.slice gd ld cd, .slice gb lb cb] 25)) w.heap.size #[.slice gd ld cd, .slice gb lb cb] 25 from heap_alloc_new w _).later (Joins.below_alloc1 _ _)⟩
  have KK : Keeps (fun g => g < w.heap.size) (but (w.heap.size + 1)) w ((w.alloc (.cells #[.slice gd ld cd, .slice gb lb cb] 25)).alloc (.cells #[.slice gd ld cd, .slice gb lb cb, .bool false, .int .i64 0, .int .i64 0] 56)) := keeps_below BB0 (fun g h => by show g ≠ _; omega)
  have HALL := Hid.mk (And.intro (ID.keeps KK) (And.intro (IB.keeps KK) (And.intro (isBs_keeps KK _ _ IBS) (And.intro ed (And.intro eb hw)))))
  have HF := Hid.mk hF
  have HB0 := Hid.mk BB0
  have hld : ld ≤ 1000000000 := by obtain ⟨_, _, _, hc, _⟩ := ID; omega
  have hlb : lb ≤ 1000000000 := by omega
  clear hF ID IB IBS ed eb hw KK BB0 hO1
  go_enter Tryd.func9, Tryd.ntmps9
  go_wp2
  generalize (w.alloc (.cells #[.slice gd ld cd, .slice gb lb cb] 25)).alloc (.cells #[.slice gd ld cd, .slice gb lb cb, .bool false, .int .i64 0, .int .i64 0] 56) = w1 at *
  obtain ⟨b, hb⟩ : ∃ b, w.heap.size + 1 = b := ⟨_, rfl⟩
  have neX : w.heap.size ≠ b := by omega
  rw [hb] at CW HALL
  simp only [hb]
  have LB := CW.out.lt
  generalize hX : w.heap.size = X at *
  have HXE := Hid.mk hX
  clear hX
  obtain ⟨nms, hnms⟩ : ∃ nms, ds.map (fun d => d.name) = nms := ⟨_, rfl⟩
  have HNM := Hid.mk hnms
  have LN : nms.length = ld := by rw [← hnms, List.length_map]; exact HALL.out.2.2.2.1
  have HLN := Hid.mk LN
  obtain ⟨F1, hF1⟩ : ∃ F1, datF [] ds = F1 := ⟨_, rfl⟩
  have HF1 := Hid.mk hF1
  have HN0 : Hid (orF none (datQ (nms.take 0) (ds.drop 0)) = F1) := ⟨by rw [List.take_zero, List.drop_zero, orF_left, datQ_F ds [] [] (fun _ => rfl)]; exact hF1⟩
  have FW : Hid (Fr b w1 w1) := ⟨Fr.refl _ _⟩
  clear hnms LN hF1
  go_loopw [5] (fun c wr => ∃ (j : Nat) (fk : Flt), c = .int .i64 j ∧ j ≤ ld ∧ Ck wr b (.slice gd ld cd) (.slice gb lb cb) fk ∧ Hid (orF fk (datQ (nms.take j) (ds.drop j)) = F1) ∧ Fr b w1 wr ∧ Bx wr X #[.slice gd ld cd, .slice gb lb cb] 25) (fun c _ => ld - (intOf c).toNat)
  case atStart => exact ⟨0, none, rfl, Nat.zero_le _, CW.out, HN0, FW.out, XW.out⟩
  case round =>
    clear CW FW XW HN0
    obtain ⟨j, fk, rfl, hj, CW, HK, FW, XW⟩ := hrel
    replace CW := Hid.mk CW
    replace FW := Hid.mk FW
    replace XW := Hid.mk XW
    have x0 : wr.cell? ⟨X, 0, none⟩ = some (.slice gd ld cd) := XW.out.cell 0
    have x1 : wr.cell? ⟨X, 1, none⟩ = some (.slice gb lb cb) := XW.out.cell 1
    by_cases hlt : j < ld
    · have hlt' : (j : Int) < ld := by omega
      have kd : j < ds.length := by rw [HALL.out.2.2.2.1]; exact hlt
      obtain ⟨d1, d2, rfl, hd1, hxd⟩ := rowC (show IsRow w1 (but b) (datC ds) ld (.slice gd ld cd) by have := HALL.out.1; rwa [HALL.out.2.2.2.1] at this) (by omega)
      have HXD : Hid (∀ W, Fr b w1 W → ∀ q (h : q < ds.length), W.cell? ⟨d1, d2 + q * 3, none⟩ = some (.string (str (ds[q]'h).name)) ∧ W.cell? ⟨d1, d2 + q * 3 + 1, none⟩ = some (.int .i64 (ds[q]'h).arity) ∧ W.cell? ⟨d1, d2 + q * 3 + 2, none⟩ = some (.int .i64 (ds[q]'h).at')) := ⟨fun W F q h => by
        obtain ⟨a0, a1, a2⟩ := datC_get ds q h
        exact ⟨(keeps_fr F).cell d1 _ _ hd1 (hxd _ _ a0), by have := (keeps_fr F).cell d1 _ _ hd1 (hxd _ _ a1); rwa [← Nat.add_assoc] at this, by have := (keeps_fr F).cell d1 _ _ hd1 (hxd _ _ a2); rwa [← Nat.add_assoc] at this⟩⟩
      obtain ⟨f0, f1, f2⟩ := HXD.out wr FW.out j kd
      have hst := HK.out
      have kn : j < nms.length := by rw [HLN.out]; exact hlt
      have en : nms[j]'kn = (ds[j]'kd).name := by simp only [← HNM.out, List.getElem_map]
      rw [List.drop_eq_getElem_cons kd, datQ, ← en, List.take_append_getElem kn, en, ← orF_assoc, ← orF_assoc] at hst
      have HST := Hid.mk hst
      generalize ds[j]'kd = D0 at f0 f1 f2 HST
      obtain ⟨dn, da, dt⟩ := D0
      dsimp only at f0 f1 f2
      replace HST : Hid (orF (orF (orF fk (if (nms.take j).contains dn = true then some (dt, 30) else none)) (if da < 0 ∨ 8 < da then some (dt, 33) else none)) (datQ (nms.take (j + 1)) (ds.drop (j + 1))) = F1) := HST
      have CW1 : Hid (Ck (wr.alloc (.cells #[.string (str dn), .int .i64 da, .int .i64 dt] 58)) b (.slice (some ⟨d1, d2, none⟩) ld cd) (.slice gb lb cb) fk) := ⟨CW.out.fr_alloc _⟩
      have FW1 : Hid (Fr b w1 (wr.alloc (.cells #[.string (str dn), .int .i64 da, .int .i64 dt] 58))) := ⟨FW.out.alloc _⟩
      have XW1 : Hid (Bx (wr.alloc (.cells #[.string (str dn), .int .i64 da, .int .i64 dt] 58)) X #[.slice (some ⟨d1, d2, none⟩) ld cd, .slice gb lb cb] 25) := ⟨XW.out.later (Joins.below_alloc1 wr _)⟩
      have DW1 : Hid (Bx (wr.alloc (.cells #[.string (str dn), .int .i64 da, .int .i64 dt] 58)) wr.heap.size #[.string (str dn), .int .i64 da, .int .i64 dt] 58) := ⟨heap_alloc_new wr _⟩
      have neD : wr.heap.size ≠ b := by have := CW.out.lt; omega
      clear hst HK hxd en
      go_wp2
      clear CW FW XW x0 x1 f0 f1 f2
      generalize wr.alloc (.cells #[.string (str dn), .int .i64 da, .int .i64 dt] 58) = w3 at *
      generalize wr.heap.size = DD at *
      go_loopw [7] (fun c wr2 => ∃ (q : Nat) (fk2 : Flt), c = .int .i64 q ∧ q ≤ j ∧ Hid (fk2 = orF fk (if (nms.take q).contains dn = true then some (dt, 30) else none)) ∧ Ck wr2 b (.slice (some ⟨d1, d2, none⟩) ld cd) (.slice gb lb cb) fk2 ∧ Fr b w1 wr2 ∧ Bx wr2 X #[.slice (some ⟨d1, d2, none⟩) ld cd, .slice gb lb cb] 25 ∧ Bx wr2 DD #[.string (str dn), .int .i64 da, .int .i64 dt] 58) (fun c _ => j - (intOf c).toNat)
      case atStart => exact ⟨0, fk, rfl, Nat.zero_le _, ⟨by rw [List.take_zero]; exact (orF_nil fk).symm⟩, CW1.out, FW1.out, XW1.out, DW1.out⟩
      case round =>
        clear CW1 FW1 XW1 DW1
        obtain ⟨q, fk2, rfl, hq, HFK, CW, FW, XW, DW⟩ := hrel
        replace CW := Hid.mk CW
        replace FW := Hid.mk FW
        replace XW := Hid.mk XW
        replace DW := Hid.mk DW
        have x0 : wr.cell? ⟨X, 0, none⟩ = some (.slice (some ⟨d1, d2, none⟩) ld cd) := XW.out.cell 0
        have s0 : wr.cell? ⟨DD, 0, none⟩ = some (.string (str dn)) := DW.out.cell 0
        have s1 : wr.cell? ⟨DD, 1, none⟩ = some (.int .i64 da) := DW.out.cell 1
        have s2 : wr.cell? ⟨DD, 2, none⟩ = some (.int .i64 dt) := DW.out.cell 2
        by_cases hlq : q < j
        · have hlq' : (q : Int) < j := by omega
          have hq2 : (q : Int) < ld := by omega
          have kq : q < ds.length := by rw [HALL.out.2.2.2.1]; omega
          have kqn : q < nms.length := by rw [HLN.out]; omega
          obtain ⟨u0, _, _⟩ := HXD.out wr FW.out q kq
          have enq : nms[q]'kqn = (ds[q]'kq).name := by simp only [← HNM.out, List.getElem_map]
          have HFK2 : Hid (orF fk (if (nms.take (q + 1)).contains dn = true then some (dt, 30) else none) = orF fk2 (if (dn == (ds[q]'kq).name) = true then some (dt, 30) else none)) := ⟨by rw [← List.take_append_getElem kqn, has_snoc, enq, HFK.out, twice_step]⟩
          have SE := str_eqb (ds[q]'kq).name dn
          generalize (ds[q]'kq).name = qn at u0 HFK2 SE
          clear HFK enq
          by_cases z : qn = dn
          · have e1 : ((str qn).toList == (str dn).toList) = true := by rw [SE]; simp [z]
            have HFK3 : Hid (orF fk2 (some (dt, 30)) = orF fk (if (nms.take (q + 1)).contains dn = true then some (dt, 30) else none)) := ⟨by rw [HFK2.out, if_pos (by simp [z])]⟩
            clear HFK2 z SE
            go_wp2
            go_quiet (fail)
            replace CW := Hid.mk (CW.out.later (below_drewN (Below.refl _ wr) nq))
            replace FW : Hid (Fr b w1 (wr.drewN nq)) := ⟨FW.out.trans (Fr.of_below (below_drewN (Below.refl _ wr) nq))⟩
            replace XW : Hid (Bx (wr.drewN nq) X #[.slice (some ⟨d1, d2, none⟩) ld cd, .slice gb lb cb] 25) := ⟨XW.out.later (below_drewN (Below.refl _ wr) nq)⟩
            replace DW : Hid (Bx (wr.drewN nq) DD #[.string (str dn), .int .i64 da, .int .i64 dt] 58) := ⟨DW.out.later (below_drewN (Below.refl _ wr) nq)⟩
            clear x0 s0 s1 s2 u0
            generalize wr.drewN nq = w4 at *
            have x0 : w4.cell? ⟨X, 0, none⟩ = some (.slice (some ⟨d1, d2, none⟩) ld cd) := XW.out.cell 0
            have x1 : w4.cell? ⟨X, 1, none⟩ = some (.slice gb lb cb) := XW.out.cell 1
            have s0 : w4.cell? ⟨DD, 0, none⟩ = some (.string (str dn)) := DW.out.cell 0
            have s1 : w4.cell? ⟨DD, 1, none⟩ = some (.int .i64 da) := DW.out.cell 1
            have s2 : w4.cell? ⟨DD, 2, none⟩ = some (.int .i64 dt) := DW.out.cell 2
            go_wp2_with (first
              | (go_at_call 17; refine (fail_any CW.out dt _).mono ?_; rintro e w8 ⟨rfl, F8, C8⟩; replace FW : Hid (Fr b w1 w8) := ⟨FW.out.trans F8⟩; replace CW := Hid.mk C8; replace XW : Hid (Bx w8 X #[.slice (some ⟨d1, d2, none⟩) ld cd, .slice gb lb cb] 25) := ⟨XW.out.fr F8 neX⟩; replace DW : Hid (Bx w8 DD #[.string (str dn), .int .i64 da, .int .i64 dt] 58) := ⟨DW.out.fr F8 neD⟩; have x0 : w8.cell? ⟨X, 0, none⟩ = some (.slice (some ⟨d1, d2, none⟩) ld cd) := XW.out.cell 0; have x1 : w8.cell? ⟨X, 1, none⟩ = some (.slice gb lb cb) := XW.out.cell 1; have s0 : w8.cell? ⟨DD, 0, none⟩ = some (.string (str dn)) := DW.out.cell 0; have s1 : w8.cell? ⟨DD, 1, none⟩ = some (.int .i64 da) := DW.out.cell 1; have s2 : w8.cell? ⟨DD, 2, none⟩ = some (.int .i64 dt) := DW.out.cell 2; clear F8 C8))
            exact ⟨⟨q + 1, _, by go_num, by omega, HFK3, CW.out, FW.out, XW.out, DW.out⟩, by simp [intOf]; omega⟩
          · have e1 : ((str qn).toList == (str dn).toList) = false := by rw [SE]; simp [z]
            have HFK3 : Hid (fk2 = orF fk (if (nms.take (q + 1)).contains dn = true then some (dt, 30) else none)) := ⟨by rw [HFK2.out, if_neg (by simp; exact fun e => z e.symm), orF_nil]⟩
            clear HFK2 z SE
            go_wp2
            go_quiet (fail)
            replace CW := Hid.mk (CW.out.later (below_drewN (Below.refl _ wr) nq))
            replace FW : Hid (Fr b w1 (wr.drewN nq)) := ⟨FW.out.trans (Fr.of_below (below_drewN (Below.refl _ wr) nq))⟩
            replace XW : Hid (Bx (wr.drewN nq) X #[.slice (some ⟨d1, d2, none⟩) ld cd, .slice gb lb cb] 25) := ⟨XW.out.later (below_drewN (Below.refl _ wr) nq)⟩
            replace DW : Hid (Bx (wr.drewN nq) DD #[.string (str dn), .int .i64 da, .int .i64 dt] 58) := ⟨DW.out.later (below_drewN (Below.refl _ wr) nq)⟩
            clear x0 s0 s1 s2 u0
            generalize wr.drewN nq = w4 at *
            have x0 : w4.cell? ⟨X, 0, none⟩ = some (.slice (some ⟨d1, d2, none⟩) ld cd) := XW.out.cell 0
            have x1 : w4.cell? ⟨X, 1, none⟩ = some (.slice gb lb cb) := XW.out.cell 1
            have s0 : w4.cell? ⟨DD, 0, none⟩ = some (.string (str dn)) := DW.out.cell 0
            have s1 : w4.cell? ⟨DD, 1, none⟩ = some (.int .i64 da) := DW.out.cell 1
            have s2 : w4.cell? ⟨DD, 2, none⟩ = some (.int .i64 dt) := DW.out.cell 2
            go_wp2_with (first
              | (go_at_call 17; refine (fail_any CW.out dt _).mono ?_; rintro e w8 ⟨rfl, F8, C8⟩; replace FW : Hid (Fr b w1 w8) := ⟨FW.out.trans F8⟩; replace CW := Hid.mk C8; replace XW : Hid (Bx w8 X #[.slice (some ⟨d1, d2, none⟩) ld cd, .slice gb lb cb] 25) := ⟨XW.out.fr F8 neX⟩; replace DW : Hid (Bx w8 DD #[.string (str dn), .int .i64 da, .int .i64 dt] 58) := ⟨DW.out.fr F8 neD⟩; have x0 : w8.cell? ⟨X, 0, none⟩ = some (.slice (some ⟨d1, d2, none⟩) ld cd) := XW.out.cell 0; have x1 : w8.cell? ⟨X, 1, none⟩ = some (.slice gb lb cb) := XW.out.cell 1; have s0 : w8.cell? ⟨DD, 0, none⟩ = some (.string (str dn)) := DW.out.cell 0; have s1 : w8.cell? ⟨DD, 1, none⟩ = some (.int .i64 da) := DW.out.cell 1; have s2 : w8.cell? ⟨DD, 2, none⟩ = some (.int .i64 dt) := DW.out.cell 2; clear F8 C8))
            exact ⟨⟨q + 1, _, by go_num, by omega, HFK3, CW.out, FW.out, XW.out, DW.out⟩, by simp [intOf]; omega⟩
        · obtain rfl : j = q := by omega
          have hlq' : ¬ (j : Int) < j := by omega
          rw [← HFK.out] at HST
          clear HFK
          by_cases z : da < 0
          · rw [if_pos (Or.inl z)] at HST
            go_wp2_with (first
              | (go_at_call 17; refine (fail_any CW.out dt _).mono ?_; rintro e w8 ⟨rfl, F8, C8⟩; replace FW : Hid (Fr b w1 w8) := ⟨FW.out.trans F8⟩; replace CW := Hid.mk C8; replace XW : Hid (Bx w8 X #[.slice (some ⟨d1, d2, none⟩) ld cd, .slice gb lb cb] 25) := ⟨XW.out.fr F8 neX⟩; replace DW : Hid (Bx w8 DD #[.string (str dn), .int .i64 da, .int .i64 dt] 58) := ⟨DW.out.fr F8 neD⟩; have x0 : w8.cell? ⟨X, 0, none⟩ = some (.slice (some ⟨d1, d2, none⟩) ld cd) := XW.out.cell 0; have x1 : w8.cell? ⟨X, 1, none⟩ = some (.slice gb lb cb) := XW.out.cell 1; have s0 : w8.cell? ⟨DD, 0, none⟩ = some (.string (str dn)) := DW.out.cell 0; have s1 : w8.cell? ⟨DD, 1, none⟩ = some (.int .i64 da) := DW.out.cell 1; have s2 : w8.cell? ⟨DD, 2, none⟩ = some (.int .i64 dt) := DW.out.cell 2; clear F8 C8))
            exact ⟨⟨j + 1, _, by go_num, by omega, CW.out, HST, FW.out, XW.out⟩, by simp [intOf]; omega⟩
          · by_cases z2 : 8 < da
            · rw [if_pos (Or.inr z2)] at HST
              go_wp2_with (first
                | (go_at_call 17; refine (fail_any CW.out dt _).mono ?_; rintro e w8 ⟨rfl, F8, C8⟩; replace FW : Hid (Fr b w1 w8) := ⟨FW.out.trans F8⟩; replace CW := Hid.mk C8; replace XW : Hid (Bx w8 X #[.slice (some ⟨d1, d2, none⟩) ld cd, .slice gb lb cb] 25) := ⟨XW.out.fr F8 neX⟩; replace DW : Hid (Bx w8 DD #[.string (str dn), .int .i64 da, .int .i64 dt] 58) := ⟨DW.out.fr F8 neD⟩; have x0 : w8.cell? ⟨X, 0, none⟩ = some (.slice (some ⟨d1, d2, none⟩) ld cd) := XW.out.cell 0; have x1 : w8.cell? ⟨X, 1, none⟩ = some (.slice gb lb cb) := XW.out.cell 1; have s0 : w8.cell? ⟨DD, 0, none⟩ = some (.string (str dn)) := DW.out.cell 0; have s1 : w8.cell? ⟨DD, 1, none⟩ = some (.int .i64 da) := DW.out.cell 1; have s2 : w8.cell? ⟨DD, 2, none⟩ = some (.int .i64 dt) := DW.out.cell 2; clear F8 C8))
              exact ⟨⟨j + 1, _, by go_num, by omega, CW.out, HST, FW.out, XW.out⟩, by simp [intOf]; omega⟩
            · rw [if_neg (by omega), orF_nil] at HST
              go_wp2_with (first
                | (go_at_call 17; refine (fail_any CW.out dt _).mono ?_; rintro e w8 ⟨rfl, F8, C8⟩; replace FW : Hid (Fr b w1 w8) := ⟨FW.out.trans F8⟩; replace CW := Hid.mk C8; replace XW : Hid (Bx w8 X #[.slice (some ⟨d1, d2, none⟩) ld cd, .slice gb lb cb] 25) := ⟨XW.out.fr F8 neX⟩; replace DW : Hid (Bx w8 DD #[.string (str dn), .int .i64 da, .int .i64 dt] 58) := ⟨DW.out.fr F8 neD⟩; have x0 : w8.cell? ⟨X, 0, none⟩ = some (.slice (some ⟨d1, d2, none⟩) ld cd) := XW.out.cell 0; have x1 : w8.cell? ⟨X, 1, none⟩ = some (.slice gb lb cb) := XW.out.cell 1; have s0 : w8.cell? ⟨DD, 0, none⟩ = some (.string (str dn)) := DW.out.cell 0; have s1 : w8.cell? ⟨DD, 1, none⟩ = some (.int .i64 da) := DW.out.cell 1; have s2 : w8.cell? ⟨DD, 2, none⟩ = some (.int .i64 dt) := DW.out.cell 2; clear F8 C8))
              exact ⟨⟨j + 1, _, by go_num, by omega, CW.out, HST, FW.out, XW.out⟩, by simp [intOf]; omega⟩
    · obtain rfl : ld = j := by omega
      have HT : Hid (fk = F1) := ⟨by have := HK.out; rwa [List.drop_eq_nil_of_le (by rw [HALL.out.2.2.2.1]; exact Nat.le_refl _), datQ, orF_nil] at this⟩
      have hlt' : ¬ (ld : Int) < ld := by omega
      have NM := bnames_any (w := wr) bs (.slice gb lb cb) xb (HALL.out.2.1.keeps (keeps_fr FW.out)) (isBs_keeps (keeps_fr FW.out) _ _ HALL.out.2.2.1)
      have lz := CW.out.lt
      have XLT := XW.out.lt
      clear HK
      go_wp2_with (first
        | (go_at_call 18; refine NM.mono ?_; rintro e w2 ⟨own, rfl, B8, NW⟩; obtain ⟨go, CO, rfl⟩ := NW.form; have HNW := Hid.mk NW; replace HNW : Hid (Nw w2 _ (.slice go lb CO) (bs.map nameB')) := (by have := HNW; rw [List.length_map, HALL.out.2.2.2.2.1] at this; exact this); rw [List.length_map, HALL.out.2.2.2.2.1]; replace FW := Hid.mk (FW.out.trans (Fr.of_below B8)); replace CW := Hid.mk (CW.out.later B8); replace XW : Hid (Bx w2 X #[.slice gd ld cd, .slice gb lb cb] 25) := Hid.mk (XW.out.later B8); have x0 : w2.cell? ⟨X, 0, none⟩ = some (.slice gd ld cd) := XW.out.cell 0; have x1 : w2.cell? ⟨X, 1, none⟩ = some (.slice gb lb cb) := XW.out.cell 1; clear B8 NW NM))
      generalize wr.heap.size = Z at *
      obtain ⟨own, hown⟩ : ∃ own, bs.map nameB' = own := ⟨_, rfl⟩
      have HOWN := Hid.mk hown
      rw [hown] at HNW
      have LO : own.length = lb := by rw [← hown, List.length_map]; exact HALL.out.2.2.2.2.1
      have HLO := Hid.mk LO
      obtain ⟨F9, hF9⟩ : ∃ F9, orF F1 (namF [] bs) = F9 := ⟨_, rfl⟩
      have HN0 : Hid (orF fk (namQ (own.take 0) (bs.drop 0)) = F9) := ⟨by rw [List.take_zero, List.drop_zero, HT.out, namQ_F bs [] [] (fun _ => rfl)]; exact hF9⟩
      have HF9 := Hid.mk hF9
      clear hown LO hF9
      go_loopw [9] (fun c wr => ∃ (j : Nat) (fk : Flt), c = .int .i64 j ∧ j ≤ lb ∧ Ck wr b (.slice gd ld cd) (.slice gb lb cb) fk ∧ Hid (orF fk (namQ (own.take j) (bs.drop j)) = F9) ∧ Fr b w1 wr ∧ Bx wr X #[.slice gd ld cd, .slice gb lb cb] 25 ∧ Nw wr Z (.slice go lb CO) own) (fun c _ => lb - (intOf c).toNat)
      case atStart => exact ⟨0, fk, rfl, Nat.zero_le _, CW.out, HN0, FW.out, XW.out, HNW.out⟩
      case round =>
        clear CW FW XW HNW HN0 x0 x1
        obtain ⟨j, fk, rfl, hj, CW, HK, FW, XW, NW⟩ := hrel
        replace CW := Hid.mk CW
        replace FW := Hid.mk FW
        replace XW := Hid.mk XW
        replace NW := Hid.mk NW
        have x0 : wr.cell? ⟨X, 0, none⟩ = some (.slice gd ld cd) := XW.out.cell 0
        have x1 : wr.cell? ⟨X, 1, none⟩ = some (.slice gb lb cb) := XW.out.cell 1
        by_cases hlt : j < lb
        · have kl : j < bs.length := by rw [HALL.out.2.2.2.2.1]; exact hlt
          have ko : j < own.length := by rw [HLO.out]; exact hlt
          have enm : own[j]'ko = nameB' (bs[j]'kl) := by simp only [← HOWN.out, List.getElem_map]
          have NR := NW.out.row (ok := but b) (by rw [HLO.out]; exact hlb) (fun g hg => by show g ≠ b; omega)
          rw [HLO.out] at NR
          obtain ⟨go1, go2, rfl, _, hsrc⟩ := rowC NR (by omega)
          have co := hsrc j _ (strC_get own j ko)
          rw [enm] at co
          obtain ⟨p1, p2, rfl, hp, hxb⟩ := rowC (show IsRow w1 (but b) xb lb (.slice gb lb cb) by have := HALL.out.2.1; rwa [HALL.out.2.2.2.2.1] at this) (by omega)
          obtain ⟨d, hd, hg⟩ := isBs_get bs xb HALL.out.2.2.1 j kl
          have ca := hxb _ _ (hg 1 _ (isB_at hd))
          rw [← Nat.add_assoc] at ca
          have HCA : Hid (∀ W, Fr b w1 W → W.cell? ⟨p1, p2 + j * 11 + 1, none⟩ = some (.int .i64 (atB (bs[j]'kl)))) := ⟨fun W F => (keeps_fr F).cell p1 _ _ hp ca⟩
          have ca1 := HCA.out _ FW.out
          have HS : ∀ W, Nw W Z (.slice (some ⟨go1, go2, none⟩) lb CO) own → Calls Tryd.prog 19 #[.slice (some ⟨go1, go2, none⟩) j CO, .string (str (nameB' (bs[j]'kl)))] W fun e w' => e = .returned (.bool ((own.take j).contains (nameB' (bs[j]'kl)))) ∧ w' = W := fun W NW =>
            has_any (ok := but b) (own.take j) _ (take_row (ls := own) (by have := NW.row (ok := but b) (by rw [HLO.out]; exact hlb) (fun g hg => by show g ≠ b; omega); rw [HLO.out]; rw [HLO.out] at this; exact this) (by omega)) _
          have HCO : Hid (∀ W, Nw W Z (.slice (some ⟨go1, go2, none⟩) lb CO) own → W.cell? ⟨go1, go2 + j, none⟩ = some (.string (str (nameB' (bs[j]'kl))))) := ⟨fun W NW => by
            have NR := NW.row (ok := but b) (by rw [HLO.out]; exact hlb) (fun g hg => by show g ≠ b; omega)
            rw [HLO.out] at NR
            obtain ⟨q1, q2, e, _, hs⟩ := rowC NR (by omega)
            simp only [Option.some.injEq, Addr.mk.injEq] at e
            obtain ⟨rfl, rfl, _⟩ := e
            have := hs j _ (strC_get own j ko)
            rwa [enm] at this⟩
          have hst := HK.out
          rw [List.drop_eq_getElem_cons kl, namQ_cons, show own.take j ++ [nameB' (bs[j]'kl)] = own.take (j + 1) by rw [← enm, List.take_append_getElem ko], ← orF_assoc, ← orF_assoc] at hst
          have HST := Hid.mk hst
          have hlt' : (j : Int) < lb := by omega
          have jc : ((j : Nat) : Int) ≤ CO := by obtain ⟨_, _, e, hc, _⟩ := NR; simp only [Value.slice.injEq] at e; omega
          generalize (own.take j).contains (nameB' (bs[j]'kl)) = hq at HS HST
          generalize atB (bs[j]'kl) = at1 at ca1 HCA HST
          clear hst hxb hg hd hsrc NR HK enm ca
          cases hq
          · rw [if_neg (show ¬ (false = true) by simp), orF_nil] at HST
            by_cases z : nameB' (bs[j]'kl) = []
            · have z1 : (str (nameB' (bs[j]'kl))).toList = [] := by rw [z, ByteArray.toList_eq]; rfl
              rw [if_pos z] at HST
              generalize str (nameB' (bs[j]'kl)) = nm at co z1 HS HCO
              clear z
              go_wp2_with (first
                | (go_at_call 17; refine (fail_any CW.out at1 _).mono ?_; rintro e w8 ⟨rfl, F8, C8⟩; replace FW : Hid (Fr b w1 w8) := ⟨FW.out.trans F8⟩; replace CW := Hid.mk C8; replace XW : Hid (Bx w8 X #[.slice gd ld cd, .slice (some ⟨p1, p2, none⟩) lb cb] 25) := ⟨XW.out.fr F8 neX⟩; replace NW : Hid (Nw w8 Z (.slice (some ⟨go1, go2, none⟩) lb CO) own) := ⟨NW.out.fr F8 lz⟩; have x0 : w8.cell? ⟨X, 0, none⟩ = some (.slice gd ld cd) := XW.out.cell 0; have x1 : w8.cell? ⟨X, 1, none⟩ = some (.slice (some ⟨p1, p2, none⟩) lb cb) := XW.out.cell 1; have co8 := HCO.out _ NW.out; have ca8 := HCA.out _ FW.out; clear F8 C8))
              go_region_held3 (fun w' => w'.cell? ⟨go1, go2 + j, none⟩ = some (.string nm)) (go_keep) (first
                | (go_at_call 19; refine (HS _ (NW.out.below (Below.refl _ _).drew)).mono ?_; rintro e w9 ⟨rfl, rfl⟩; replace FW : Hid (Fr b w1 w8.drew) := ⟨FW.out.drew⟩; replace CW := Hid.mk CW.out.drew; replace XW : Hid (Bx w8.drew X #[.slice gd ld cd, .slice (some ⟨p1, p2, none⟩) lb cb] 25) := ⟨XW.out⟩; replace NW : Hid (Nw w8.drew Z (.slice (some ⟨go1, go2, none⟩) lb CO) own) := ⟨NW.out.below (Below.refl _ _).drew⟩; have x0 : w8.drew.cell? ⟨X, 0, none⟩ = some (.slice gd ld cd) := XW.out.cell 0; have x1 : w8.drew.cell? ⟨X, 1, none⟩ = some (.slice (some ⟨p1, p2, none⟩) lb cb) := XW.out.cell 1; have ca9 := HCA.out _ FW.out))
              all_goals go_wp2_with (first
                | (go_at_call 17; refine (fail_any CW.out at1 _).mono ?_; rintro e w8 ⟨rfl, F8, C8⟩; replace FW : Hid (Fr b w1 w8) := ⟨FW.out.trans F8⟩; replace CW := Hid.mk C8; replace XW : Hid (Bx w8 X #[.slice gd ld cd, .slice (some ⟨p1, p2, none⟩) lb cb] 25) := ⟨XW.out.fr F8 neX⟩; replace NW : Hid (Nw w8 Z (.slice (some ⟨go1, go2, none⟩) lb CO) own) := ⟨NW.out.fr F8 lz⟩; have x0 : w8.cell? ⟨X, 0, none⟩ = some (.slice gd ld cd) := XW.out.cell 0; have x1 : w8.cell? ⟨X, 1, none⟩ = some (.slice (some ⟨p1, p2, none⟩) lb cb) := XW.out.cell 1; have co8 := HCO.out _ NW.out; have ca8 := HCA.out _ FW.out; clear F8 C8))
              all_goals exact ⟨⟨j + 1, _, by go_num, by omega, CW.out, HST, FW.out, XW.out, NW.out⟩, by simp [intOf]; omega⟩
            · have z1 : ¬ (str (nameB' (bs[j]'kl))).toList = [] := by rw [ByteArray.toList_eq, str_list]; exact z
              have z2 : ((str (nameB' (bs[j]'kl))).toList == []) = false := beq_eq_false_iff_ne.2 z1
              have z3 : (str (nameB' (bs[j]'kl))).toList.isEmpty = false := by rw [ByteArray.toList_eq, str_list]; simp [z]
              rw [if_neg z, orF_nil] at HST
              generalize str (nameB' (bs[j]'kl)) = nm at co z1 z2 z3 HS HCO
              clear z
              go_wp2_with (first
                | (go_at_call 17; refine (fail_any CW.out at1 _).mono ?_; rintro e w8 ⟨rfl, F8, C8⟩; replace FW : Hid (Fr b w1 w8) := ⟨FW.out.trans F8⟩; replace CW := Hid.mk C8; replace XW : Hid (Bx w8 X #[.slice gd ld cd, .slice (some ⟨p1, p2, none⟩) lb cb] 25) := ⟨XW.out.fr F8 neX⟩; replace NW : Hid (Nw w8 Z (.slice (some ⟨go1, go2, none⟩) lb CO) own) := ⟨NW.out.fr F8 lz⟩; have x0 : w8.cell? ⟨X, 0, none⟩ = some (.slice gd ld cd) := XW.out.cell 0; have x1 : w8.cell? ⟨X, 1, none⟩ = some (.slice (some ⟨p1, p2, none⟩) lb cb) := XW.out.cell 1; have co8 := HCO.out _ NW.out; have ca8 := HCA.out _ FW.out; clear F8 C8))
              go_region_held3 (fun w' => w'.cell? ⟨go1, go2 + j, none⟩ = some (.string nm)) (go_keep) (first
                | (go_at_call 19; refine (HS _ (NW.out.below (Below.refl _ _).drew)).mono ?_; rintro e w9 ⟨rfl, rfl⟩; replace FW : Hid (Fr b w1 wr.drew) := ⟨FW.out.drew⟩; replace CW := Hid.mk CW.out.drew; replace XW : Hid (Bx wr.drew X #[.slice gd ld cd, .slice (some ⟨p1, p2, none⟩) lb cb] 25) := ⟨XW.out⟩; replace NW : Hid (Nw wr.drew Z (.slice (some ⟨go1, go2, none⟩) lb CO) own) := ⟨NW.out.below (Below.refl _ _).drew⟩; have x0 : wr.drew.cell? ⟨X, 0, none⟩ = some (.slice gd ld cd) := XW.out.cell 0; have x1 : wr.drew.cell? ⟨X, 1, none⟩ = some (.slice (some ⟨p1, p2, none⟩) lb cb) := XW.out.cell 1; have ca9 := HCA.out _ FW.out))
              all_goals go_wp2_with (first
                | (go_at_call 17; refine (fail_any CW.out at1 _).mono ?_; rintro e w8 ⟨rfl, F8, C8⟩; replace FW : Hid (Fr b w1 w8) := ⟨FW.out.trans F8⟩; replace CW := Hid.mk C8; replace XW : Hid (Bx w8 X #[.slice gd ld cd, .slice (some ⟨p1, p2, none⟩) lb cb] 25) := ⟨XW.out.fr F8 neX⟩; replace NW : Hid (Nw w8 Z (.slice (some ⟨go1, go2, none⟩) lb CO) own) := ⟨NW.out.fr F8 lz⟩; have x0 : w8.cell? ⟨X, 0, none⟩ = some (.slice gd ld cd) := XW.out.cell 0; have x1 : w8.cell? ⟨X, 1, none⟩ = some (.slice (some ⟨p1, p2, none⟩) lb cb) := XW.out.cell 1; have co8 := HCO.out _ NW.out; have ca8 := HCA.out _ FW.out; clear F8 C8))
              all_goals exact ⟨⟨j + 1, _, by go_num, by omega, CW.out, HST, FW.out, XW.out, NW.out⟩, by simp [intOf]; omega⟩
          · rw [if_pos (show true = true from rfl)] at HST
            by_cases z : nameB' (bs[j]'kl) = []
            · have z1 : (str (nameB' (bs[j]'kl))).toList = [] := by rw [z, ByteArray.toList_eq]; rfl
              rw [if_pos z] at HST
              generalize str (nameB' (bs[j]'kl)) = nm at co z1 HS HCO
              clear z
              go_wp2_with (first
                | (go_at_call 17; refine (fail_any CW.out at1 _).mono ?_; rintro e w8 ⟨rfl, F8, C8⟩; replace FW : Hid (Fr b w1 w8) := ⟨FW.out.trans F8⟩; replace CW := Hid.mk C8; replace XW : Hid (Bx w8 X #[.slice gd ld cd, .slice (some ⟨p1, p2, none⟩) lb cb] 25) := ⟨XW.out.fr F8 neX⟩; replace NW : Hid (Nw w8 Z (.slice (some ⟨go1, go2, none⟩) lb CO) own) := ⟨NW.out.fr F8 lz⟩; have x0 : w8.cell? ⟨X, 0, none⟩ = some (.slice gd ld cd) := XW.out.cell 0; have x1 : w8.cell? ⟨X, 1, none⟩ = some (.slice (some ⟨p1, p2, none⟩) lb cb) := XW.out.cell 1; have co8 := HCO.out _ NW.out; have ca8 := HCA.out _ FW.out; clear F8 C8))
              go_region_held3 (fun w' => w'.cell? ⟨go1, go2 + j, none⟩ = some (.string nm)) (go_keep) (first
                | (go_at_call 19; refine (HS _ (NW.out.below (Below.refl _ _).drew)).mono ?_; rintro e w9 ⟨rfl, rfl⟩; replace FW : Hid (Fr b w1 w8.drew) := ⟨FW.out.drew⟩; replace CW := Hid.mk CW.out.drew; replace XW : Hid (Bx w8.drew X #[.slice gd ld cd, .slice (some ⟨p1, p2, none⟩) lb cb] 25) := ⟨XW.out⟩; replace NW : Hid (Nw w8.drew Z (.slice (some ⟨go1, go2, none⟩) lb CO) own) := ⟨NW.out.below (Below.refl _ _).drew⟩; have x0 : w8.drew.cell? ⟨X, 0, none⟩ = some (.slice gd ld cd) := XW.out.cell 0; have x1 : w8.drew.cell? ⟨X, 1, none⟩ = some (.slice (some ⟨p1, p2, none⟩) lb cb) := XW.out.cell 1; have ca9 := HCA.out _ FW.out))
              all_goals go_wp2_with (first
                | (go_at_call 17; refine (fail_any CW.out at1 _).mono ?_; rintro e w8 ⟨rfl, F8, C8⟩; replace FW : Hid (Fr b w1 w8) := ⟨FW.out.trans F8⟩; replace CW := Hid.mk C8; replace XW : Hid (Bx w8 X #[.slice gd ld cd, .slice (some ⟨p1, p2, none⟩) lb cb] 25) := ⟨XW.out.fr F8 neX⟩; replace NW : Hid (Nw w8 Z (.slice (some ⟨go1, go2, none⟩) lb CO) own) := ⟨NW.out.fr F8 lz⟩; have x0 : w8.cell? ⟨X, 0, none⟩ = some (.slice gd ld cd) := XW.out.cell 0; have x1 : w8.cell? ⟨X, 1, none⟩ = some (.slice (some ⟨p1, p2, none⟩) lb cb) := XW.out.cell 1; have co8 := HCO.out _ NW.out; have ca8 := HCA.out _ FW.out; clear F8 C8))
              all_goals exact ⟨⟨j + 1, _, by go_num, by omega, CW.out, HST, FW.out, XW.out, NW.out⟩, by simp [intOf]; omega⟩
            · have z1 : ¬ (str (nameB' (bs[j]'kl))).toList = [] := by rw [ByteArray.toList_eq, str_list]; exact z
              have z2 : ((str (nameB' (bs[j]'kl))).toList == []) = false := beq_eq_false_iff_ne.2 z1
              have z3 : (str (nameB' (bs[j]'kl))).toList.isEmpty = false := by rw [ByteArray.toList_eq, str_list]; simp [z]
              rw [if_neg z, orF_nil] at HST
              generalize str (nameB' (bs[j]'kl)) = nm at co z1 z2 z3 HS HCO
              clear z
              go_wp2_with (first
                | (go_at_call 17; refine (fail_any CW.out at1 _).mono ?_; rintro e w8 ⟨rfl, F8, C8⟩; replace FW : Hid (Fr b w1 w8) := ⟨FW.out.trans F8⟩; replace CW := Hid.mk C8; replace XW : Hid (Bx w8 X #[.slice gd ld cd, .slice (some ⟨p1, p2, none⟩) lb cb] 25) := ⟨XW.out.fr F8 neX⟩; replace NW : Hid (Nw w8 Z (.slice (some ⟨go1, go2, none⟩) lb CO) own) := ⟨NW.out.fr F8 lz⟩; have x0 : w8.cell? ⟨X, 0, none⟩ = some (.slice gd ld cd) := XW.out.cell 0; have x1 : w8.cell? ⟨X, 1, none⟩ = some (.slice (some ⟨p1, p2, none⟩) lb cb) := XW.out.cell 1; have co8 := HCO.out _ NW.out; have ca8 := HCA.out _ FW.out; clear F8 C8))
              go_region_held3 (fun w' => w'.cell? ⟨go1, go2 + j, none⟩ = some (.string nm)) (go_keep) (first
                | (go_at_call 19; refine (HS _ (NW.out.below (Below.refl _ _).drew)).mono ?_; rintro e w9 ⟨rfl, rfl⟩; replace FW : Hid (Fr b w1 wr.drew) := ⟨FW.out.drew⟩; replace CW := Hid.mk CW.out.drew; replace XW : Hid (Bx wr.drew X #[.slice gd ld cd, .slice (some ⟨p1, p2, none⟩) lb cb] 25) := ⟨XW.out⟩; replace NW : Hid (Nw wr.drew Z (.slice (some ⟨go1, go2, none⟩) lb CO) own) := ⟨NW.out.below (Below.refl _ _).drew⟩; have x0 : wr.drew.cell? ⟨X, 0, none⟩ = some (.slice gd ld cd) := XW.out.cell 0; have x1 : wr.drew.cell? ⟨X, 1, none⟩ = some (.slice (some ⟨p1, p2, none⟩) lb cb) := XW.out.cell 1; have ca9 := HCA.out _ FW.out))
              all_goals go_wp2_with (first
                | (go_at_call 17; refine (fail_any CW.out at1 _).mono ?_; rintro e w8 ⟨rfl, F8, C8⟩; replace FW : Hid (Fr b w1 w8) := ⟨FW.out.trans F8⟩; replace CW := Hid.mk C8; replace XW : Hid (Bx w8 X #[.slice gd ld cd, .slice (some ⟨p1, p2, none⟩) lb cb] 25) := ⟨XW.out.fr F8 neX⟩; replace NW : Hid (Nw w8 Z (.slice (some ⟨go1, go2, none⟩) lb CO) own) := ⟨NW.out.fr F8 lz⟩; have x0 : w8.cell? ⟨X, 0, none⟩ = some (.slice gd ld cd) := XW.out.cell 0; have x1 : w8.cell? ⟨X, 1, none⟩ = some (.slice (some ⟨p1, p2, none⟩) lb cb) := XW.out.cell 1; have co8 := HCO.out _ NW.out; have ca8 := HCA.out _ FW.out; clear F8 C8))
              all_goals exact ⟨⟨j + 1, _, by go_num, by omega, CW.out, HST, FW.out, XW.out, NW.out⟩, by simp [intOf]; omega⟩
        · obtain rfl : lb = j := by omega
          have HT9 : Hid (fk = F9) := ⟨by have := HK.out; rwa [List.drop_eq_nil_of_le (by rw [HALL.out.2.2.2.2.1]; exact Nat.le_refl _), namQ, orF_nil] at this⟩
          have hlt' : ¬ (lb : Int) < lb := by omega
          have HN2 : Hid (orF fk (orF (chBs ds prN tA (fun x => own.contains x) (bs.drop 0)) (if own.contains mainN = true then none else some (0, 36))) = F) := ⟨by rw [HT9.out, List.drop_zero, ← HF9.out, ← HF1.out, ← HF.out, orF_assoc, ← HOWN.out]; rfl⟩
          clear HK
          go_wp2
          go_loopw [10] (fun c2 wr2 => ∃ (j2 : Nat) (fk2 : Flt), c2 = .int .i64 j2 ∧ j2 ≤ lb ∧ Ck wr2 b (.slice gd ld cd) (.slice gb lb cb) fk2 ∧ Hid (orF fk2 (orF (chBs ds prN tA (fun x => own.contains x) (bs.drop j2)) (if own.contains mainN = true then none else some (0, 36))) = F) ∧ Fr b w1 wr2 ∧ Bx wr2 X #[.slice gd ld cd, .slice gb lb cb] 25 ∧ Nw wr2 Z (.slice go lb CO) own) (fun c2 _ => lb - (intOf c2).toNat)
          case atStart => exact ⟨0, fk, rfl, Nat.zero_le _, CW.out, HN2, FW.out, XW.out, NW.out⟩
          case round =>
            clear CW FW XW NW HN2 HT9 x0 x1
            obtain ⟨j2, fk2, rfl, hj2, CW, HK2, FW, XW, NW⟩ := hrel
            replace CW := Hid.mk CW
            replace FW := Hid.mk FW
            replace XW := Hid.mk XW
            replace NW := Hid.mk NW
            have x0 : wr.cell? ⟨X, 0, none⟩ = some (.slice gd ld cd) := XW.out.cell 0
            have x1 : wr.cell? ⟨X, 1, none⟩ = some (.slice gb lb cb) := XW.out.cell 1
            have NR2 := NW.out.row (ok := but b) (by rw [HLO.out]; exact hlb) (fun g hg => by show g ≠ b; omega)
            by_cases hlt2 : j2 < lb
            · have kl : j2 < bs.length := by rw [HALL.out.2.2.2.2.1]; exact hlt2
              obtain ⟨p1, p2, rfl, hp, hxb⟩ := rowC (show IsRow w1 (but b) xb lb (.slice gb lb cb) by have := HALL.out.2.1; rwa [HALL.out.2.2.2.2.1] at this) (by omega)
              obtain ⟨d, hd, hg⟩ := isBs_get bs xb HALL.out.2.2.1 j2 kl
              obtain ⟨bk, bxa, bm, ba, bs0, s0, h3, h4, h5, h6, h7, m3, m4, m5, m6, m7, d3, d4, d5, d6, d7, rfl⟩ := isB_eleven hd
              have e0 : wr.cell? ⟨p1, p2 + j2 * 11, none⟩ = some (.string s0) := by have h0 := (keeps_fr FW.out).cell p1 _ _ hp (hxb _ _ (hg 0 _ rfl)); simpa only [Nat.add_zero, ← Nat.add_assoc] using h0
              have e1 : wr.cell? ⟨p1, p2 + j2 * 11 + 1, none⟩ = some (.int .i64 ba) := by have h0 := (keeps_fr FW.out).cell p1 _ _ hp (hxb _ _ (hg 1 _ rfl)); simpa only [Nat.add_zero, ← Nat.add_assoc] using h0
              have e2 : wr.cell? ⟨p1, p2 + j2 * 11 + 2, none⟩ = some (.slice h3 m3 d3) := by have h0 := (keeps_fr FW.out).cell p1 _ _ hp (hxb _ _ (hg 2 _ rfl)); simpa only [Nat.add_zero, ← Nat.add_assoc] using h0
              have e3 : wr.cell? ⟨p1, p2 + j2 * 11 + 3, none⟩ = some (.int .i64 bk) := by have h0 := (keeps_fr FW.out).cell p1 _ _ hp (hxb _ _ (hg 3 _ rfl)); simpa only [Nat.add_zero, ← Nat.add_assoc] using h0
              have e4 : wr.cell? ⟨p1, p2 + j2 * 11 + 4, none⟩ = some (.int .i64 bxa) := by have h0 := (keeps_fr FW.out).cell p1 _ _ hp (hxb _ _ (hg 4 _ rfl)); simpa only [Nat.add_zero, ← Nat.add_assoc] using h0
              have e5 : wr.cell? ⟨p1, p2 + j2 * 11 + 5, none⟩ = some (.string bs0) := by have h0 := (keeps_fr FW.out).cell p1 _ _ hp (hxb _ _ (hg 5 _ rfl)); simpa only [Nat.add_zero, ← Nat.add_assoc] using h0
              have e6 : wr.cell? ⟨p1, p2 + j2 * 11 + 6, none⟩ = some (.int .i64 bm) := by have h0 := (keeps_fr FW.out).cell p1 _ _ hp (hxb _ _ (hg 6 _ rfl)); simpa only [Nat.add_zero, ← Nat.add_assoc] using h0
              have e7 : wr.cell? ⟨p1, p2 + j2 * 11 + 7, none⟩ = some (.slice h4 m4 d4) := by have h0 := (keeps_fr FW.out).cell p1 _ _ hp (hxb _ _ (hg 7 _ rfl)); simpa only [Nat.add_zero, ← Nat.add_assoc] using h0
              have e8 : wr.cell? ⟨p1, p2 + j2 * 11 + 8, none⟩ = some (.slice h5 m5 d5) := by have h0 := (keeps_fr FW.out).cell p1 _ _ hp (hxb _ _ (hg 8 _ rfl)); simpa only [Nat.add_zero, ← Nat.add_assoc] using h0
              have e9 : wr.cell? ⟨p1, p2 + j2 * 11 + 9, none⟩ = some (.slice h6 m6 d6) := by have h0 := (keeps_fr FW.out).cell p1 _ _ hp (hxb _ _ (hg 9 _ rfl)); simpa only [Nat.add_zero, ← Nat.add_assoc] using h0
              have e10 : wr.cell? ⟨p1, p2 + j2 * 11 + 10, none⟩ = some (.slice h7 m7 d7) := by have h0 := (keeps_fr FW.out).cell p1 _ _ hp (hxb _ _ (hg 10 _ rfl)); simpa only [Nat.add_zero, ← Nat.add_assoc] using h0
              have hst := HK2.out
              rw [List.drop_eq_getElem_cons kl, chBs, orF_assoc, ← orF_assoc] at hst
              have HST := Hid.mk hst
              have BO := B_all (bs[j2]'kl) wr b _ _ fk2 ds _ own (.slice go lb CO) CW.out (HALL.out.1.keeps (keeps_fr FW.out)) (isB_keeps (keeps_fr FW.out) _ _ hd) NR2 (by have := HALL.out.2.2.2.2.2; have := nmBs_le bs j2 kl; rw [HLO.out]; have := HALL.out.2.2.2.2.1; omega)
              have hlt2' : (j2 : Int) < lb := by omega
              clear hst hxb hg hd NR2 HK2
              go_wp2_with (go_at_call 20; refine BO.mono ?_; rintro e w5 ⟨rfl, F8, C8⟩; replace FW : Hid (Fr b w1 w5) := ⟨FW.out.trans F8⟩; replace CW := Hid.mk C8; replace XW : Hid (Bx w5 X #[.slice gd ld cd, .slice (some ⟨p1, p2, none⟩) lb cb] 25) := ⟨XW.out.fr F8 neX⟩; replace NW : Hid (Nw w5 Z (.slice go lb CO) own) := ⟨NW.out.fr F8 lz⟩; clear F8 C8 BO)
              exact ⟨⟨j2 + 1, _, by go_num, by omega, CW.out, HST, FW.out, XW.out, NW.out⟩, by simp [intOf]; omega⟩
            · obtain rfl : lb = j2 := by omega
              have hlt2' : ¬ (lb : Int) < lb := by omega
              have hst := HK2.out
              rw [List.drop_eq_nil_of_le (by rw [HALL.out.2.2.2.2.1]; exact Nat.le_refl _), chBs, orF_left] at hst
              rw [HLO.out] at NR2
              have HM := has_any (w := wr) (ok := but b) own (.slice go lb CO) (by rw [HLO.out]; exact NR2) mainN
              rw [show str mainN = ⟨#[109, 97, 105, 110]⟩ from rfl] at HM
              clear HK2 NR2
              cases qm : own.contains mainN
              · rw [qm] at HM hst
                rw [if_neg (by simp)] at hst
                have HST := Hid.mk hst
                clear hst
                go_wp2_with (first
                  | (go_at_call 19; refine HM.mono ?_; rintro e w6 ⟨rfl, rfl⟩)
                  | (go_at_call 17; refine (fail_any CW.out 0 _).mono ?_; rintro e w8 ⟨rfl, F8, C8⟩; replace FW : Hid (Fr b w1 w8) := ⟨FW.out.trans F8⟩; replace CW := Hid.mk C8; clear F8 C8))
                replace CW : Hid (Ck w8 b (.slice gd ld cd) (.slice gb lb cb) F) := ⟨by rw [← HST.out]; exact CW.out⟩
                have y3 : w8.cell? ⟨b, 3, none⟩ = some (.int .i64 (atF F)) := CW.out.cell 3
                have y4 : w8.cell? ⟨b, 4, none⟩ = some (.int .i64 (erF F)) := CW.out.cell 4
                have HE : Hid (Below X w w8) := ⟨HB0.out.trans (FW.out.below (by omega) LB)⟩
                clear CW FW HST
                go_quiet (fail)
                all_goals go_wp2
                all_goals go_ret2
                all_goals exact ⟨rfl, by rw [HXE.out]; exact below_drewN HE.out _⟩
              · rw [qm] at HM hst
                rw [if_pos rfl, orF_nil] at hst
                have HST := Hid.mk hst
                clear hst
                go_wp2_with (first
                  | (go_at_call 19; refine HM.mono ?_; rintro e w6 ⟨rfl, rfl⟩)
                  | (go_at_call 17; refine (fail_any CW.out 0 _).mono ?_; rintro e w8 ⟨rfl, F8, C8⟩; replace FW : Hid (Fr b w1 w8) := ⟨FW.out.trans F8⟩; replace CW := Hid.mk C8; clear F8 C8))
                replace CW : Hid (Ck w6 b (.slice gd ld cd) (.slice gb lb cb) F) := ⟨by rw [← HST.out]; exact CW.out⟩
                have y3 : w6.cell? ⟨b, 3, none⟩ = some (.int .i64 (atF F)) := CW.out.cell 3
                have y4 : w6.cell? ⟨b, 4, none⟩ = some (.int .i64 (erF F)) := CW.out.cell 4
                have HE : Hid (Below X w w6) := ⟨HB0.out.trans (FW.out.below (by omega) LB)⟩
                clear CW FW HST
                go_quiet (fail)
                all_goals go_wp2
                all_goals go_ret2
                all_goals exact ⟨rfl, by rw [HXE.out]; exact below_drewN HE.out _⟩
end Go.Proofs.YtcbdolflgpmaoaaDoor
