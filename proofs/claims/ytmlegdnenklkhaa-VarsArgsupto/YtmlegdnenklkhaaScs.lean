/- The document's check: any expression. -/
import Derived.Test.YtmlegdnenklkhaaScr
namespace Go.Proofs.Ytmlegdnenklkhaa
open Go.RowKit
set_option linter.unusedVariables false
set_option linter.unusedSimpArgs false

set_option maxHeartbeats 2000000 in
theorem exp_part5 (a m : Int) (n : Nm) (g4 g5 g6 g7 : Option Addr) (l4 l5 l6 l7 c4 c5 c6 c7 : Nat) (w : World) (b : Nat) (vd vb vi : Value) (F : Flt) (h : Ck w b vd vb none)
    (LT : ∀ W, Fr b w W → Ck W b vd vb none → Calls Try.prog 40 #[ptr b, .agg #[.int .i64 5, .int .i64 a, .string (str n), .int .i64 m, .slice g4 l4 c4, .slice g5 l5 c5, .slice g6 l6 c6, .slice g7 l7 c7], vi] W fun e w' => e = done ∧ Fr b W w' ∧ Ck w' b vd vb F) :
    Calls Try.prog 28 #[ptr b, .agg #[.int .i64 5, .int .i64 a, .string (str n), .int .i64 m, .slice g4 l4 c4, .slice g5 l5 c5, .slice g6 l6 c6, .slice g7 l7 c7], vi] w fun e w' => e = done ∧ Fr b w w' ∧ Ck w' b vd vb F := by
  have CW : Hid (Ck (w.alloc (.cells #[.int .i64 5, .int .i64 a, .string (str n), .int .i64 m, .slice g4 l4 c4, .slice g5 l5 c5, .slice g6 l6 c6, .slice g7 l7 c7] 28)) b vd vb none) := ⟨h.fr_alloc _⟩
  have FW : Hid (Fr b w (w.alloc (.cells #[.int .i64 5, .int .i64 a, .string (str n), .int .i64 m, .slice g4 l4 c4, .slice g5 l5 c5, .slice g6 l6 c6, .slice g7 l7 c7] 28))) := ⟨(Fr.refl b w).alloc _⟩
  have y2 : (w.alloc (.cells #[.int .i64 5, .int .i64 a, .string (str n), .int .i64 m, .slice g4 l4 c4, .slice g5 l5 c5, .slice g6 l6 c6, .slice g7 l7 c7] 28)).cell? ⟨b, 2, none⟩ = some (.bool false) := CW.out.cell 2
  have L1 := LT _ FW.out CW.out
  clear h LT
  go_enter Try.func28, Try.ntmps28
  go_wp2_with (go_at_call 40; refine L1.mono ?_; rintro e w8 ⟨rfl, F8, C8⟩; have HE := Hid.mk (And.intro (FW.out.trans F8) C8); clear F8 C8 L1)
  go_end0
  exact ⟨rfl, HE.out.1, HE.out.2⟩
set_option maxHeartbeats 2000000 in
theorem exp_part6 (a m : Int) (n : Nm) (g4 g5 g6 g7 : Option Addr) (l4 l5 l6 l7 c4 c5 c6 c7 : Nat) (w : World) (b : Nat) (vd vb vi : Value) (F : Flt) (h : Ck w b vd vb none)
    (LT : ∀ W, Fr b w W → Ck W b vd vb none → Calls Try.prog 41 #[ptr b, .agg #[.int .i64 6, .int .i64 a, .string (str n), .int .i64 m, .slice g4 l4 c4, .slice g5 l5 c5, .slice g6 l6 c6, .slice g7 l7 c7], vi] W fun e w' => e = done ∧ Fr b W w' ∧ Ck w' b vd vb F) :
    Calls Try.prog 28 #[ptr b, .agg #[.int .i64 6, .int .i64 a, .string (str n), .int .i64 m, .slice g4 l4 c4, .slice g5 l5 c5, .slice g6 l6 c6, .slice g7 l7 c7], vi] w fun e w' => e = done ∧ Fr b w w' ∧ Ck w' b vd vb F := by
  have CW : Hid (Ck (w.alloc (.cells #[.int .i64 6, .int .i64 a, .string (str n), .int .i64 m, .slice g4 l4 c4, .slice g5 l5 c5, .slice g6 l6 c6, .slice g7 l7 c7] 28)) b vd vb none) := ⟨h.fr_alloc _⟩
  have FW : Hid (Fr b w (w.alloc (.cells #[.int .i64 6, .int .i64 a, .string (str n), .int .i64 m, .slice g4 l4 c4, .slice g5 l5 c5, .slice g6 l6 c6, .slice g7 l7 c7] 28))) := ⟨(Fr.refl b w).alloc _⟩
  have y2 : (w.alloc (.cells #[.int .i64 6, .int .i64 a, .string (str n), .int .i64 m, .slice g4 l4 c4, .slice g5 l5 c5, .slice g6 l6 c6, .slice g7 l7 c7] 28)).cell? ⟨b, 2, none⟩ = some (.bool false) := CW.out.cell 2
  have L1 := LT _ FW.out CW.out
  clear h LT
  go_enter Try.func28, Try.ntmps28
  go_wp2_with (go_at_call 41; refine L1.mono ?_; rintro e w8 ⟨rfl, F8, C8⟩; have HE := Hid.mk (And.intro (FW.out.trans F8) C8); clear F8 C8 L1)
  go_end0
  exact ⟨rfl, HE.out.1, HE.out.2⟩
theorem E_all_of (k a : Int) (n : Nm) (m : Int) (ts : List Atm) (bs : List B) (ks : List E) (al : List A) (HB : ∀ x ∈ bs, BOK x) (HK : ∀ x ∈ ks, EOK x) (HA : ∀ x ∈ al, EOK (bodA x)) : EOK (.mk k a n m ts bs ks al) := by
  intro w b vd vb f ds d is vi h R I IR hw
  simp only [isE] at I
  obtain ⟨vt, vb', vk, va, xb, xk, xa, rfl, IT, IB, IBS, IK, IKS, IA, IAS⟩ := I
  have IT0 := IT
  have IB0 := IB
  have IK0 := IK
  have IA0 := IA
  obtain ⟨g4, c4, rfl, _, _⟩ := IT
  obtain ⟨g5, c5, rfl, _, _⟩ := IB
  obtain ⟨g6, c6, rfl, _, _⟩ := IK
  obtain ⟨g7, c7, rfl, _, _⟩ := IA
  rw [nmE] at hw
  cases f with
  | some z =>
    rw [orF_some]
    exact exp_some h _ _ _ _ _ _ _ _ vi
  | none =>
    rw [orF_left, chE]
    by_cases k1 : k = 1
    · rw [if_pos k1]; subst k1
      exact exp_app h a m n ts _ _ _ _ IT0 is vi IR
    · rw [if_neg k1]
      by_cases k2 : k = 2
      · rw [if_pos k2]; subst k2
        exact exp_con h ds R a m n ts _ _ _ _ IT0 is vi IR
      · rw [if_neg k2]
        by_cases k3 : k = 3
        · rw [if_pos k3]; subst k3
          exact exp_prim h a m n ts _ _ _ _ IT0 is vi IR
        · rw [if_neg k3]
          by_cases k4 : k = 4
          · rw [if_pos k4]; subst k4
            exact exp_int h a m n ts _ _ _ _ IT0 is vi IR
          · rw [if_neg k4]
            by_cases k5 : k = 5
            · rw [if_pos k5]; subst k5
              refine exp_part5 a m n g4 g5 g6 g7 _ _ _ _ c4 c5 c6 c7 w b vd vb vi _ h (fun W F C => ?_)
              by_cases z : bs.length = 0 ∨ ks.length = 0
              · rw [if_pos z]
                exact let_none 5 a m n g4 g5 g6 g7 _ _ _ _ c4 c5 c6 c7 W b vd vb vi C z
              · rw [if_neg z]
                exact let_some 5 a m n g4 g5 g6 g7 _ _ _ _ c4 c5 c6 c7 bs ks W b vd vb vi ds is xb xk HB HK C (R.keeps (keeps_fr F)) (IR.keeps (keeps_fr F)) (IB0.keeps (keeps_fr F)) (isBs_keeps (keeps_fr F) _ _ IBS) (IK0.keeps (keeps_fr F)) (isEs_keeps (keeps_fr F) _ _ IKS) (by omega) (by omega) rfl rfl (by omega)
            · rw [if_neg k5]
              by_cases k6 : k = 6
              · rw [if_pos k6]; subst k6
                refine exp_part6 a m n g4 g5 g6 g7 _ _ _ _ c4 c5 c6 c7 w b vd vb vi _ h (fun W F C => ?_)
                by_cases z : ks.length = 0 ∨ al.length = 0
                · rw [if_pos z]
                  exact cases_none 6 a m n g4 g5 g6 g7 _ _ _ _ c4 c5 c6 c7 W b vd vb vi C z
                · rw [if_neg z]
                  exact cases_some 6 a m n g4 g5 g6 g7 _ _ _ _ c4 c5 c6 c7 al ks W b vd vb vi ds is xa xk HA HK C (R.keeps (keeps_fr F)) (IR.keeps (keeps_fr F)) (IA0.keeps (keeps_fr F)) (isAs_keeps (keeps_fr F) _ _ IAS) (IK0.keeps (keeps_fr F)) (isEs_keeps (keeps_fr F) _ _ IKS) (by omega) (by omega) rfl rfl (by omega)
              · rw [if_neg k6]
                exact exp_none h k (by omega) a m n ts _ _ _ _ IT0 is vi IR
mutual
theorem E_all : ∀ x : E, EOK x
  | .mk k a n m ts bs ks al => E_all_of k a n m ts bs ks al (Bs_all bs) (Es_all ks) (As_all al)
theorem B_all : ∀ x : B, BOK x
  | .mk n a l x => form_any n a l x (E_all x)
theorem A_all : ∀ x : A, EOK (bodA x)
  | .mk _ _ _ _ _ x => E_all x
theorem Es_all : ∀ l : List E, ∀ x ∈ l, EOK x
  | [], x, h => by cases h
  | y :: r, x, h => by
    rcases List.mem_cons.1 h with e | e
    · rw [e]; exact E_all y
    · exact Es_all r x e
theorem Bs_all : ∀ l : List B, ∀ x ∈ l, BOK x
  | [], x, h => by cases h
  | y :: r, x, h => by
    rcases List.mem_cons.1 h with e | e
    · rw [e]; exact B_all y
    · exact Bs_all r x e
theorem As_all : ∀ l : List A, ∀ x ∈ l, EOK (bodA x)
  | [], x, h => by cases h
  | y :: r, x, h => by
    rcases List.mem_cons.1 h with e | e
    · rw [e]; exact A_all y
    · exact As_all r x e
end
end Go.Proofs.Ytmlegdnenklkhaa
