/- The document's check: any alternative; a case that lacks a part. -/
import Derived.Test.YtmlegdnenklkhaaScp
namespace Go.Proofs.Ytmlegdnenklkhaa
open Go.RowKit
set_option linter.unusedVariables false
set_option linter.unusedSimpArgs false

/-- what is wrong with an alternative by itself -/
def kF (ds : List D) (k a : Int) (n : Nm) (vs : List Nm) : Flt :=
  if k = 1 then (match arityN ds n with | none => some (a, 32) | some r => if r ≠ vs.length then some (a, 33) else if vs.contains [] then some (a, 31) else if twiceN vs then some (a, 30) else none)
  else if k = 2 then none else if k = 3 then (if n = [] then some (a, 31) else none) else some (a, 2)
theorem alt_any (k a m : Int) (n : Nm) (vs : List Nm) (x : E) (H : EOK x) (ag : Bool) (w : World) (b : Nat) (vd vb : Value) (f : Flt) (ds : List D) (d : List Value) (is : List Nm) (vi : Value) (h : Ck w b vd vb f) (R : IsRow w (but b) (datC ds) ds.length vd) (I : isA w (but b) (.mk k a n m vs x) d) (IR : IsRow w (but b) (strC is) is.length vi) (hw : is.length + vs.length + 1 + nmE x ≤ 1000000000) :
    Calls Try.prog 48 #[ptr b, .agg d.toArray, .bool ag, vi] w fun e w' => e = done ∧ Fr b w w' ∧ Ck w' b vd vb (orF (orF (orF f (kF ds k a n vs)) (if ag = true then some (a, 30) else none)) (chE ds prN tA (altS (fun y => is.contains y) k n vs) x)) := by
  unfold kF altS
  by_cases k1 : k = 1
  · subst k1
    exact alt_con a m n vs x H ag w b vd vb f ds d is vi h R I IR hw
  · by_cases k2 : k = 2
    · subst k2
      exact alt_int a m n vs x H ag w b vd vb f ds d is vi h R I IR hw
    · by_cases k3 : k = 3
      · subst k3
        have e : (fun y => is.contains y || [n].contains y) = (fun y => is.contains y || n == y) := by
          funext y
          rw [List.contains_cons, eqb_comm y n]
          simp
        have := alt_all a m n vs x H ag w b vd vb f ds d is vi h R I IR hw
        rw [e] at this
        exact this
      · rw [if_neg k1, if_neg k2, if_neg k3, if_neg k1, if_neg k3]
        exact alt_none k (by omega) a m n vs x H ag w b vd vb f ds d is vi h R I IR hw
/-- alternatives that clash -/
def clash (k m : Int) (n : Nm) (h : Hd3) : Bool := (k == 1 && h.kind == 1 && n == h.name) || (k == 2 && h.kind == 2 && m == h.num)
theorem alt_eq (ds : List D) (ahead : List Hd3) (k a : Int) (n : Nm) (m : Int) (vs : List Nm) :
    altF ds ahead k a n m vs = orF (orF (if ahead.any (fun h => h.kind == 3) = true then some (a, 35) else none) (kF ds k a n vs)) (if ahead.any (clash k m n) = true then some (a, 30) else none) := by
  unfold altF kF
  by_cases q : ahead.any (fun h => h.kind == 3) = true
  · rw [if_pos q, if_pos q]; rfl
  · rw [if_neg q, if_neg q, orF_left]
    by_cases k1 : k = 1
    · subst k1
      have e : (fun h : Hd3 => h.kind == 1 && h.name == n) = clash 1 m n := by
        funext h
        unfold clash
        rw [eqb_comm n h.name]
        simp
      rw [if_pos rfl, if_pos rfl, e]
      cases arityN ds n with
      | none => rfl
      | some r =>
        dsimp only
        by_cases c1 : r ≠ vs.length
        · rw [if_pos c1, if_pos c1]; rfl
        · rw [if_neg c1, if_neg c1]
          by_cases c2 : vs.contains [] = true
          · rw [if_pos c2, if_pos c2]; rfl
          · rw [if_neg c2, if_neg c2]
            by_cases c3 : twiceN vs = true
            · rw [if_pos c3, if_pos c3]; rfl
            · rw [if_neg c3, if_neg c3]; rfl
    · by_cases k2 : k = 2
      · subst k2
        have e : (fun h : Hd3 => h.kind == 2 && h.num == m) = clash 2 m n := by
          funext h
          unfold clash
          rw [show (m == h.num) = (h.num == m) by rw [Bool.eq_iff_iff, beq_iff_eq, beq_iff_eq]; exact eq_comm]
          simp
        rw [if_neg k1, if_pos rfl, if_neg k1, if_pos rfl, e]
        rfl
      · have e : ahead.any (clash k m n) = false := by
          rw [List.any_eq_false]
          intro h _
          unfold clash
          simp [k1, k2]
        rw [if_neg k1, if_neg k2, if_neg k1, if_neg k2, e]
        by_cases k3 : k = 3
        · rw [if_pos k3, if_neg (show ¬ (false = true) by simp), orF_nil]
        · rw [if_neg k3]; rfl
set_option maxHeartbeats 4000000 in
theorem cases_none (k a m : Int) (n : Nm) (g4 g5 g6 g7 : Option Addr) (l4 l5 l6 l7 c4 c5 c6 c7 : Nat) (w : World) (b : Nat) (vd vb vi : Value) (h : Ck w b vd vb none) (z : l6 = 0 ∨ l7 = 0) :
    Calls Try.prog 41 #[ptr b, .agg #[.int .i64 k, .int .i64 a, .string (str n), .int .i64 m, .slice g4 l4 c4, .slice g5 l5 c5, .slice g6 l6 c6, .slice g7 l7 c7], vi] w fun e w' => e = done ∧ Fr b w w' ∧ Ck w' b vd vb (some (a, 2)) := by
  have CW : Hid (Ck (w.alloc (.cells #[.int .i64 k, .int .i64 a, .string (str n), .int .i64 m, .slice g4 l4 c4, .slice g5 l5 c5, .slice g6 l6 c6, .slice g7 l7 c7] 28)) b vd vb none) := ⟨h.fr_alloc _⟩
  have FW : Hid (Fr b w (w.alloc (.cells #[.int .i64 k, .int .i64 a, .string (str n), .int .i64 m, .slice g4 l4 c4, .slice g5 l5 c5, .slice g6 l6 c6, .slice g7 l7 c7] 28))) := ⟨(Fr.refl b w).alloc _⟩
  clear h
  by_cases z5 : l6 = 0
  · have e5 : ((l6 : Int) == 0) = true := by simp [z5]
    clear z z5
    go_enter Try.func41, Try.ntmps41
    go_wp2_with (go_at_call 21; refine (fail_any CW.out a _).mono ?_; rintro e w8 ⟨rfl, F8, C8⟩; have HE := Hid.mk (And.intro (FW.out.trans F8) C8); clear F8 C8)
    exact bodyPost_ret (results_none rfl _ _ _) rfl ⟨rfl, HE.out.1, HE.out.2⟩
  · have e5 : ((l6 : Int) == 0) = false := by simp; omega
    have e6 : ((l7 : Int) == 0) = true := by simp; omega
    clear z z5
    go_enter Try.func41, Try.ntmps41
    go_wp2_with (go_at_call 21; refine (fail_any CW.out a _).mono ?_; rintro e w8 ⟨rfl, F8, C8⟩; have HE := Hid.mk (And.intro (FW.out.trans F8) C8); clear F8 C8)
    exact bodyPost_ret (results_none rfl _ _ _) rfl ⟨rfl, HE.out.1, HE.out.2⟩
end Go.Proofs.Ytmlegdnenklkhaa
