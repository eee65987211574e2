/- The document's check: binds within an expression. -/
import Derived.Test.YtcbdolflgpmaoaaDoorSck
namespace Go.Proofs.YtcbdolflgpmaoaaDoor
open Go.RowKit
set_option linter.unusedVariables false
set_option linter.unusedSimpArgs false

theorem isB_eleven {w : World} {ok : Nat → Prop} {x : B} {c : List Value} (h : isB w ok x c) : ∃ (k a m a0 : Int) (s s0 : ByteArray) (g3 g4 g5 g6 g7 : Option Addr) (n3 n4 n5 n6 n7 c3 c4 c5 c6 c7 : Nat),
    c = [.string s0, .int .i64 a0, .slice g3 n3 c3, .int .i64 k, .int .i64 a, .string s, .int .i64 m, .slice g4 n4 c4, .slice g5 n5 c5, .slice g6 n6 c6, .slice g7 n7 c7] := by
  obtain ⟨n, a, al, x⟩ := x
  simp only [isB] at h
  obtain ⟨va, d, rfl, ⟨_, _, rfl, _⟩, h⟩ := h
  obtain ⟨k, a, m, s, g4, g5, g6, g7, n4, n5, n6, n7, c4, c5, c6, c7, rfl⟩ := isE_eight h
  exact ⟨_, _, _, _, _, _, _, _, _, _, _, _, _, _, _, _, _, _, _, _, _, rfl⟩
def atB : B → Int | .mk _ a _ _ => a
/-- the names, each asked both things -/
def namQ (ahead : List Nm) : List B → Flt
  | [] => none
  | .mk n a _ _ :: r => orF (orF (if n = [] then some (a, 31) else none) (if ahead.contains n = true then some (a, 30) else none)) (namQ (ahead ++ [n]) r)
theorem namQ_cons (ahead : List Nm) (x : B) (r : List B) : namQ ahead (x :: r) = orF (orF (if nameB' x = [] then some (atB x, 31) else none) (if ahead.contains (nameB' x) = true then some (atB x, 30) else none)) (namQ (ahead ++ [nameB' x]) r) := by
  obtain ⟨n, a, l, e⟩ := x
  rfl
theorem namQ_F : ∀ (l : List B) (p q : List Nm), (∀ y, p.contains y = q.contains y) → namQ p l = namF q l
  | [], _, _, _ => rfl
  | .mk n a al x :: r, p, q, h => by
    have ih := namQ_F r (p ++ [n]) (n :: q) (fun y => by rw [has_snoc, List.contains_cons, h y]; cases q.contains y <;> cases (y == n) <;> rfl)
    rw [namQ, namF]
    by_cases z : n = []
    · rw [if_pos z, if_pos z]; rfl
    · rw [if_neg z, if_neg z, orF_left, h n, ih]
      by_cases g : q.contains n = true
      · rw [if_pos g, if_pos g]; rfl
      · rw [if_neg g, if_neg g]; rfl
def letF (ds : List D) (sc : Nm → Bool) (a : Int) (bs : List B) (ks : List E) : Flt := if bs.length = 0 ∨ ks.length = 0 then some (a, 2) else orF (namF [] bs) (orF (chBs ds prN tA (fun x => sc x || (bs.map nameB').contains x) bs) (chK ds prN tA (fun x => sc x || (bs.map nameB').contains x) ks))
set_option maxHeartbeats 4000000 in
theorem let_none (k a m : Int) (n : Nm) (g4 g5 g6 g7 : Option Addr) (l4 l5 l6 l7 c4 c5 c6 c7 : Nat) (w : World) (b : Nat) (vd vb vi : Value) (h : Ck w b vd vb none) (z : l5 = 0 ∨ l6 = 0) :
    Calls Tryd.prog 53 #[ptr b, .agg #[.int .i64 k, .int .i64 a, .string (str n), .int .i64 m, .slice g4 l4 c4, .slice g5 l5 c5, .slice g6 l6 c6, .slice g7 l7 c7], vi] w fun e w' => e = done ∧ Fr b w w' ∧ Ck w' b vd vb (some (a, 2)) := by
  have CW : Hid (Ck (w.alloc (.cells #[.int .i64 k, .int .i64 a, .string (str n), .int .i64 m, .slice g4 l4 c4, .slice g5 l5 c5, .slice g6 l6 c6, .slice g7 l7 c7] 45)) b vd vb none) := ⟨h.fr_alloc _⟩
  have FW : Hid (Fr b w (w.alloc (.cells #[.int .i64 k, .int .i64 a, .string (str n), .int .i64 m, .slice g4 l4 c4, .slice g5 l5 c5, .slice g6 l6 c6, .slice g7 l7 c7] 45))) := ⟨(Fr.refl b w).alloc _⟩
  clear h
  by_cases z5 : l5 = 0
  · have e5 : ((l5 : Int) == 0) = true := by simp [z5]
    clear z z5
    go_enter Tryd.func53, Tryd.ntmps53
    go_wp2_with (go_at_call 17; refine (fail_any CW.out a _).mono ?_; rintro e w8 ⟨rfl, F8, C8⟩; have HE := Hid.mk (And.intro (FW.out.trans F8) C8); clear F8 C8)
    exact bodyPost_ret (results_none rfl _ _ _) rfl ⟨rfl, HE.out.1, HE.out.2⟩
  · have e5 : ((l5 : Int) == 0) = false := by simp; omega
    have e6 : ((l6 : Int) == 0) = true := by simp; omega
    clear z z5
    go_enter Tryd.func53, Tryd.ntmps53
    go_wp2_with (go_at_call 17; refine (fail_any CW.out a _).mono ?_; rintro e w8 ⟨rfl, F8, C8⟩; have HE := Hid.mk (And.intro (FW.out.trans F8) C8); clear F8 C8)
    exact bodyPost_ret (results_none rfl _ _ _) rfl ⟨rfl, HE.out.1, HE.out.2⟩
end Go.Proofs.YtcbdolflgpmaoaaDoor
