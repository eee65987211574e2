/- The document's check: an alternative. -/
import Derived.Test.YtmlegdnenklkhaaScm
namespace Go.Proofs.Ytmlegdnenklkhaa
open Go.RowKit
set_option linter.unusedVariables false
set_option linter.unusedSimpArgs false

set_option maxHeartbeats 4000000 in
theorem alt_int (a m : Int) (n : Nm) (vs : List Nm) (x : E) (H : EOK x) (ag : Bool) (w : World) (b : Nat) (vd vb : Value) (f : Flt) (ds : List D) (d : List Value) (is : List Nm) (vi : Value) (h : Ck w b vd vb f) (R : IsRow w (but b) (datC ds) ds.length vd) (I : isA w (but b) (.mk 2 a n m vs x) d) (IR : IsRow w (but b) (strC is) is.length vi) (hw : is.length + vs.length + 1 + nmE x ≤ 1000000000) :
    Calls Try.prog 48 #[ptr b, .agg d.toArray, .bool ag, vi] w fun e w' => e = done ∧ Fr b w w' ∧ Ck w' b vd vb (orF (orF (orF f none) (if ag = true then some (a, 30) else none)) (chE ds prN tA (fun y => is.contains y) x)) := by
  simp only [isA] at I
  obtain ⟨vv, dx, rfl, IV, IX⟩ := I
  obtain ⟨xk, xa, xm, xs, g4, g5, g6, g7, n4, n5, n6, n7, c4, c5, c6, c7, rfl⟩ := isE_eight IX
  have IV0 := IV
  obtain ⟨ga, cap, rfl, hc, _⟩ := IV
  obtain ⟨l, hl⟩ : ∃ l, vs.length = l := ⟨_, rfl⟩
  rw [hl] at IV0 hw hc
  have lt := h.lt
  have ne : w.heap.size ≠ b := by omega
  have CW : Hid (Ck (w.alloc (.cells #[.int .i64 2, .int .i64 a, .string (str n), .int .i64 m, .slice ga l cap, .int .i64 xk, .int .i64 xa, .string xs, .int .i64 xm, .slice g4 n4 c4, .slice g5 n5 c5, .slice g6 n6 c6, .slice g7 n7 c7] 51)) b vd vb f) := ⟨h.fr_alloc _⟩
  have XW : Hid (Bx (w.alloc (.cells #[.int .i64 2, .int .i64 a, .string (str n), .int .i64 m, .slice ga l cap, .int .i64 xk, .int .i64 xa, .string xs, .int .i64 xm, .slice g4 n4 c4, .slice g5 n5 c5, .slice g6 n6 c6, .slice g7 n7 c7] 51)) w.heap.size #[.int .i64 2, .int .i64 a, .string (str n), .int .i64 m, .slice ga l cap, .int .i64 xk, .int .i64 xa, .string xs, .int .i64 xm, .slice g4 n4 c4, .slice g5 n5 c5, .slice g6 n6 c6, .slice g7 n7 c7] 51) := ⟨heap_alloc_new w _⟩
  have FW : Hid (Fr b w (w.alloc (.cells #[.int .i64 2, .int .i64 a, .string (str n), .int .i64 m, .slice ga l cap, .int .i64 xk, .int .i64 xa, .string xs, .int .i64 xm, .slice g4 n4 c4, .slice g5 n5 c5, .slice g6 n6 c6, .slice g7 n7 c7] 51))) := ⟨(Fr.refl b w).alloc _⟩
  have EX : ∀ (W : World) (fk : Flt), Fr b w W → Ck W b vd vb fk → Calls Try.prog 28 #[ptr b, .agg #[.int .i64 xk, .int .i64 xa, .string xs, .int .i64 xm, .slice g4 n4 c4, .slice g5 n5 c5, .slice g6 n6 c6, .slice g7 n7 c7], vi] W fun e w' => e = done ∧ Fr b W w' ∧ Ck w' b vd vb (orF fk (chE ds prN tA (fun y => is.contains y) x)) := fun W fk F C =>
    H W b vd vb fk ds _ is vi C (R.keeps (keeps_fr F)) (isE_keeps (keeps_fr F) _ _ IX) (IR.keeps (keeps_fr F)) (by omega)
  generalize chE ds prN tA (fun y => is.contains y) x = r at *
  rw [orF_nil]
  rw [← hl] at hw
  simp only [hl]
  clear h H IX IV0 IR R hw hl
  cases ag
  · rw [if_neg (by simp), orF_nil]
    go_enter Try.func48, Try.ntmps48
    go_wp2_with (first
      | (go_at_call 21; refine (fail_any CW.out a _).mono ?_; rintro e w8 ⟨rfl, F8, C8⟩; replace FW : Hid (Fr b w w8) := ⟨FW.out.trans F8⟩; replace CW := Hid.mk C8; replace XW : Hid (Bx w8 w.heap.size #[.int .i64 2, .int .i64 a, .string (str n), .int .i64 m, .slice ga l cap, .int .i64 xk, .int .i64 xa, .string xs, .int .i64 xm, .slice g4 n4 c4, .slice g5 n5 c5, .slice g6 n6 c6, .slice g7 n7 c7] 51) := ⟨XW.out.fr F8 ne⟩; have x0 : w8.cell? ⟨w.heap.size, 0, none⟩ = some (.int .i64 2) := XW.out.cell 0; have x1 : w8.cell? ⟨w.heap.size, 1, none⟩ = some (.int .i64 a) := XW.out.cell 1; have x2 : w8.cell? ⟨w.heap.size, 2, none⟩ = some (.string (str n)) := XW.out.cell 2; have x3 : w8.cell? ⟨w.heap.size, 3, none⟩ = some (.int .i64 m) := XW.out.cell 3; have x4 : w8.cell? ⟨w.heap.size, 4, none⟩ = some (.slice ga l cap) := XW.out.cell 4; have x5 : w8.cell? ⟨w.heap.size, 5, none⟩ = some (.int .i64 xk) := XW.out.cell 5; have x6 : w8.cell? ⟨w.heap.size, 6, none⟩ = some (.int .i64 xa) := XW.out.cell 6; have x7 : w8.cell? ⟨w.heap.size, 7, none⟩ = some (.string xs) := XW.out.cell 7; have x8 : w8.cell? ⟨w.heap.size, 8, none⟩ = some (.int .i64 xm) := XW.out.cell 8; have x9 : w8.cell? ⟨w.heap.size, 9, none⟩ = some (.slice g4 n4 c4) := XW.out.cell 9; have x10 : w8.cell? ⟨w.heap.size, 10, none⟩ = some (.slice g5 n5 c5) := XW.out.cell 10; have x11 : w8.cell? ⟨w.heap.size, 11, none⟩ = some (.slice g6 n6 c6) := XW.out.cell 11; have x12 : w8.cell? ⟨w.heap.size, 12, none⟩ = some (.slice g7 n7 c7) := XW.out.cell 12; clear F8 C8)
      | (go_at_call 28; refine (EX _ _ FW.out CW.out).mono ?_; rintro e w21 ⟨rfl, F8, C8⟩; have HE := Hid.mk (And.intro (FW.out.trans F8) C8); clear F8 C8))
    go_end0
    exact ⟨rfl, HE.out.1, HE.out.2⟩
  · rw [if_pos rfl]
    go_enter Try.func48, Try.ntmps48
    go_wp2_with (first
      | (go_at_call 21; refine (fail_any CW.out a _).mono ?_; rintro e w8 ⟨rfl, F8, C8⟩; replace FW : Hid (Fr b w w8) := ⟨FW.out.trans F8⟩; replace CW := Hid.mk C8; replace XW : Hid (Bx w8 w.heap.size #[.int .i64 2, .int .i64 a, .string (str n), .int .i64 m, .slice ga l cap, .int .i64 xk, .int .i64 xa, .string xs, .int .i64 xm, .slice g4 n4 c4, .slice g5 n5 c5, .slice g6 n6 c6, .slice g7 n7 c7] 51) := ⟨XW.out.fr F8 ne⟩; have x0 : w8.cell? ⟨w.heap.size, 0, none⟩ = some (.int .i64 2) := XW.out.cell 0; have x1 : w8.cell? ⟨w.heap.size, 1, none⟩ = some (.int .i64 a) := XW.out.cell 1; have x2 : w8.cell? ⟨w.heap.size, 2, none⟩ = some (.string (str n)) := XW.out.cell 2; have x3 : w8.cell? ⟨w.heap.size, 3, none⟩ = some (.int .i64 m) := XW.out.cell 3; have x4 : w8.cell? ⟨w.heap.size, 4, none⟩ = some (.slice ga l cap) := XW.out.cell 4; have x5 : w8.cell? ⟨w.heap.size, 5, none⟩ = some (.int .i64 xk) := XW.out.cell 5; have x6 : w8.cell? ⟨w.heap.size, 6, none⟩ = some (.int .i64 xa) := XW.out.cell 6; have x7 : w8.cell? ⟨w.heap.size, 7, none⟩ = some (.string xs) := XW.out.cell 7; have x8 : w8.cell? ⟨w.heap.size, 8, none⟩ = some (.int .i64 xm) := XW.out.cell 8; have x9 : w8.cell? ⟨w.heap.size, 9, none⟩ = some (.slice g4 n4 c4) := XW.out.cell 9; have x10 : w8.cell? ⟨w.heap.size, 10, none⟩ = some (.slice g5 n5 c5) := XW.out.cell 10; have x11 : w8.cell? ⟨w.heap.size, 11, none⟩ = some (.slice g6 n6 c6) := XW.out.cell 11; have x12 : w8.cell? ⟨w.heap.size, 12, none⟩ = some (.slice g7 n7 c7) := XW.out.cell 12; clear F8 C8)
      | (go_at_call 28; refine (EX _ _ FW.out CW.out).mono ?_; rintro e w21 ⟨rfl, F8, C8⟩; have HE := Hid.mk (And.intro (FW.out.trans F8) C8); clear F8 C8))
    go_end0
    exact ⟨rfl, HE.out.1, HE.out.2⟩
set_option maxHeartbeats 4000000 in
theorem alt_none (k : Int) (hk : ¬ (k = 1 ∨ k = 2 ∨ k = 3)) (a m : Int) (n : Nm) (vs : List Nm) (x : E) (H : EOK x) (ag : Bool) (w : World) (b : Nat) (vd vb : Value) (f : Flt) (ds : List D) (d : List Value) (is : List Nm) (vi : Value) (h : Ck w b vd vb f) (R : IsRow w (but b) (datC ds) ds.length vd) (I : isA w (but b) (.mk k a n m vs x) d) (IR : IsRow w (but b) (strC is) is.length vi) (hw : is.length + vs.length + 1 + nmE x ≤ 1000000000) :
    Calls Try.prog 48 #[ptr b, .agg d.toArray, .bool ag, vi] w fun e w' => e = done ∧ Fr b w w' ∧ Ck w' b vd vb (orF (orF (orF f (some (a, 2))) (if ag = true then some (a, 30) else none)) (chE ds prN tA (fun y => is.contains y) x)) := by
  simp only [isA] at I
  obtain ⟨vv, dx, rfl, IV, IX⟩ := I
  obtain ⟨xk, xa, xm, xs, g4, g5, g6, g7, n4, n5, n6, n7, c4, c5, c6, c7, rfl⟩ := isE_eight IX
  have IV0 := IV
  obtain ⟨ga, cap, rfl, hc, _⟩ := IV
  obtain ⟨l, hl⟩ : ∃ l, vs.length = l := ⟨_, rfl⟩
  rw [hl] at IV0 hw hc
  have lt := h.lt
  have ne : w.heap.size ≠ b := by omega
  have CW : Hid (Ck (w.alloc (.cells #[.int .i64 k, .int .i64 a, .string (str n), .int .i64 m, .slice ga l cap, .int .i64 xk, .int .i64 xa, .string xs, .int .i64 xm, .slice g4 n4 c4, .slice g5 n5 c5, .slice g6 n6 c6, .slice g7 n7 c7] 51)) b vd vb f) := ⟨h.fr_alloc _⟩
  have XW : Hid (Bx (w.alloc (.cells #[.int .i64 k, .int .i64 a, .string (str n), .int .i64 m, .slice ga l cap, .int .i64 xk, .int .i64 xa, .string xs, .int .i64 xm, .slice g4 n4 c4, .slice g5 n5 c5, .slice g6 n6 c6, .slice g7 n7 c7] 51)) w.heap.size #[.int .i64 k, .int .i64 a, .string (str n), .int .i64 m, .slice ga l cap, .int .i64 xk, .int .i64 xa, .string xs, .int .i64 xm, .slice g4 n4 c4, .slice g5 n5 c5, .slice g6 n6 c6, .slice g7 n7 c7] 51) := ⟨heap_alloc_new w _⟩
  have FW : Hid (Fr b w (w.alloc (.cells #[.int .i64 k, .int .i64 a, .string (str n), .int .i64 m, .slice ga l cap, .int .i64 xk, .int .i64 xa, .string xs, .int .i64 xm, .slice g4 n4 c4, .slice g5 n5 c5, .slice g6 n6 c6, .slice g7 n7 c7] 51))) := ⟨(Fr.refl b w).alloc _⟩
  have EX : ∀ (W : World) (fk : Flt), Fr b w W → Ck W b vd vb fk → Calls Try.prog 28 #[ptr b, .agg #[.int .i64 xk, .int .i64 xa, .string xs, .int .i64 xm, .slice g4 n4 c4, .slice g5 n5 c5, .slice g6 n6 c6, .slice g7 n7 c7], vi] W fun e w' => e = done ∧ Fr b W w' ∧ Ck w' b vd vb (orF fk (chE ds prN tA (fun y => is.contains y) x)) := fun W fk F C =>
    H W b vd vb fk ds _ is vi C (R.keeps (keeps_fr F)) (isE_keeps (keeps_fr F) _ _ IX) (IR.keeps (keeps_fr F)) (by omega)
  generalize chE ds prN tA (fun y => is.contains y) x = r at *
  have k1 : (k == 1) = false := by simp; omega
  have k2 : (k == 2) = false := by simp; omega
  have k3 : (k == 3) = false := by simp; omega
  simp only [hl]
  clear h H IX IV0 IR R hw hl hk
  cases ag
  · rw [if_neg (by simp), orF_nil]
    go_enter Try.func48, Try.ntmps48
    go_wp2_with (first
      | (go_at_call 21; refine (fail_any CW.out a _).mono ?_; rintro e w8 ⟨rfl, F8, C8⟩; replace FW : Hid (Fr b w w8) := ⟨FW.out.trans F8⟩; replace CW := Hid.mk C8; replace XW : Hid (Bx w8 w.heap.size #[.int .i64 k, .int .i64 a, .string (str n), .int .i64 m, .slice ga l cap, .int .i64 xk, .int .i64 xa, .string xs, .int .i64 xm, .slice g4 n4 c4, .slice g5 n5 c5, .slice g6 n6 c6, .slice g7 n7 c7] 51) := ⟨XW.out.fr F8 ne⟩; have x0 : w8.cell? ⟨w.heap.size, 0, none⟩ = some (.int .i64 k) := XW.out.cell 0; have x1 : w8.cell? ⟨w.heap.size, 1, none⟩ = some (.int .i64 a) := XW.out.cell 1; have x2 : w8.cell? ⟨w.heap.size, 2, none⟩ = some (.string (str n)) := XW.out.cell 2; have x3 : w8.cell? ⟨w.heap.size, 3, none⟩ = some (.int .i64 m) := XW.out.cell 3; have x4 : w8.cell? ⟨w.heap.size, 4, none⟩ = some (.slice ga l cap) := XW.out.cell 4; have x5 : w8.cell? ⟨w.heap.size, 5, none⟩ = some (.int .i64 xk) := XW.out.cell 5; have x6 : w8.cell? ⟨w.heap.size, 6, none⟩ = some (.int .i64 xa) := XW.out.cell 6; have x7 : w8.cell? ⟨w.heap.size, 7, none⟩ = some (.string xs) := XW.out.cell 7; have x8 : w8.cell? ⟨w.heap.size, 8, none⟩ = some (.int .i64 xm) := XW.out.cell 8; have x9 : w8.cell? ⟨w.heap.size, 9, none⟩ = some (.slice g4 n4 c4) := XW.out.cell 9; have x10 : w8.cell? ⟨w.heap.size, 10, none⟩ = some (.slice g5 n5 c5) := XW.out.cell 10; have x11 : w8.cell? ⟨w.heap.size, 11, none⟩ = some (.slice g6 n6 c6) := XW.out.cell 11; have x12 : w8.cell? ⟨w.heap.size, 12, none⟩ = some (.slice g7 n7 c7) := XW.out.cell 12; clear F8 C8)
      | (go_at_call 28; refine (EX _ _ FW.out CW.out).mono ?_; rintro e w21 ⟨rfl, F8, C8⟩; have HE := Hid.mk (And.intro (FW.out.trans F8) C8); clear F8 C8))
    go_end0
    exact ⟨rfl, HE.out.1, HE.out.2⟩
  · rw [if_pos rfl]
    go_enter Try.func48, Try.ntmps48
    go_wp2_with (first
      | (go_at_call 21; refine (fail_any CW.out a _).mono ?_; rintro e w8 ⟨rfl, F8, C8⟩; replace FW : Hid (Fr b w w8) := ⟨FW.out.trans F8⟩; replace CW := Hid.mk C8; replace XW : Hid (Bx w8 w.heap.size #[.int .i64 k, .int .i64 a, .string (str n), .int .i64 m, .slice ga l cap, .int .i64 xk, .int .i64 xa, .string xs, .int .i64 xm, .slice g4 n4 c4, .slice g5 n5 c5, .slice g6 n6 c6, .slice g7 n7 c7] 51) := ⟨XW.out.fr F8 ne⟩; have x0 : w8.cell? ⟨w.heap.size, 0, none⟩ = some (.int .i64 k) := XW.out.cell 0; have x1 : w8.cell? ⟨w.heap.size, 1, none⟩ = some (.int .i64 a) := XW.out.cell 1; have x2 : w8.cell? ⟨w.heap.size, 2, none⟩ = some (.string (str n)) := XW.out.cell 2; have x3 : w8.cell? ⟨w.heap.size, 3, none⟩ = some (.int .i64 m) := XW.out.cell 3; have x4 : w8.cell? ⟨w.heap.size, 4, none⟩ = some (.slice ga l cap) := XW.out.cell 4; have x5 : w8.cell? ⟨w.heap.size, 5, none⟩ = some (.int .i64 xk) := XW.out.cell 5; have x6 : w8.cell? ⟨w.heap.size, 6, none⟩ = some (.int .i64 xa) := XW.out.cell 6; have x7 : w8.cell? ⟨w.heap.size, 7, none⟩ = some (.string xs) := XW.out.cell 7; have x8 : w8.cell? ⟨w.heap.size, 8, none⟩ = some (.int .i64 xm) := XW.out.cell 8; have x9 : w8.cell? ⟨w.heap.size, 9, none⟩ = some (.slice g4 n4 c4) := XW.out.cell 9; have x10 : w8.cell? ⟨w.heap.size, 10, none⟩ = some (.slice g5 n5 c5) := XW.out.cell 10; have x11 : w8.cell? ⟨w.heap.size, 11, none⟩ = some (.slice g6 n6 c6) := XW.out.cell 11; have x12 : w8.cell? ⟨w.heap.size, 12, none⟩ = some (.slice g7 n7 c7) := XW.out.cell 12; clear F8 C8)
      | (go_at_call 28; refine (EX _ _ FW.out CW.out).mono ?_; rintro e w21 ⟨rfl, F8, C8⟩; have HE := Hid.mk (And.intro (FW.out.trans F8) C8); clear F8 C8))
    go_end0
    exact ⟨rfl, HE.out.1, HE.out.2⟩
end Go.Proofs.Ytmlegdnenklkhaa
