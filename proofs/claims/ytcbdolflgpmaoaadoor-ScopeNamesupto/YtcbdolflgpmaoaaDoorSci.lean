/- The document's check: an expression without parts. -/
import Derived.Test.YtcbdolflgpmaoaaDoorSch
namespace Go.Proofs.YtcbdolflgpmaoaaDoor
open Go.RowKit
set_option linter.unusedVariables false
set_option linter.unusedSimpArgs false

theorem fr_alloc_row {w : World} {ok : Nat → Prop} {xs : List Value} {n : Nat} {v : Value} {o : Obj} (h : IsRow w ok xs n v) : IsRow (w.alloc o) ok xs n v := h.keeps (keeps_below (Joins.below_alloc1 w o) (fun _ h => h))
/-- nothing is done where something was wrong -/
theorem exp_some {w : World} {b : Nat} {vd vb : Value} {z : Int × Int} (h : Ck w b vd vb (some z)) (x0 x1 x2 x3 x4 x5 x6 x7 : Value) (vi : Value) :
    Calls Tryd.prog 35 #[ptr b, .agg #[x0, x1, x2, x3, x4, x5, x6, x7], vi] w fun e w' => e = done ∧ Fr b w w' ∧ Ck w' b vd vb (some z) := by
  have H1 := h.fr_alloc (.cells #[x0, x1, x2, x3, x4, x5, x6, x7] 45)
  have y2 : (w.alloc (.cells #[x0, x1, x2, x3, x4, x5, x6, x7] 45)).cell? ⟨b, 2, none⟩ = some (.bool true) := H1.cell 2
  have HH : Hid (Ck (w.alloc (.cells #[x0, x1, x2, x3, x4, x5, x6, x7] 45)) b vd vb (some z) ∧ Fr b w (w.alloc (.cells #[x0, x1, x2, x3, x4, x5, x6, x7] 45))) := ⟨H1, (Fr.refl b w).alloc _⟩
  clear H1 h
  go_enter Tryd.func35, Tryd.ntmps35
  go_wp2
  exact bodyPost_ret (results_none rfl _ _ _) rfl ⟨rfl, HH.out.2, HH.out.1⟩
set_option maxHeartbeats 2000000 in
theorem exp_app {w : World} {b : Nat} {vd vb : Value} (h : Ck w b vd vb none) (a m : Int) (n : Nm) (ts : List Atm) (vt v5 v6 v7 : Value) (T : IsRow w (but b) (atmC ts) ts.length vt) (is : List Nm) (vi : Value) (I : IsRow w (but b) (strC is) is.length vi) :
    Calls Tryd.prog 35 #[ptr b, .agg #[.int .i64 1, .int .i64 a, .string (str n), .int .i64 m, vt, v5, v6, v7], vi] w fun e w' => e = done ∧ Fr b w w' ∧ Ck w' b vd vb (if is.contains n = false then some (a, 31) else if 8 < ts.length then some (a, 33) else atmF a (fun x => is.contains x) ts) := by
  have lt := h.lt
  have ne : w.heap.size ≠ b := by omega
  have CW : Hid (Ck (w.alloc (.cells #[.int .i64 1, .int .i64 a, .string (str n), .int .i64 m, vt, v5, v6, v7] 45)) b vd vb none) := ⟨h.fr_alloc _⟩
  have XW : Hid (Bx (w.alloc (.cells #[.int .i64 1, .int .i64 a, .string (str n), .int .i64 m, vt, v5, v6, v7] 45)) w.heap.size #[.int .i64 1, .int .i64 a, .string (str n), .int .i64 m, vt, v5, v6, v7] 45) := ⟨heap_alloc_new w _⟩
  have FW : Hid (Fr b w (w.alloc (.cells #[.int .i64 1, .int .i64 a, .string (str n), .int .i64 m, vt, v5, v6, v7] 45))) := ⟨(Fr.refl b w).alloc _⟩
  have y2 : (w.alloc (.cells #[.int .i64 1, .int .i64 a, .string (str n), .int .i64 m, vt, v5, v6, v7] 45)).cell? ⟨b, 2, none⟩ = some (.bool false) := CW.out.cell 2
  have HAS := has_any (w := w.alloc (.cells #[.int .i64 1, .int .i64 a, .string (str n), .int .i64 m, vt, v5, v6, v7] 45)) is vi (fr_alloc_row I) n
  have AT : ∀ W fk, Fr b w W → Ck W b vd vb fk → Calls Tryd.prog 50 #[ptr b, .agg #[.int .i64 1, .int .i64 a, .string (str n), .int .i64 m, vt, v5, v6, v7], vi] W fun e w' => e = done ∧ Fr b W w' ∧ Ck w' b vd vb (orF fk (atmF a (fun x => is.contains x) ts)) := fun W fk F C =>
    atoms_any C 1 a m (str n) ts vt v5 v6 v7 (T.keeps (keeps_fr F)) is vi (I.keeps (keeps_fr F))
  obtain ⟨ga, cap, rfl, hc, hx⟩ := id T
  obtain ⟨l, hl⟩ : ∃ l, ts.length = l := ⟨_, rfl⟩
  rw [hl] at CW XW FW y2 HAS AT hc ⊢
  generalize hr : atmF a (fun x => is.contains x) ts = r at *
  clear h T I hx hr hl
  by_cases g : 8 < l
  · have g' : (8 : Int) < l := by omega
    cases q : is.contains n
    · rw [q] at HAS
      rw [if_pos rfl]
      go_enter Tryd.func35, Tryd.ntmps35
      go_wp2_with (first
        | (go_at_call 19; refine HAS.mono ?_; rintro e w7 ⟨rfl, rfl⟩)
        | (go_at_call 17; refine (fail_any CW.out a _).mono ?_; rintro e w8 ⟨rfl, F8, C8⟩; replace FW : Hid (Fr b w w8) := ⟨FW.out.trans F8⟩; replace CW := Hid.mk C8; replace XW : Hid (Bx w8 w.heap.size #[.int .i64 1, .int .i64 a, .string (str n), .int .i64 m, .slice ga l cap, v5, v6, v7] 45) := ⟨XW.out.fr F8 ne⟩; have x0 : w8.cell? ⟨w.heap.size, 0, none⟩ = some (.int .i64 1) := XW.out.cell 0; have x1 : w8.cell? ⟨w.heap.size, 1, none⟩ = some (.int .i64 a) := XW.out.cell 1; have x2 : w8.cell? ⟨w.heap.size, 2, none⟩ = some (.string (str n)) := XW.out.cell 2; have x3 : w8.cell? ⟨w.heap.size, 3, none⟩ = some (.int .i64 m) := XW.out.cell 3; have x4 : w8.cell? ⟨w.heap.size, 4, none⟩ = some (.slice ga l cap) := XW.out.cell 4; have x5 : w8.cell? ⟨w.heap.size, 5, none⟩ = some (v5) := XW.out.cell 5; have x6 : w8.cell? ⟨w.heap.size, 6, none⟩ = some (v6) := XW.out.cell 6; have x7 : w8.cell? ⟨w.heap.size, 7, none⟩ = some (v7) := XW.out.cell 7; clear F8 C8)
        | (go_at_call 50; refine (AT _ _ FW.out CW.out).mono ?_; rintro e w10 ⟨rfl, F8, C8⟩; have HE := Hid.mk (And.intro (FW.out.trans F8) C8); clear F8 C8))
      go_end0
      exact ⟨rfl, HE.out.1, HE.out.2⟩
    · rw [q] at HAS
      rw [if_neg (by simp), if_pos g]
      go_enter Tryd.func35, Tryd.ntmps35
      go_wp2_with (first
        | (go_at_call 19; refine HAS.mono ?_; rintro e w7 ⟨rfl, rfl⟩)
        | (go_at_call 17; refine (fail_any CW.out a _).mono ?_; rintro e w8 ⟨rfl, F8, C8⟩; replace FW : Hid (Fr b w w8) := ⟨FW.out.trans F8⟩; replace CW := Hid.mk C8; replace XW : Hid (Bx w8 w.heap.size #[.int .i64 1, .int .i64 a, .string (str n), .int .i64 m, .slice ga l cap, v5, v6, v7] 45) := ⟨XW.out.fr F8 ne⟩; have x0 : w8.cell? ⟨w.heap.size, 0, none⟩ = some (.int .i64 1) := XW.out.cell 0; have x1 : w8.cell? ⟨w.heap.size, 1, none⟩ = some (.int .i64 a) := XW.out.cell 1; have x2 : w8.cell? ⟨w.heap.size, 2, none⟩ = some (.string (str n)) := XW.out.cell 2; have x3 : w8.cell? ⟨w.heap.size, 3, none⟩ = some (.int .i64 m) := XW.out.cell 3; have x4 : w8.cell? ⟨w.heap.size, 4, none⟩ = some (.slice ga l cap) := XW.out.cell 4; have x5 : w8.cell? ⟨w.heap.size, 5, none⟩ = some (v5) := XW.out.cell 5; have x6 : w8.cell? ⟨w.heap.size, 6, none⟩ = some (v6) := XW.out.cell 6; have x7 : w8.cell? ⟨w.heap.size, 7, none⟩ = some (v7) := XW.out.cell 7; clear F8 C8)
        | (go_at_call 50; refine (AT _ _ FW.out CW.out).mono ?_; rintro e w10 ⟨rfl, F8, C8⟩; have HE := Hid.mk (And.intro (FW.out.trans F8) C8); clear F8 C8))
      go_end0
      exact ⟨rfl, HE.out.1, HE.out.2⟩
  · have g' : ¬ (8 : Int) < l := by omega
    cases q : is.contains n
    · rw [q] at HAS
      rw [if_pos rfl]
      go_enter Tryd.func35, Tryd.ntmps35
      go_wp2_with (first
        | (go_at_call 19; refine HAS.mono ?_; rintro e w7 ⟨rfl, rfl⟩)
        | (go_at_call 17; refine (fail_any CW.out a _).mono ?_; rintro e w8 ⟨rfl, F8, C8⟩; replace FW : Hid (Fr b w w8) := ⟨FW.out.trans F8⟩; replace CW := Hid.mk C8; replace XW : Hid (Bx w8 w.heap.size #[.int .i64 1, .int .i64 a, .string (str n), .int .i64 m, .slice ga l cap, v5, v6, v7] 45) := ⟨XW.out.fr F8 ne⟩; have x0 : w8.cell? ⟨w.heap.size, 0, none⟩ = some (.int .i64 1) := XW.out.cell 0; have x1 : w8.cell? ⟨w.heap.size, 1, none⟩ = some (.int .i64 a) := XW.out.cell 1; have x2 : w8.cell? ⟨w.heap.size, 2, none⟩ = some (.string (str n)) := XW.out.cell 2; have x3 : w8.cell? ⟨w.heap.size, 3, none⟩ = some (.int .i64 m) := XW.out.cell 3; have x4 : w8.cell? ⟨w.heap.size, 4, none⟩ = some (.slice ga l cap) := XW.out.cell 4; have x5 : w8.cell? ⟨w.heap.size, 5, none⟩ = some (v5) := XW.out.cell 5; have x6 : w8.cell? ⟨w.heap.size, 6, none⟩ = some (v6) := XW.out.cell 6; have x7 : w8.cell? ⟨w.heap.size, 7, none⟩ = some (v7) := XW.out.cell 7; clear F8 C8)
        | (go_at_call 50; refine (AT _ _ FW.out CW.out).mono ?_; rintro e w10 ⟨rfl, F8, C8⟩; have HE := Hid.mk (And.intro (FW.out.trans F8) C8); clear F8 C8))
      go_end0
      exact ⟨rfl, HE.out.1, HE.out.2⟩
    · rw [q] at HAS
      rw [if_neg (by simp), if_neg g]
      go_enter Tryd.func35, Tryd.ntmps35
      go_wp2_with (first
        | (go_at_call 19; refine HAS.mono ?_; rintro e w7 ⟨rfl, rfl⟩)
        | (go_at_call 17; refine (fail_any CW.out a _).mono ?_; rintro e w8 ⟨rfl, F8, C8⟩; replace FW : Hid (Fr b w w8) := ⟨FW.out.trans F8⟩; replace CW := Hid.mk C8; replace XW : Hid (Bx w8 w.heap.size #[.int .i64 1, .int .i64 a, .string (str n), .int .i64 m, .slice ga l cap, v5, v6, v7] 45) := ⟨XW.out.fr F8 ne⟩; have x0 : w8.cell? ⟨w.heap.size, 0, none⟩ = some (.int .i64 1) := XW.out.cell 0; have x1 : w8.cell? ⟨w.heap.size, 1, none⟩ = some (.int .i64 a) := XW.out.cell 1; have x2 : w8.cell? ⟨w.heap.size, 2, none⟩ = some (.string (str n)) := XW.out.cell 2; have x3 : w8.cell? ⟨w.heap.size, 3, none⟩ = some (.int .i64 m) := XW.out.cell 3; have x4 : w8.cell? ⟨w.heap.size, 4, none⟩ = some (.slice ga l cap) := XW.out.cell 4; have x5 : w8.cell? ⟨w.heap.size, 5, none⟩ = some (v5) := XW.out.cell 5; have x6 : w8.cell? ⟨w.heap.size, 6, none⟩ = some (v6) := XW.out.cell 6; have x7 : w8.cell? ⟨w.heap.size, 7, none⟩ = some (v7) := XW.out.cell 7; clear F8 C8)
        | (go_at_call 50; refine (AT _ _ FW.out CW.out).mono ?_; rintro e w10 ⟨rfl, F8, C8⟩; have HE := Hid.mk (And.intro (FW.out.trans F8) C8); clear F8 C8))
      go_end0
      exact ⟨rfl, HE.out.1, HE.out.2⟩
end Go.Proofs.YtcbdolflgpmaoaaDoor
