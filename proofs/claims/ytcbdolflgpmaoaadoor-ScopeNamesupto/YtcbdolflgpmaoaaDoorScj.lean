/- The document's check: constructors, primitives, numbers, kinds that are none. -/
import Derived.Test.YtcbdolflgpmaoaaDoorSci
namespace Go.Proofs.YtcbdolflgpmaoaaDoor
open Go.RowKit
set_option linter.unusedVariables false
set_option linter.unusedSimpArgs false

theorem Bx.drew {w : World} {m : Nat} {cs : Array Value} {t : TypeId} (h : Bx w m cs t) : Bx w.drew m cs t := h
theorem Bx.later {w w' : World} {m : Nat} {cs : Array Value} {t : TypeId} (h : Bx w m cs t) (hb : Below w.heap.size w w') : Bx w' m cs t := (hb.block m h.lt).trans h
set_option maxHeartbeats 2000000 in
theorem exp_con {w : World} {b : Nat} {vd vb : Value} (h : Ck w b vd vb none) (ds : List D) (R : IsRow w (but b) (datC ds) ds.length vd) (a m : Int) (n : Nm) (ts : List Atm) (vt v5 v6 v7 : Value) (T : IsRow w (but b) (atmC ts) ts.length vt) (is : List Nm) (vi : Value) (I : IsRow w (but b) (strC is) is.length vi) :
    Calls Tryd.prog 35 #[ptr b, .agg #[.int .i64 2, .int .i64 a, .string (str n), .int .i64 m, vt, v5, v6, v7], vi] w fun e w' => e = done ∧ Fr b w w' ∧ Ck w' b vd vb (orF (conF a (arityN ds n) ts.length) (atmF a (fun x => is.contains x) ts)) := by
  have lt := h.lt
  have ne : w.heap.size ≠ b := by omega
  have CW : Hid (Ck (w.alloc (.cells #[.int .i64 2, .int .i64 a, .string (str n), .int .i64 m, vt, v5, v6, v7] 45)) b vd vb none) := ⟨h.fr_alloc _⟩
  have XW : Hid (Bx (w.alloc (.cells #[.int .i64 2, .int .i64 a, .string (str n), .int .i64 m, vt, v5, v6, v7] 45)) w.heap.size #[.int .i64 2, .int .i64 a, .string (str n), .int .i64 m, vt, v5, v6, v7] 45) := ⟨heap_alloc_new w _⟩
  have FW : Hid (Fr b w (w.alloc (.cells #[.int .i64 2, .int .i64 a, .string (str n), .int .i64 m, vt, v5, v6, v7] 45))) := ⟨(Fr.refl b w).alloc _⟩
  have y2 : (w.alloc (.cells #[.int .i64 2, .int .i64 a, .string (str n), .int .i64 m, vt, v5, v6, v7] 45)).cell? ⟨b, 2, none⟩ = some (.bool false) := CW.out.cell 2
  have y0 : (w.alloc (.cells #[.int .i64 2, .int .i64 a, .string (str n), .int .i64 m, vt, v5, v6, v7] 45)).cell? ⟨b, 0, none⟩ = some vd := CW.out.cell 0
  have y1 : (w.alloc (.cells #[.int .i64 2, .int .i64 a, .string (str n), .int .i64 m, vt, v5, v6, v7] 45)).cell? ⟨b, 1, none⟩ = some vb := CW.out.cell 1
  have AR : ∀ W, Below w.heap.size w W → Calls Tryd.prog 13 #[.agg #[vd, vb], .string (str n)] W fun e w' => e = .returned (arV (arityN ds n)) ∧ Below W.heap.size W w' := fun W hW => refArity_any (ok := but b) ds vd vb (R.keeps (keeps_below hW (fun _ h => h))) n
  have BW : Hid (Below w.heap.size w (w.alloc (.cells #[.int .i64 2, .int .i64 a, .string (str n), .int .i64 m, vt, v5, v6, v7] 45))) := ⟨Joins.below_alloc1 w _⟩
  have AT : ∀ W fk, Fr b w W → Ck W b vd vb fk → Calls Tryd.prog 50 #[ptr b, .agg #[.int .i64 2, .int .i64 a, .string (str n), .int .i64 m, vt, v5, v6, v7], vi] W fun e w' => e = done ∧ Fr b W w' ∧ Ck w' b vd vb (orF fk (atmF a (fun x => is.contains x) ts)) := fun W fk F C =>
    atoms_any C 2 a m (str n) ts vt v5 v6 v7 (T.keeps (keeps_fr F)) is vi (I.keeps (keeps_fr F))
  obtain ⟨ga, cap, rfl, hc, hx⟩ := id T
  obtain ⟨l, hl⟩ : ∃ l, ts.length = l := ⟨_, rfl⟩
  rw [hl] at CW XW FW y2 AT hc y0 y1 BW ⊢
  generalize hr : atmF a (fun x => is.contains x) ts = r at *
  clear h T I hx hr hl
  clear R
  generalize arityN ds n = q at *
  cases q with
  | none =>
    simp only [arV] at AR
    rw [conF]
    by_cases g : l = 0
    · have g' : ((l : Int) != 0) = false := by simp [g]
      clear g
      go_enter Tryd.func35, Tryd.ntmps35
      go_wp2
      generalize w.alloc (.cells #[.int .i64 2, .int .i64 a, .string (str n), .int .i64 m, .slice ga l cap, v5, v6, v7] 45) = w1 at *
      have x2 : w1.cell? ⟨w.heap.size, 2, none⟩ = some (.string (str n)) := XW.out.cell 2
      go_region_held3 (fun w' => w'.cell? ⟨b, 0, none⟩ = some vd ∧ w'.cell? ⟨b, 1, none⟩ = some vb ∧ w'.cell? ⟨w.heap.size, 2, none⟩ = some (.string (str n))) (go_keep) (first
        | (go_at_call 13; refine (AR _ BW.out.drew).mono ?_; rintro e w3 ⟨rfl, B8⟩; have z0 := (B8.cell (World.block_lt_of_cell? _ _ y0)).trans y0; have z1 := (B8.cell (World.block_lt_of_cell? _ _ y1)).trans y1; have z2 := (B8.cell (World.block_lt_of_cell? _ _ x2)).trans x2; replace FW := Hid.mk (FW.out.drew.trans (Fr.of_below B8)); replace CW := Hid.mk (CW.out.drew.later B8); replace XW := Hid.mk (XW.out.drew.later B8); have x0 : w3.cell? ⟨w.heap.size, 0, none⟩ = some (.int .i64 2) := XW.out.cell 0; have x1 : w3.cell? ⟨w.heap.size, 1, none⟩ = some (.int .i64 a) := XW.out.cell 1; have x2 : w3.cell? ⟨w.heap.size, 2, none⟩ = some (.string (str n)) := XW.out.cell 2; have x3 : w3.cell? ⟨w.heap.size, 3, none⟩ = some (.int .i64 m) := XW.out.cell 3; have x4 : w3.cell? ⟨w.heap.size, 4, none⟩ = some (.slice ga l cap) := XW.out.cell 4; have x5 : w3.cell? ⟨w.heap.size, 5, none⟩ = some (v5) := XW.out.cell 5; have x6 : w3.cell? ⟨w.heap.size, 6, none⟩ = some (v6) := XW.out.cell 6; have x7 : w3.cell? ⟨w.heap.size, 7, none⟩ = some (v7) := XW.out.cell 7))
      all_goals go_wp2_with (first
        | (go_at_call 17; refine (fail_any CW.out a _).mono ?_; rintro e w8 ⟨rfl, F8, C8⟩; replace FW : Hid (Fr b w w8) := ⟨FW.out.trans F8⟩; replace CW := Hid.mk C8; replace XW : Hid (Bx w8 w.heap.size #[.int .i64 2, .int .i64 a, .string (str n), .int .i64 m, .slice ga l cap, v5, v6, v7] 45) := ⟨XW.out.fr F8 ne⟩; have x0 : w8.cell? ⟨w.heap.size, 0, none⟩ = some (.int .i64 2) := XW.out.cell 0; have x1 : w8.cell? ⟨w.heap.size, 1, none⟩ = some (.int .i64 a) := XW.out.cell 1; have x2 : w8.cell? ⟨w.heap.size, 2, none⟩ = some (.string (str n)) := XW.out.cell 2; have x3 : w8.cell? ⟨w.heap.size, 3, none⟩ = some (.int .i64 m) := XW.out.cell 3; have x4 : w8.cell? ⟨w.heap.size, 4, none⟩ = some (.slice ga l cap) := XW.out.cell 4; have x5 : w8.cell? ⟨w.heap.size, 5, none⟩ = some (v5) := XW.out.cell 5; have x6 : w8.cell? ⟨w.heap.size, 6, none⟩ = some (v6) := XW.out.cell 6; have x7 : w8.cell? ⟨w.heap.size, 7, none⟩ = some (v7) := XW.out.cell 7; clear F8 C8)
        | (go_at_call 50; refine (AT _ _ FW.out CW.out).mono ?_; rintro e w10 ⟨rfl, F8, C8⟩; have HE := Hid.mk (And.intro (FW.out.trans F8) C8); clear F8 C8))
      all_goals go_end0
      all_goals exact ⟨rfl, HE.out.1, HE.out.2⟩
    · have g' : ((l : Int) != 0) = true := by simp [g]
      clear g
      go_enter Tryd.func35, Tryd.ntmps35
      go_wp2
      generalize w.alloc (.cells #[.int .i64 2, .int .i64 a, .string (str n), .int .i64 m, .slice ga l cap, v5, v6, v7] 45) = w1 at *
      have x2 : w1.cell? ⟨w.heap.size, 2, none⟩ = some (.string (str n)) := XW.out.cell 2
      go_region_held3 (fun w' => w'.cell? ⟨b, 0, none⟩ = some vd ∧ w'.cell? ⟨b, 1, none⟩ = some vb ∧ w'.cell? ⟨w.heap.size, 2, none⟩ = some (.string (str n))) (go_keep) (first
        | (go_at_call 13; refine (AR _ BW.out.drew).mono ?_; rintro e w3 ⟨rfl, B8⟩; have z0 := (B8.cell (World.block_lt_of_cell? _ _ y0)).trans y0; have z1 := (B8.cell (World.block_lt_of_cell? _ _ y1)).trans y1; have z2 := (B8.cell (World.block_lt_of_cell? _ _ x2)).trans x2; replace FW := Hid.mk (FW.out.drew.trans (Fr.of_below B8)); replace CW := Hid.mk (CW.out.drew.later B8); replace XW := Hid.mk (XW.out.drew.later B8); have x0 : w3.cell? ⟨w.heap.size, 0, none⟩ = some (.int .i64 2) := XW.out.cell 0; have x1 : w3.cell? ⟨w.heap.size, 1, none⟩ = some (.int .i64 a) := XW.out.cell 1; have x2 : w3.cell? ⟨w.heap.size, 2, none⟩ = some (.string (str n)) := XW.out.cell 2; have x3 : w3.cell? ⟨w.heap.size, 3, none⟩ = some (.int .i64 m) := XW.out.cell 3; have x4 : w3.cell? ⟨w.heap.size, 4, none⟩ = some (.slice ga l cap) := XW.out.cell 4; have x5 : w3.cell? ⟨w.heap.size, 5, none⟩ = some (v5) := XW.out.cell 5; have x6 : w3.cell? ⟨w.heap.size, 6, none⟩ = some (v6) := XW.out.cell 6; have x7 : w3.cell? ⟨w.heap.size, 7, none⟩ = some (v7) := XW.out.cell 7))
      all_goals go_wp2_with (first
        | (go_at_call 17; refine (fail_any CW.out a _).mono ?_; rintro e w8 ⟨rfl, F8, C8⟩; replace FW : Hid (Fr b w w8) := ⟨FW.out.trans F8⟩; replace CW := Hid.mk C8; replace XW : Hid (Bx w8 w.heap.size #[.int .i64 2, .int .i64 a, .string (str n), .int .i64 m, .slice ga l cap, v5, v6, v7] 45) := ⟨XW.out.fr F8 ne⟩; have x0 : w8.cell? ⟨w.heap.size, 0, none⟩ = some (.int .i64 2) := XW.out.cell 0; have x1 : w8.cell? ⟨w.heap.size, 1, none⟩ = some (.int .i64 a) := XW.out.cell 1; have x2 : w8.cell? ⟨w.heap.size, 2, none⟩ = some (.string (str n)) := XW.out.cell 2; have x3 : w8.cell? ⟨w.heap.size, 3, none⟩ = some (.int .i64 m) := XW.out.cell 3; have x4 : w8.cell? ⟨w.heap.size, 4, none⟩ = some (.slice ga l cap) := XW.out.cell 4; have x5 : w8.cell? ⟨w.heap.size, 5, none⟩ = some (v5) := XW.out.cell 5; have x6 : w8.cell? ⟨w.heap.size, 6, none⟩ = some (v6) := XW.out.cell 6; have x7 : w8.cell? ⟨w.heap.size, 7, none⟩ = some (v7) := XW.out.cell 7; clear F8 C8)
        | (go_at_call 50; refine (AT _ _ FW.out CW.out).mono ?_; rintro e w10 ⟨rfl, F8, C8⟩; have HE := Hid.mk (And.intro (FW.out.trans F8) C8); clear F8 C8))
      all_goals go_end0
      all_goals exact ⟨rfl, HE.out.1, HE.out.2⟩
  | some q =>
    simp only [arV] at AR
    rw [conF]
    by_cases g : q = l
    · rw [if_pos g]
      have g' : ((l : Int) != q) = false := by simp [g]
      clear g
      go_enter Tryd.func35, Tryd.ntmps35
      go_wp2
      generalize w.alloc (.cells #[.int .i64 2, .int .i64 a, .string (str n), .int .i64 m, .slice ga l cap, v5, v6, v7] 45) = w1 at *
      have x2 : w1.cell? ⟨w.heap.size, 2, none⟩ = some (.string (str n)) := XW.out.cell 2
      go_region_held3 (fun w' => w'.cell? ⟨b, 0, none⟩ = some vd ∧ w'.cell? ⟨b, 1, none⟩ = some vb ∧ w'.cell? ⟨w.heap.size, 2, none⟩ = some (.string (str n))) (go_keep) (first
        | (go_at_call 13; refine (AR _ BW.out.drew).mono ?_; rintro e w3 ⟨rfl, B8⟩; have z0 := (B8.cell (World.block_lt_of_cell? _ _ y0)).trans y0; have z1 := (B8.cell (World.block_lt_of_cell? _ _ y1)).trans y1; have z2 := (B8.cell (World.block_lt_of_cell? _ _ x2)).trans x2; replace FW := Hid.mk (FW.out.drew.trans (Fr.of_below B8)); replace CW := Hid.mk (CW.out.drew.later B8); replace XW := Hid.mk (XW.out.drew.later B8); have x0 : w3.cell? ⟨w.heap.size, 0, none⟩ = some (.int .i64 2) := XW.out.cell 0; have x1 : w3.cell? ⟨w.heap.size, 1, none⟩ = some (.int .i64 a) := XW.out.cell 1; have x2 : w3.cell? ⟨w.heap.size, 2, none⟩ = some (.string (str n)) := XW.out.cell 2; have x3 : w3.cell? ⟨w.heap.size, 3, none⟩ = some (.int .i64 m) := XW.out.cell 3; have x4 : w3.cell? ⟨w.heap.size, 4, none⟩ = some (.slice ga l cap) := XW.out.cell 4; have x5 : w3.cell? ⟨w.heap.size, 5, none⟩ = some (v5) := XW.out.cell 5; have x6 : w3.cell? ⟨w.heap.size, 6, none⟩ = some (v6) := XW.out.cell 6; have x7 : w3.cell? ⟨w.heap.size, 7, none⟩ = some (v7) := XW.out.cell 7))
      all_goals go_wp2_with (first
        | (go_at_call 17; refine (fail_any CW.out a _).mono ?_; rintro e w8 ⟨rfl, F8, C8⟩; replace FW : Hid (Fr b w w8) := ⟨FW.out.trans F8⟩; replace CW := Hid.mk C8; replace XW : Hid (Bx w8 w.heap.size #[.int .i64 2, .int .i64 a, .string (str n), .int .i64 m, .slice ga l cap, v5, v6, v7] 45) := ⟨XW.out.fr F8 ne⟩; have x0 : w8.cell? ⟨w.heap.size, 0, none⟩ = some (.int .i64 2) := XW.out.cell 0; have x1 : w8.cell? ⟨w.heap.size, 1, none⟩ = some (.int .i64 a) := XW.out.cell 1; have x2 : w8.cell? ⟨w.heap.size, 2, none⟩ = some (.string (str n)) := XW.out.cell 2; have x3 : w8.cell? ⟨w.heap.size, 3, none⟩ = some (.int .i64 m) := XW.out.cell 3; have x4 : w8.cell? ⟨w.heap.size, 4, none⟩ = some (.slice ga l cap) := XW.out.cell 4; have x5 : w8.cell? ⟨w.heap.size, 5, none⟩ = some (v5) := XW.out.cell 5; have x6 : w8.cell? ⟨w.heap.size, 6, none⟩ = some (v6) := XW.out.cell 6; have x7 : w8.cell? ⟨w.heap.size, 7, none⟩ = some (v7) := XW.out.cell 7; clear F8 C8)
        | (go_at_call 50; refine (AT _ _ FW.out CW.out).mono ?_; rintro e w10 ⟨rfl, F8, C8⟩; have HE := Hid.mk (And.intro (FW.out.trans F8) C8); clear F8 C8))
      all_goals go_end0
      all_goals exact ⟨rfl, HE.out.1, HE.out.2⟩
    · rw [if_neg g]
      have g' : ((l : Int) != q) = true := by simp; omega
      clear g
      go_enter Tryd.func35, Tryd.ntmps35
      go_wp2
      generalize w.alloc (.cells #[.int .i64 2, .int .i64 a, .string (str n), .int .i64 m, .slice ga l cap, v5, v6, v7] 45) = w1 at *
      have x2 : w1.cell? ⟨w.heap.size, 2, none⟩ = some (.string (str n)) := XW.out.cell 2
      go_region_held3 (fun w' => w'.cell? ⟨b, 0, none⟩ = some vd ∧ w'.cell? ⟨b, 1, none⟩ = some vb ∧ w'.cell? ⟨w.heap.size, 2, none⟩ = some (.string (str n))) (go_keep) (first
        | (go_at_call 13; refine (AR _ BW.out.drew).mono ?_; rintro e w3 ⟨rfl, B8⟩; have z0 := (B8.cell (World.block_lt_of_cell? _ _ y0)).trans y0; have z1 := (B8.cell (World.block_lt_of_cell? _ _ y1)).trans y1; have z2 := (B8.cell (World.block_lt_of_cell? _ _ x2)).trans x2; replace FW := Hid.mk (FW.out.drew.trans (Fr.of_below B8)); replace CW := Hid.mk (CW.out.drew.later B8); replace XW := Hid.mk (XW.out.drew.later B8); have x0 : w3.cell? ⟨w.heap.size, 0, none⟩ = some (.int .i64 2) := XW.out.cell 0; have x1 : w3.cell? ⟨w.heap.size, 1, none⟩ = some (.int .i64 a) := XW.out.cell 1; have x2 : w3.cell? ⟨w.heap.size, 2, none⟩ = some (.string (str n)) := XW.out.cell 2; have x3 : w3.cell? ⟨w.heap.size, 3, none⟩ = some (.int .i64 m) := XW.out.cell 3; have x4 : w3.cell? ⟨w.heap.size, 4, none⟩ = some (.slice ga l cap) := XW.out.cell 4; have x5 : w3.cell? ⟨w.heap.size, 5, none⟩ = some (v5) := XW.out.cell 5; have x6 : w3.cell? ⟨w.heap.size, 6, none⟩ = some (v6) := XW.out.cell 6; have x7 : w3.cell? ⟨w.heap.size, 7, none⟩ = some (v7) := XW.out.cell 7))
      all_goals go_wp2_with (first
        | (go_at_call 17; refine (fail_any CW.out a _).mono ?_; rintro e w8 ⟨rfl, F8, C8⟩; replace FW : Hid (Fr b w w8) := ⟨FW.out.trans F8⟩; replace CW := Hid.mk C8; replace XW : Hid (Bx w8 w.heap.size #[.int .i64 2, .int .i64 a, .string (str n), .int .i64 m, .slice ga l cap, v5, v6, v7] 45) := ⟨XW.out.fr F8 ne⟩; have x0 : w8.cell? ⟨w.heap.size, 0, none⟩ = some (.int .i64 2) := XW.out.cell 0; have x1 : w8.cell? ⟨w.heap.size, 1, none⟩ = some (.int .i64 a) := XW.out.cell 1; have x2 : w8.cell? ⟨w.heap.size, 2, none⟩ = some (.string (str n)) := XW.out.cell 2; have x3 : w8.cell? ⟨w.heap.size, 3, none⟩ = some (.int .i64 m) := XW.out.cell 3; have x4 : w8.cell? ⟨w.heap.size, 4, none⟩ = some (.slice ga l cap) := XW.out.cell 4; have x5 : w8.cell? ⟨w.heap.size, 5, none⟩ = some (v5) := XW.out.cell 5; have x6 : w8.cell? ⟨w.heap.size, 6, none⟩ = some (v6) := XW.out.cell 6; have x7 : w8.cell? ⟨w.heap.size, 7, none⟩ = some (v7) := XW.out.cell 7; clear F8 C8)
        | (go_at_call 50; refine (AT _ _ FW.out CW.out).mono ?_; rintro e w10 ⟨rfl, F8, C8⟩; have HE := Hid.mk (And.intro (FW.out.trans F8) C8); clear F8 C8))
      all_goals go_end0
      all_goals exact ⟨rfl, HE.out.1, HE.out.2⟩
set_option maxHeartbeats 2000000 in
theorem exp_prim {w : World} {b : Nat} {vd vb : Value} (h : Ck w b vd vb none) (a m : Int) (n : Nm) (ts : List Atm) (vt v5 v6 v7 : Value) (T : IsRow w (but b) (atmC ts) ts.length vt) (is : List Nm) (vi : Value) (I : IsRow w (but b) (strC is) is.length vi) :
    Calls Tryd.prog 35 #[ptr b, .agg #[.int .i64 3, .int .i64 a, .string (str n), .int .i64 m, vt, v5, v6, v7], vi] w fun e w' => e = done ∧ Fr b w w' ∧ Ck w' b vd vb (if prN n = 0 then some (a, 34) else if tA (prN n) ≠ ts.length then some (a, 33) else atmF a (fun x => is.contains x) ts) := by
  have lt := h.lt
  have ne : w.heap.size ≠ b := by omega
  have CW : Hid (Ck (w.alloc (.cells #[.int .i64 3, .int .i64 a, .string (str n), .int .i64 m, vt, v5, v6, v7] 45)) b vd vb none) := ⟨h.fr_alloc _⟩
  have XW : Hid (Bx (w.alloc (.cells #[.int .i64 3, .int .i64 a, .string (str n), .int .i64 m, vt, v5, v6, v7] 45)) w.heap.size #[.int .i64 3, .int .i64 a, .string (str n), .int .i64 m, vt, v5, v6, v7] 45) := ⟨heap_alloc_new w _⟩
  have FW : Hid (Fr b w (w.alloc (.cells #[.int .i64 3, .int .i64 a, .string (str n), .int .i64 m, vt, v5, v6, v7] 45))) := ⟨(Fr.refl b w).alloc _⟩
  have y2 : (w.alloc (.cells #[.int .i64 3, .int .i64 a, .string (str n), .int .i64 m, vt, v5, v6, v7] 45)).cell? ⟨b, 2, none⟩ = some (.bool false) := CW.out.cell 2
  have PF := fun W => prFind_any n W
  have PA := fun W => prArity_any n W
  have AT : ∀ W fk, Fr b w W → Ck W b vd vb fk → Calls Tryd.prog 50 #[ptr b, .agg #[.int .i64 3, .int .i64 a, .string (str n), .int .i64 m, vt, v5, v6, v7], vi] W fun e w' => e = done ∧ Fr b W w' ∧ Ck w' b vd vb (orF fk (atmF a (fun x => is.contains x) ts)) := fun W fk F C =>
    atoms_any C 3 a m (str n) ts vt v5 v6 v7 (T.keeps (keeps_fr F)) is vi (I.keeps (keeps_fr F))
  obtain ⟨ga, cap, rfl, hc, hx⟩ := id T
  obtain ⟨l, hl⟩ : ∃ l, ts.length = l := ⟨_, rfl⟩
  rw [hl] at CW XW FW y2 AT hc ⊢
  generalize hr : atmF a (fun x => is.contains x) ts = r at *
  clear h T I hx hr hl
  generalize prN n = pn at *
  generalize tA pn = q at *
  by_cases z : pn = 0
  · rw [if_pos z]
    have z' : ((pn : Int) == 0) = true := by simp [z]
    clear z
    by_cases g : q = l
    · have g' : ((l : Int) != q) = false := by simp [g]
      clear g
      go_enter Tryd.func35, Tryd.ntmps35
      go_wp2_with (first
        | (go_at_call 51; refine (PF _).mono ?_; rintro e w3 ⟨rfl, rfl⟩)
        | (go_at_call 17; refine (fail_any CW.out a _).mono ?_; rintro e w8 ⟨rfl, F8, C8⟩; replace FW : Hid (Fr b w w8) := ⟨FW.out.trans F8⟩; replace CW := Hid.mk C8; replace XW : Hid (Bx w8 w.heap.size #[.int .i64 3, .int .i64 a, .string (str n), .int .i64 m, .slice ga l cap, v5, v6, v7] 45) := ⟨XW.out.fr F8 ne⟩; have x0 : w8.cell? ⟨w.heap.size, 0, none⟩ = some (.int .i64 3) := XW.out.cell 0; have x1 : w8.cell? ⟨w.heap.size, 1, none⟩ = some (.int .i64 a) := XW.out.cell 1; have x2 : w8.cell? ⟨w.heap.size, 2, none⟩ = some (.string (str n)) := XW.out.cell 2; have x3 : w8.cell? ⟨w.heap.size, 3, none⟩ = some (.int .i64 m) := XW.out.cell 3; have x4 : w8.cell? ⟨w.heap.size, 4, none⟩ = some (.slice ga l cap) := XW.out.cell 4; have x5 : w8.cell? ⟨w.heap.size, 5, none⟩ = some (v5) := XW.out.cell 5; have x6 : w8.cell? ⟨w.heap.size, 6, none⟩ = some (v6) := XW.out.cell 6; have x7 : w8.cell? ⟨w.heap.size, 7, none⟩ = some (v7) := XW.out.cell 7; clear F8 C8))
      go_region_held3 (fun w' => w'.cell? ⟨w.heap.size, 4, none⟩ = some (.slice ga l cap)) (go_keep) (first
        | (go_at_call 52; refine (PA _).mono ?_; rintro e w4 ⟨rfl, rfl⟩; replace FW : Hid (Fr b w w8.drew) := Hid.mk FW.out.drew; replace CW := Hid.mk CW.out.drew; replace XW := Hid.mk XW.out.drew; have x0 : w8.drew.cell? ⟨w.heap.size, 0, none⟩ = some (.int .i64 3) := XW.out.cell 0; have x1 : w8.drew.cell? ⟨w.heap.size, 1, none⟩ = some (.int .i64 a) := XW.out.cell 1; have x2 : w8.drew.cell? ⟨w.heap.size, 2, none⟩ = some (.string (str n)) := XW.out.cell 2; have x3 : w8.drew.cell? ⟨w.heap.size, 3, none⟩ = some (.int .i64 m) := XW.out.cell 3; have x4 : w8.drew.cell? ⟨w.heap.size, 4, none⟩ = some (.slice ga l cap) := XW.out.cell 4; have x5 : w8.drew.cell? ⟨w.heap.size, 5, none⟩ = some (v5) := XW.out.cell 5; have x6 : w8.drew.cell? ⟨w.heap.size, 6, none⟩ = some (v6) := XW.out.cell 6; have x7 : w8.drew.cell? ⟨w.heap.size, 7, none⟩ = some (v7) := XW.out.cell 7))
      all_goals go_wp2_with (first
        | (go_at_call 17; refine (fail_any CW.out a _).mono ?_; rintro e w8 ⟨rfl, F8, C8⟩; replace FW : Hid (Fr b w w8) := ⟨FW.out.trans F8⟩; replace CW := Hid.mk C8; replace XW : Hid (Bx w8 w.heap.size #[.int .i64 3, .int .i64 a, .string (str n), .int .i64 m, .slice ga l cap, v5, v6, v7] 45) := ⟨XW.out.fr F8 ne⟩; have x0 : w8.cell? ⟨w.heap.size, 0, none⟩ = some (.int .i64 3) := XW.out.cell 0; have x1 : w8.cell? ⟨w.heap.size, 1, none⟩ = some (.int .i64 a) := XW.out.cell 1; have x2 : w8.cell? ⟨w.heap.size, 2, none⟩ = some (.string (str n)) := XW.out.cell 2; have x3 : w8.cell? ⟨w.heap.size, 3, none⟩ = some (.int .i64 m) := XW.out.cell 3; have x4 : w8.cell? ⟨w.heap.size, 4, none⟩ = some (.slice ga l cap) := XW.out.cell 4; have x5 : w8.cell? ⟨w.heap.size, 5, none⟩ = some (v5) := XW.out.cell 5; have x6 : w8.cell? ⟨w.heap.size, 6, none⟩ = some (v6) := XW.out.cell 6; have x7 : w8.cell? ⟨w.heap.size, 7, none⟩ = some (v7) := XW.out.cell 7; clear F8 C8)
        | (go_at_call 50; refine (AT _ _ FW.out CW.out).mono ?_; rintro e w10 ⟨rfl, F8, C8⟩; have HE := Hid.mk (And.intro (FW.out.trans F8) C8); clear F8 C8))
      all_goals go_end0
      all_goals exact ⟨rfl, HE.out.1, HE.out.2⟩
    · have g' : ((l : Int) != q) = true := by simp; omega
      clear g
      go_enter Tryd.func35, Tryd.ntmps35
      go_wp2_with (first
        | (go_at_call 51; refine (PF _).mono ?_; rintro e w3 ⟨rfl, rfl⟩)
        | (go_at_call 17; refine (fail_any CW.out a _).mono ?_; rintro e w8 ⟨rfl, F8, C8⟩; replace FW : Hid (Fr b w w8) := ⟨FW.out.trans F8⟩; replace CW := Hid.mk C8; replace XW : Hid (Bx w8 w.heap.size #[.int .i64 3, .int .i64 a, .string (str n), .int .i64 m, .slice ga l cap, v5, v6, v7] 45) := ⟨XW.out.fr F8 ne⟩; have x0 : w8.cell? ⟨w.heap.size, 0, none⟩ = some (.int .i64 3) := XW.out.cell 0; have x1 : w8.cell? ⟨w.heap.size, 1, none⟩ = some (.int .i64 a) := XW.out.cell 1; have x2 : w8.cell? ⟨w.heap.size, 2, none⟩ = some (.string (str n)) := XW.out.cell 2; have x3 : w8.cell? ⟨w.heap.size, 3, none⟩ = some (.int .i64 m) := XW.out.cell 3; have x4 : w8.cell? ⟨w.heap.size, 4, none⟩ = some (.slice ga l cap) := XW.out.cell 4; have x5 : w8.cell? ⟨w.heap.size, 5, none⟩ = some (v5) := XW.out.cell 5; have x6 : w8.cell? ⟨w.heap.size, 6, none⟩ = some (v6) := XW.out.cell 6; have x7 : w8.cell? ⟨w.heap.size, 7, none⟩ = some (v7) := XW.out.cell 7; clear F8 C8))
      go_region_held3 (fun w' => w'.cell? ⟨w.heap.size, 4, none⟩ = some (.slice ga l cap)) (go_keep) (first
        | (go_at_call 52; refine (PA _).mono ?_; rintro e w4 ⟨rfl, rfl⟩; replace FW : Hid (Fr b w w8.drew) := Hid.mk FW.out.drew; replace CW := Hid.mk CW.out.drew; replace XW := Hid.mk XW.out.drew; have x0 : w8.drew.cell? ⟨w.heap.size, 0, none⟩ = some (.int .i64 3) := XW.out.cell 0; have x1 : w8.drew.cell? ⟨w.heap.size, 1, none⟩ = some (.int .i64 a) := XW.out.cell 1; have x2 : w8.drew.cell? ⟨w.heap.size, 2, none⟩ = some (.string (str n)) := XW.out.cell 2; have x3 : w8.drew.cell? ⟨w.heap.size, 3, none⟩ = some (.int .i64 m) := XW.out.cell 3; have x4 : w8.drew.cell? ⟨w.heap.size, 4, none⟩ = some (.slice ga l cap) := XW.out.cell 4; have x5 : w8.drew.cell? ⟨w.heap.size, 5, none⟩ = some (v5) := XW.out.cell 5; have x6 : w8.drew.cell? ⟨w.heap.size, 6, none⟩ = some (v6) := XW.out.cell 6; have x7 : w8.drew.cell? ⟨w.heap.size, 7, none⟩ = some (v7) := XW.out.cell 7))
      all_goals go_wp2_with (first
        | (go_at_call 17; refine (fail_any CW.out a _).mono ?_; rintro e w8 ⟨rfl, F8, C8⟩; replace FW : Hid (Fr b w w8) := ⟨FW.out.trans F8⟩; replace CW := Hid.mk C8; replace XW : Hid (Bx w8 w.heap.size #[.int .i64 3, .int .i64 a, .string (str n), .int .i64 m, .slice ga l cap, v5, v6, v7] 45) := ⟨XW.out.fr F8 ne⟩; have x0 : w8.cell? ⟨w.heap.size, 0, none⟩ = some (.int .i64 3) := XW.out.cell 0; have x1 : w8.cell? ⟨w.heap.size, 1, none⟩ = some (.int .i64 a) := XW.out.cell 1; have x2 : w8.cell? ⟨w.heap.size, 2, none⟩ = some (.string (str n)) := XW.out.cell 2; have x3 : w8.cell? ⟨w.heap.size, 3, none⟩ = some (.int .i64 m) := XW.out.cell 3; have x4 : w8.cell? ⟨w.heap.size, 4, none⟩ = some (.slice ga l cap) := XW.out.cell 4; have x5 : w8.cell? ⟨w.heap.size, 5, none⟩ = some (v5) := XW.out.cell 5; have x6 : w8.cell? ⟨w.heap.size, 6, none⟩ = some (v6) := XW.out.cell 6; have x7 : w8.cell? ⟨w.heap.size, 7, none⟩ = some (v7) := XW.out.cell 7; clear F8 C8)
        | (go_at_call 50; refine (AT _ _ FW.out CW.out).mono ?_; rintro e w10 ⟨rfl, F8, C8⟩; have HE := Hid.mk (And.intro (FW.out.trans F8) C8); clear F8 C8))
      all_goals go_end0
      all_goals exact ⟨rfl, HE.out.1, HE.out.2⟩
  · rw [if_neg z]
    have z' : ((pn : Int) == 0) = false := by simp; omega
    clear z
    by_cases g : q = l
    · rw [if_neg (fun x => x g)]
      have g' : ((l : Int) != q) = false := by simp [g]
      clear g
      go_enter Tryd.func35, Tryd.ntmps35
      go_wp2_with (first
        | (go_at_call 51; refine (PF _).mono ?_; rintro e w3 ⟨rfl, rfl⟩)
        | (go_at_call 17; refine (fail_any CW.out a _).mono ?_; rintro e w8 ⟨rfl, F8, C8⟩; replace FW : Hid (Fr b w w8) := ⟨FW.out.trans F8⟩; replace CW := Hid.mk C8; replace XW : Hid (Bx w8 w.heap.size #[.int .i64 3, .int .i64 a, .string (str n), .int .i64 m, .slice ga l cap, v5, v6, v7] 45) := ⟨XW.out.fr F8 ne⟩; have x0 : w8.cell? ⟨w.heap.size, 0, none⟩ = some (.int .i64 3) := XW.out.cell 0; have x1 : w8.cell? ⟨w.heap.size, 1, none⟩ = some (.int .i64 a) := XW.out.cell 1; have x2 : w8.cell? ⟨w.heap.size, 2, none⟩ = some (.string (str n)) := XW.out.cell 2; have x3 : w8.cell? ⟨w.heap.size, 3, none⟩ = some (.int .i64 m) := XW.out.cell 3; have x4 : w8.cell? ⟨w.heap.size, 4, none⟩ = some (.slice ga l cap) := XW.out.cell 4; have x5 : w8.cell? ⟨w.heap.size, 5, none⟩ = some (v5) := XW.out.cell 5; have x6 : w8.cell? ⟨w.heap.size, 6, none⟩ = some (v6) := XW.out.cell 6; have x7 : w8.cell? ⟨w.heap.size, 7, none⟩ = some (v7) := XW.out.cell 7; clear F8 C8))
      generalize w.alloc (.cells #[.int .i64 3, .int .i64 a, .string (str n), .int .i64 m, .slice ga l cap, v5, v6, v7] 45) = w1 at *
      have x4 : w1.cell? ⟨w.heap.size, 4, none⟩ = some (.slice ga l cap) := XW.out.cell 4
      go_region_held3 (fun w' => w'.cell? ⟨w.heap.size, 4, none⟩ = some (.slice ga l cap)) (go_keep) (first
        | (go_at_call 52; refine (PA _).mono ?_; rintro e w4 ⟨rfl, rfl⟩; replace FW : Hid (Fr b w w1.drew) := Hid.mk FW.out.drew; replace CW := Hid.mk CW.out.drew; replace XW := Hid.mk XW.out.drew; have x0 : w1.drew.cell? ⟨w.heap.size, 0, none⟩ = some (.int .i64 3) := XW.out.cell 0; have x1 : w1.drew.cell? ⟨w.heap.size, 1, none⟩ = some (.int .i64 a) := XW.out.cell 1; have x2 : w1.drew.cell? ⟨w.heap.size, 2, none⟩ = some (.string (str n)) := XW.out.cell 2; have x3 : w1.drew.cell? ⟨w.heap.size, 3, none⟩ = some (.int .i64 m) := XW.out.cell 3; have x4 : w1.drew.cell? ⟨w.heap.size, 4, none⟩ = some (.slice ga l cap) := XW.out.cell 4; have x5 : w1.drew.cell? ⟨w.heap.size, 5, none⟩ = some (v5) := XW.out.cell 5; have x6 : w1.drew.cell? ⟨w.heap.size, 6, none⟩ = some (v6) := XW.out.cell 6; have x7 : w1.drew.cell? ⟨w.heap.size, 7, none⟩ = some (v7) := XW.out.cell 7))
      all_goals go_wp2_with (first
        | (go_at_call 17; refine (fail_any CW.out a _).mono ?_; rintro e w8 ⟨rfl, F8, C8⟩; replace FW : Hid (Fr b w w8) := ⟨FW.out.trans F8⟩; replace CW := Hid.mk C8; replace XW : Hid (Bx w8 w.heap.size #[.int .i64 3, .int .i64 a, .string (str n), .int .i64 m, .slice ga l cap, v5, v6, v7] 45) := ⟨XW.out.fr F8 ne⟩; have x0 : w8.cell? ⟨w.heap.size, 0, none⟩ = some (.int .i64 3) := XW.out.cell 0; have x1 : w8.cell? ⟨w.heap.size, 1, none⟩ = some (.int .i64 a) := XW.out.cell 1; have x2 : w8.cell? ⟨w.heap.size, 2, none⟩ = some (.string (str n)) := XW.out.cell 2; have x3 : w8.cell? ⟨w.heap.size, 3, none⟩ = some (.int .i64 m) := XW.out.cell 3; have x4 : w8.cell? ⟨w.heap.size, 4, none⟩ = some (.slice ga l cap) := XW.out.cell 4; have x5 : w8.cell? ⟨w.heap.size, 5, none⟩ = some (v5) := XW.out.cell 5; have x6 : w8.cell? ⟨w.heap.size, 6, none⟩ = some (v6) := XW.out.cell 6; have x7 : w8.cell? ⟨w.heap.size, 7, none⟩ = some (v7) := XW.out.cell 7; clear F8 C8)
        | (go_at_call 50; refine (AT _ _ FW.out CW.out).mono ?_; rintro e w10 ⟨rfl, F8, C8⟩; have HE := Hid.mk (And.intro (FW.out.trans F8) C8); clear F8 C8))
      all_goals go_end0
      all_goals exact ⟨rfl, HE.out.1, HE.out.2⟩
    · rw [if_pos g]
      have g' : ((l : Int) != q) = true := by simp; omega
      clear g
      go_enter Tryd.func35, Tryd.ntmps35
      go_wp2_with (first
        | (go_at_call 51; refine (PF _).mono ?_; rintro e w3 ⟨rfl, rfl⟩)
        | (go_at_call 17; refine (fail_any CW.out a _).mono ?_; rintro e w8 ⟨rfl, F8, C8⟩; replace FW : Hid (Fr b w w8) := ⟨FW.out.trans F8⟩; replace CW := Hid.mk C8; replace XW : Hid (Bx w8 w.heap.size #[.int .i64 3, .int .i64 a, .string (str n), .int .i64 m, .slice ga l cap, v5, v6, v7] 45) := ⟨XW.out.fr F8 ne⟩; have x0 : w8.cell? ⟨w.heap.size, 0, none⟩ = some (.int .i64 3) := XW.out.cell 0; have x1 : w8.cell? ⟨w.heap.size, 1, none⟩ = some (.int .i64 a) := XW.out.cell 1; have x2 : w8.cell? ⟨w.heap.size, 2, none⟩ = some (.string (str n)) := XW.out.cell 2; have x3 : w8.cell? ⟨w.heap.size, 3, none⟩ = some (.int .i64 m) := XW.out.cell 3; have x4 : w8.cell? ⟨w.heap.size, 4, none⟩ = some (.slice ga l cap) := XW.out.cell 4; have x5 : w8.cell? ⟨w.heap.size, 5, none⟩ = some (v5) := XW.out.cell 5; have x6 : w8.cell? ⟨w.heap.size, 6, none⟩ = some (v6) := XW.out.cell 6; have x7 : w8.cell? ⟨w.heap.size, 7, none⟩ = some (v7) := XW.out.cell 7; clear F8 C8))
      generalize w.alloc (.cells #[.int .i64 3, .int .i64 a, .string (str n), .int .i64 m, .slice ga l cap, v5, v6, v7] 45) = w1 at *
      have x4 : w1.cell? ⟨w.heap.size, 4, none⟩ = some (.slice ga l cap) := XW.out.cell 4
      go_region_held3 (fun w' => w'.cell? ⟨w.heap.size, 4, none⟩ = some (.slice ga l cap)) (go_keep) (first
        | (go_at_call 52; refine (PA _).mono ?_; rintro e w4 ⟨rfl, rfl⟩; replace FW : Hid (Fr b w w1.drew) := Hid.mk FW.out.drew; replace CW := Hid.mk CW.out.drew; replace XW := Hid.mk XW.out.drew; have x0 : w1.drew.cell? ⟨w.heap.size, 0, none⟩ = some (.int .i64 3) := XW.out.cell 0; have x1 : w1.drew.cell? ⟨w.heap.size, 1, none⟩ = some (.int .i64 a) := XW.out.cell 1; have x2 : w1.drew.cell? ⟨w.heap.size, 2, none⟩ = some (.string (str n)) := XW.out.cell 2; have x3 : w1.drew.cell? ⟨w.heap.size, 3, none⟩ = some (.int .i64 m) := XW.out.cell 3; have x4 : w1.drew.cell? ⟨w.heap.size, 4, none⟩ = some (.slice ga l cap) := XW.out.cell 4; have x5 : w1.drew.cell? ⟨w.heap.size, 5, none⟩ = some (v5) := XW.out.cell 5; have x6 : w1.drew.cell? ⟨w.heap.size, 6, none⟩ = some (v6) := XW.out.cell 6; have x7 : w1.drew.cell? ⟨w.heap.size, 7, none⟩ = some (v7) := XW.out.cell 7))
      all_goals go_wp2_with (first
        | (go_at_call 17; refine (fail_any CW.out a _).mono ?_; rintro e w8 ⟨rfl, F8, C8⟩; replace FW : Hid (Fr b w w8) := ⟨FW.out.trans F8⟩; replace CW := Hid.mk C8; replace XW : Hid (Bx w8 w.heap.size #[.int .i64 3, .int .i64 a, .string (str n), .int .i64 m, .slice ga l cap, v5, v6, v7] 45) := ⟨XW.out.fr F8 ne⟩; have x0 : w8.cell? ⟨w.heap.size, 0, none⟩ = some (.int .i64 3) := XW.out.cell 0; have x1 : w8.cell? ⟨w.heap.size, 1, none⟩ = some (.int .i64 a) := XW.out.cell 1; have x2 : w8.cell? ⟨w.heap.size, 2, none⟩ = some (.string (str n)) := XW.out.cell 2; have x3 : w8.cell? ⟨w.heap.size, 3, none⟩ = some (.int .i64 m) := XW.out.cell 3; have x4 : w8.cell? ⟨w.heap.size, 4, none⟩ = some (.slice ga l cap) := XW.out.cell 4; have x5 : w8.cell? ⟨w.heap.size, 5, none⟩ = some (v5) := XW.out.cell 5; have x6 : w8.cell? ⟨w.heap.size, 6, none⟩ = some (v6) := XW.out.cell 6; have x7 : w8.cell? ⟨w.heap.size, 7, none⟩ = some (v7) := XW.out.cell 7; clear F8 C8)
        | (go_at_call 50; refine (AT _ _ FW.out CW.out).mono ?_; rintro e w10 ⟨rfl, F8, C8⟩; have HE := Hid.mk (And.intro (FW.out.trans F8) C8); clear F8 C8))
      all_goals go_end0
      all_goals exact ⟨rfl, HE.out.1, HE.out.2⟩
set_option maxHeartbeats 2000000 in
theorem exp_int {w : World} {b : Nat} {vd vb : Value} (h : Ck w b vd vb none) (a m : Int) (n : Nm) (ts : List Atm) (vt v5 v6 v7 : Value) (T : IsRow w (but b) (atmC ts) ts.length vt) (is : List Nm) (vi : Value) (I : IsRow w (but b) (strC is) is.length vi) :
    Calls Tryd.prog 35 #[ptr b, .agg #[.int .i64 4, .int .i64 a, .string (str n), .int .i64 m, vt, v5, v6, v7], vi] w fun e w' => e = done ∧ Fr b w w' ∧ Ck w' b vd vb (none) := by
  have lt := h.lt
  have ne : w.heap.size ≠ b := by omega
  have CW : Hid (Ck (w.alloc (.cells #[.int .i64 4, .int .i64 a, .string (str n), .int .i64 m, vt, v5, v6, v7] 45)) b vd vb none) := ⟨h.fr_alloc _⟩
  have XW : Hid (Bx (w.alloc (.cells #[.int .i64 4, .int .i64 a, .string (str n), .int .i64 m, vt, v5, v6, v7] 45)) w.heap.size #[.int .i64 4, .int .i64 a, .string (str n), .int .i64 m, vt, v5, v6, v7] 45) := ⟨heap_alloc_new w _⟩
  have FW : Hid (Fr b w (w.alloc (.cells #[.int .i64 4, .int .i64 a, .string (str n), .int .i64 m, vt, v5, v6, v7] 45))) := ⟨(Fr.refl b w).alloc _⟩
  have y2 : (w.alloc (.cells #[.int .i64 4, .int .i64 a, .string (str n), .int .i64 m, vt, v5, v6, v7] 45)).cell? ⟨b, 2, none⟩ = some (.bool false) := CW.out.cell 2
  have HE := Hid.mk (And.intro FW.out CW.out)
  clear h T I
  go_enter Tryd.func35, Tryd.ntmps35
  go_wp2
  go_end0
  exact ⟨rfl, HE.out.1, HE.out.2⟩
set_option maxHeartbeats 2000000 in
theorem exp_none {w : World} {b : Nat} {vd vb : Value} (h : Ck w b vd vb none) (k : Int) (hk : ¬ (k = 1 ∨ k = 2 ∨ k = 3 ∨ k = 4 ∨ k = 5 ∨ k = 6)) (a m : Int) (n : Nm) (ts : List Atm) (vt v5 v6 v7 : Value) (T : IsRow w (but b) (atmC ts) ts.length vt) (is : List Nm) (vi : Value) (I : IsRow w (but b) (strC is) is.length vi) :
    Calls Tryd.prog 35 #[ptr b, .agg #[.int .i64 k, .int .i64 a, .string (str n), .int .i64 m, vt, v5, v6, v7], vi] w fun e w' => e = done ∧ Fr b w w' ∧ Ck w' b vd vb (some (a, 2)) := by
  have lt := h.lt
  have ne : w.heap.size ≠ b := by omega
  have CW : Hid (Ck (w.alloc (.cells #[.int .i64 k, .int .i64 a, .string (str n), .int .i64 m, vt, v5, v6, v7] 45)) b vd vb none) := ⟨h.fr_alloc _⟩
  have XW : Hid (Bx (w.alloc (.cells #[.int .i64 k, .int .i64 a, .string (str n), .int .i64 m, vt, v5, v6, v7] 45)) w.heap.size #[.int .i64 k, .int .i64 a, .string (str n), .int .i64 m, vt, v5, v6, v7] 45) := ⟨heap_alloc_new w _⟩
  have FW : Hid (Fr b w (w.alloc (.cells #[.int .i64 k, .int .i64 a, .string (str n), .int .i64 m, vt, v5, v6, v7] 45))) := ⟨(Fr.refl b w).alloc _⟩
  have y2 : (w.alloc (.cells #[.int .i64 k, .int .i64 a, .string (str n), .int .i64 m, vt, v5, v6, v7] 45)).cell? ⟨b, 2, none⟩ = some (.bool false) := CW.out.cell 2
  have k1 : (k == 1) = false := by simp; omega
  have k2 : (k == 2) = false := by simp; omega
  have k3 : (k == 3) = false := by simp; omega
  have k4 : (k == 4) = false := by simp; omega
  have k5 : (k == 5) = false := by simp; omega
  have k6 : (k == 6) = false := by simp; omega
  clear h T I hk
  go_enter Tryd.func35, Tryd.ntmps35
  go_wp2_with (go_at_call 17; refine (fail_any CW.out a _).mono ?_; rintro e w8 ⟨rfl, F8, C8⟩; have HE := Hid.mk (And.intro (FW.out.trans F8) C8); clear F8 C8)
  go_end0
  exact ⟨rfl, HE.out.1, HE.out.2⟩
end Go.Proofs.YtcbdolflgpmaoaaDoor
