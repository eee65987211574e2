/- Package scope's checker: expressions without parts. -/
import Derived.Test.YtbajpejnnfacbaaGreatDoorPcj
import Derived.Deep.RegionHeld3
import Derived.Test.YtbajpejnnfacbaaGreatDoorPcf
namespace Go.Proofs.YtbajpejnnfacbaaGreatDoor
open Go.RowKit
open Go.Maps (Keyed string_keyed)
set_option linter.unusedVariables false
set_option linter.unusedSimpArgs false

set_option maxHeartbeats 4000000 in
theorem papp_any {w : World} {b f m nf n : Nat} {fl : Nm → Option Int} {bd : Nm → Nat} (h : Cs w b f m nf n fl bd) (xk a xm : Int) (s : Nm) (hs : s.length ≤ maxLen) (ts : List Atm) (vt : Value) (T : IsRow w (but3 b f m) (atmC ts) ts.length vt) (g5 g6 g7 : Option Addr) (n5 n6 n7 c5 c6 c7 : Nat) (hl : ∀ t ∈ ts, t.name.length ≤ maxLen) :
    Calls Tryz.prog 118 #[ptr b, .agg #[.int .i64 xk, .int .i64 a, .string (str s), .int .i64 xm, vt, .slice g5 n5 c5, .slice g6 n6 c6, .slice g7 n7 c7]] w (Res w b f m nf n fl bd (if scD bd s = false then some (a, 31) else if 8 < ts.length then some (a, 33) else atmF a (scD bd) ts)) := by
  obtain ⟨g4, c4, rfl, hc, _⟩ := id T
  have K0 := Joins.below_alloc1 w (.cells (exp8 xk a xm (str s) g4 g5 g6 g7 ts.length n5 n6 n7 c4 c5 c6 c7) 53)
  have X0 : Bx (w.alloc (.cells (exp8 xk a xm (str s) g4 g5 g6 g7 ts.length n5 n6 n7 c4 c5 c6 c7) 53)) w.heap.size (exp8 xk a xm (str s) g4 g5 g6 g7 ts.length n5 n6 n7 c4 c5 c6 c7) 53 := heap_alloc_new w _
  have G0 : Ge b f m w _ := Ge.of_below K0
  have C0 := h.later K0
  have nx := h.new (Nat.le_refl _)
  have y0 := X0.cell 0
  have y1 := X0.cell 1
  have y2 := X0.cell 2
  have y3 := X0.cell 3
  have y4 := X0.cell 4
  have y5 := X0.cell 5
  have y6 := X0.cell 6
  have y7 := X0.cell 7
  have HA := Hid.mk (fun (W : World) (GW : Ge b f m w W) (CW : Cs W b f m nf n fl bd) => patoms_any CW xk a xm (str s) ts _ (T.keeps GW.keeps) g5 g6 g7 n5 n6 n7 c5 c6 c7 hl)
  have HS := phas_any C0 s hs
  have GW := Hid.mk G0
  have CW := Hid.mk C0
  clear h C0 X0 K0 G0
  cases q : scD bd s
  · rw [if_pos rfl]
    rw [show decide (0 < bd s) = false from q] at HS
    generalize ts.length = n4 at *
    clear T hl q
    go_enter Tryz.func118, Tryz.ntmps118
    go_wp2_with (first
      | (go_at_call 44; refine HS.mono ?_; rintro e w7 ⟨rfl, rfl⟩)
      | (go_at_call 45; refine (pfail_any CW.out a _).mono ?_; rintro e w8 ⟨rfl, G8, C8⟩; have HE := Hid.mk (And.intro (GW.out.trans G8) C8); clear G8 C8))
    go_ret
    exact ⟨rfl, HE.out.1, HE.out.2⟩
  · rw [if_neg (by simp)]
    rw [show decide (0 < bd s) = true from q] at HS
    by_cases gt : 8 < ts.length
    · rw [if_pos gt]
      have gt' : (8 : Int) < ts.length := by omega
      generalize ts.length = n4 at *
      clear T hl q
      go_enter Tryz.func118, Tryz.ntmps118
      go_wp2_with (first
        | (go_at_call 44; refine HS.mono ?_; rintro e w7 ⟨rfl, rfl⟩)
        | (go_at_call 45; refine (pfail_any CW.out a _).mono ?_; rintro e w8 ⟨rfl, G8, C8⟩; have HE := Hid.mk (And.intro (GW.out.trans G8) C8); clear G8 C8))
      go_ret
      exact ⟨rfl, HE.out.1, HE.out.2⟩
    · rw [if_neg gt]
      have gt' : ¬ (8 : Int) < ts.length := by omega
      cases F : atmF a (scD bd) ts with
      | none =>
        rw [F] at HA
        generalize ts.length = n4 at *
        clear T hl q F
        go_enter Tryz.func118, Tryz.ntmps118
        go_wp2_with (first
          | (go_at_call 44; refine HS.mono ?_; rintro e w7 ⟨rfl, rfl⟩)
          | (go_at_call 128; refine (HA.out _ GW.out CW.out).mono ?_; intro e w8 R8; obtain ⟨rfl, G8, C8⟩ := R8.yes'; have HE := Hid.mk (And.intro (GW.out.trans G8) C8); clear R8 G8 C8))
        go_ret
        exact ⟨rfl, HE.out.1, HE.out.2⟩
      | some r =>
        obtain ⟨ra, rc⟩ := r
        rw [F] at HA
        generalize ts.length = n4 at *
        clear T hl q F
        go_enter Tryz.func118, Tryz.ntmps118
        go_wp2_with (first
          | (go_at_call 44; refine HS.mono ?_; rintro e w7 ⟨rfl, rfl⟩)
          | (go_at_call 128; refine (HA.out _ GW.out CW.out).mono ?_; intro e w8 R8; obtain ⟨rfl, G8, C8⟩ := R8.no'; have HE := Hid.mk (And.intro (GW.out.trans G8) C8); clear R8 G8 C8))
        go_ret
        exact ⟨rfl, HE.out.1, HE.out.2⟩
set_option maxHeartbeats 4000000 in
theorem pcon_any {w : World} {b f m nf n : Nat} {fl : Nm → Option Int} {bd : Nm → Nat} (h : Cs w b f m nf n fl bd) (xk a xm : Int) (s : Nm) (hs : s.length ≤ maxLen) (ts : List Atm) (vt : Value) (T : IsRow w (but3 b f m) (atmC ts) ts.length vt) (g5 g6 g7 : Option Addr) (n5 n6 n7 c5 c6 c7 : Nat) (hl : ∀ t ∈ ts, t.name.length ≤ maxLen) :
    Calls Tryz.prog 119 #[ptr b, .agg #[.int .i64 xk, .int .i64 a, .string (str s), .int .i64 xm, vt, .slice g5 n5 c5, .slice g6 n6 c6, .slice g7 n7 c7]] w (Res w b f m nf n fl bd (orF (conF a (fl s) ts.length) (atmF a (scD bd) ts))) := by
  obtain ⟨g4, c4, rfl, hc, _⟩ := id T
  have K0 := Joins.below_alloc1 w (.cells (exp8 xk a xm (str s) g4 g5 g6 g7 ts.length n5 n6 n7 c4 c5 c6 c7) 53)
  have X0 : Bx (w.alloc (.cells (exp8 xk a xm (str s) g4 g5 g6 g7 ts.length n5 n6 n7 c4 c5 c6 c7) 53)) w.heap.size (exp8 xk a xm (str s) g4 g5 g6 g7 ts.length n5 n6 n7 c4 c5 c6 c7) 53 := heap_alloc_new w _
  have G0 : Ge b f m w _ := Ge.of_below K0
  have C0 := h.later K0
  have nx := h.new (Nat.le_refl _)
  have y0 := X0.cell 0
  have y1 := X0.cell 1
  have y2 := X0.cell 2
  have y3 := X0.cell 3
  have y4 := X0.cell 4
  have y5 := X0.cell 5
  have y6 := X0.cell 6
  have y7 := X0.cell 7
  have HA := Hid.mk (fun (W : World) (GW : Ge b f m w W) (CW : Cs W b f m nf n fl bd) => patoms_any CW xk a xm (str s) ts _ (T.keeps GW.keeps) g5 g6 g7 n5 n6 n7 c5 c6 c7 hl)
  have FI := fits_any C0 s hs ts.length a
  have GW := Hid.mk G0
  have HX := Hid.mk X0
  clear h C0 X0 K0 G0
  cases U : conF a (fl s) ts.length with
  | none =>
    rw [U] at FI
    rw [orF_left]
    cases F : atmF a (scD bd) ts with
    | none =>
      rw [F] at HA
      generalize ts.length = n4 at *
      clear T hl U F
      go_enter Tryz.func119, Tryz.ntmps119
      go_wp2_with (first
        | (go_at_call 128; refine (HA.out _ GW.out CW.out).mono ?_; intro e w8 R8; obtain ⟨rfl, G8, C8⟩ := R8.yes'; have HE := Hid.mk (And.intro (GW.out.trans G8) C8); clear R8 G8 C8)
        | (go_at_call 129; refine FI.mono ?_; intro e w7 R7; obtain ⟨rfl, G7, C7⟩ := R7.yes'; replace GW := Hid.mk (GW.out.trans G7); have CW := Hid.mk C7; have XW1 := HX.out.ge G7 nx; have z0 := XW1.cell 0; have z1 := XW1.cell 1; have z2 := XW1.cell 2; have z3 := XW1.cell 3; have z4 := XW1.cell 4; have z5 := XW1.cell 5; have z6 := XW1.cell 6; have z7 := XW1.cell 7; clear R7 G7 C7 XW1))
      go_ret
      exact ⟨rfl, HE.out.1, HE.out.2⟩
    | some r =>
      obtain ⟨ra, rc⟩ := r
      rw [F] at HA
      generalize ts.length = n4 at *
      clear T hl U F
      go_enter Tryz.func119, Tryz.ntmps119
      go_wp2_with (first
        | (go_at_call 128; refine (HA.out _ GW.out CW.out).mono ?_; intro e w8 R8; obtain ⟨rfl, G8, C8⟩ := R8.no'; have HE := Hid.mk (And.intro (GW.out.trans G8) C8); clear R8 G8 C8)
        | (go_at_call 129; refine FI.mono ?_; intro e w7 R7; obtain ⟨rfl, G7, C7⟩ := R7.yes'; replace GW := Hid.mk (GW.out.trans G7); have CW := Hid.mk C7; have XW1 := HX.out.ge G7 nx; have z0 := XW1.cell 0; have z1 := XW1.cell 1; have z2 := XW1.cell 2; have z3 := XW1.cell 3; have z4 := XW1.cell 4; have z5 := XW1.cell 5; have z6 := XW1.cell 6; have z7 := XW1.cell 7; clear R7 G7 C7 XW1))
      go_ret
      exact ⟨rfl, HE.out.1, HE.out.2⟩
  | some r =>
    obtain ⟨ra, rc⟩ := r
    rw [U] at FI
    rw [orF_some]
    generalize ts.length = n4 at *
    clear T hl U HA
    go_enter Tryz.func119, Tryz.ntmps119
    go_wp2_with (go_at_call 129; refine FI.mono ?_; intro e w7 R7; obtain ⟨rfl, G7, C7⟩ := R7.no'; have HE := Hid.mk (And.intro (GW.out.trans G7) C7); clear R7 G7 C7)
    go_ret
    exact ⟨rfl, HE.out.1, HE.out.2⟩
set_option maxHeartbeats 4000000 in
theorem pprim_any {w : World} {b f m nf n : Nat} {fl : Nm → Option Int} {bd : Nm → Nat} (h : Cs w b f m nf n fl bd) (xk a xm : Int) (s : Nm) (hs : s.length ≤ maxLen) (ts : List Atm) (vt : Value) (T : IsRow w (but3 b f m) (atmC ts) ts.length vt) (g5 g6 g7 : Option Addr) (n5 n6 n7 c5 c6 c7 : Nat) (hl : ∀ t ∈ ts, t.name.length ≤ maxLen) :
    Calls Tryz.prog 120 #[ptr b, .agg #[.int .i64 xk, .int .i64 a, .string (str s), .int .i64 xm, vt, .slice g5 n5 c5, .slice g6 n6 c6, .slice g7 n7 c7]] w (Res w b f m nf n fl bd (if prN s = 0 then some (a, 34) else if tA (prN s) ≠ ts.length then some (a, 33) else atmF a (scD bd) ts)) := by
  obtain ⟨g4, c4, rfl, hc, _⟩ := id T
  have K0 := Joins.below_alloc1 w (.cells (exp8 xk a xm (str s) g4 g5 g6 g7 ts.length n5 n6 n7 c4 c5 c6 c7) 53)
  have X0 : Bx (w.alloc (.cells (exp8 xk a xm (str s) g4 g5 g6 g7 ts.length n5 n6 n7 c4 c5 c6 c7) 53)) w.heap.size (exp8 xk a xm (str s) g4 g5 g6 g7 ts.length n5 n6 n7 c4 c5 c6 c7) 53 := heap_alloc_new w _
  have G0 : Ge b f m w _ := Ge.of_below K0
  have C0 := h.later K0
  have nx := h.new (Nat.le_refl _)
  have y0 := X0.cell 0
  have y1 := X0.cell 1
  have y2 := X0.cell 2
  have y3 := X0.cell 3
  have y4 := X0.cell 4
  have y5 := X0.cell 5
  have y6 := X0.cell 6
  have y7 := X0.cell 7
  have HA := Hid.mk (fun (W : World) (GW : Ge b f m w W) (CW : Cs W b f m nf n fl bd) => patoms_any CW xk a xm (str s) ts _ (T.keeps GW.keeps) g5 g6 g7 n5 n6 n7 c5 c6 c7 hl)
  have FN := ppFind_any s _ C0.tb
  have GW := Hid.mk G0
  have CW := Hid.mk C0
  have HX := Hid.mk X0
  clear h C0 X0 K0 G0
  by_cases q : prN s = 0
  · rw [if_pos q]
    rw [q] at FN
    generalize ts.length = n4 at *
    clear T hl q HA
    go_enter Tryz.func120, Tryz.ntmps120
    go_wp2_with (first
      | (go_at_call 63; refine FN.mono ?_; rintro e w7 ⟨rfl, B7⟩; replace GW := Hid.mk (GW.out.trans (Ge.of_below B7)); replace CW := Hid.mk (CW.out.later B7); have XW1 := HX.out.ge (Ge.of_below (b := b) (f := f) (m := m) B7) nx; have z1 := XW1.cell 1; clear B7 XW1)
      | (go_at_call 45; refine (pfail_any CW.out a _).mono ?_; rintro e w8 ⟨rfl, G8, C8⟩; have HE := Hid.mk (And.intro (GW.out.trans G8) C8); clear G8 C8))
    go_ret
    exact ⟨rfl, HE.out.1, HE.out.2⟩
  · rw [if_neg q]
    have q' : (((prN s : Nat) : Int) == 0) = false := beq_eq_false_iff_ne.2 (by omega)
    by_cases z : tA (prN s) = ts.length
    · rw [if_neg (fun g => g z)]
      have z' : ((ts.length : Nat) : Int) = tA (prN s) := z.symm
      cases F : atmF a (scD bd) ts with
      | none =>
        rw [F] at HA
        generalize ts.length = n4 at *
        clear T hl F q z
        go_enter Tryz.func120, Tryz.ntmps120
        go_wp2_with (go_at_call 63; refine FN.mono ?_; rintro e w7 ⟨rfl, B7⟩; replace GW := Hid.mk (GW.out.trans (Ge.of_below B7)); replace CW := Hid.mk (CW.out.later B7); have XW := Hid.mk (HX.out.ge (Ge.of_below (b := b) (f := f) (m := m) B7) nx); have z1 := XW.out.cell 1; have z4 := XW.out.cell 4; have z0 := XW.out.cell 0; have z2 := XW.out.cell 2; have z3 := XW.out.cell 3; have z5 := XW.out.cell 5; have z6 := XW.out.cell 6; have z7 := XW.out.cell 7; have AR := fun W (k : Below w7.heap.size w7 W) => ppArity_any s W (CW.out.tb.later k); clear B7)
        go_region_held3 (fun w' => w'.cell? ⟨w.heap.size, 4, none⟩ = some (.slice g4 n4 c4)) (go_keep) (first | (go_at_call 130; refine (AR _ ((Below.refl w7.heap.size w7).drew)).mono ?_; rintro e w9 ⟨rfl, B9⟩; replace XW := Hid.mk ((B9.block _ XW.out.lt).trans XW.out); replace XW : Hid (Bx w9 w.heap.size (exp8 xk a xm (str s) g4 g5 g6 g7 n4 n5 n6 n7 c4 c5 c6 c7) 53) := XW; replace GW := Hid.mk (GW.out.drew.trans (Ge.of_below B9)); replace CW := Hid.mk (CW.out.drew.later B9); have x0 := XW.out.cell 0; have x1 := XW.out.cell 1; have x2 := XW.out.cell 2; have x3 := XW.out.cell 3; have x4 := XW.out.cell 4; have x5 := XW.out.cell 5; have x6 := XW.out.cell 6; have x7 := XW.out.cell 7; clear B9))
        all_goals rw [← z'] at *
        all_goals go_wp2_with (go_at_call 128; refine (HA.out _ GW.out CW.out).mono ?_; intro e w8 R8; obtain ⟨rfl, G8, C8⟩ := R8.yes'; have HE := Hid.mk (And.intro (GW.out.trans G8) C8); clear R8 G8 C8)
        all_goals go_ret
        all_goals exact ⟨rfl, HE.out.1, HE.out.2⟩
      | some r =>
        obtain ⟨ra, rc⟩ := r
        rw [F] at HA
        generalize ts.length = n4 at *
        clear T hl F q z
        go_enter Tryz.func120, Tryz.ntmps120
        go_wp2_with (go_at_call 63; refine FN.mono ?_; rintro e w7 ⟨rfl, B7⟩; replace GW := Hid.mk (GW.out.trans (Ge.of_below B7)); replace CW := Hid.mk (CW.out.later B7); have XW := Hid.mk (HX.out.ge (Ge.of_below (b := b) (f := f) (m := m) B7) nx); have z1 := XW.out.cell 1; have z4 := XW.out.cell 4; have z0 := XW.out.cell 0; have z2 := XW.out.cell 2; have z3 := XW.out.cell 3; have z5 := XW.out.cell 5; have z6 := XW.out.cell 6; have z7 := XW.out.cell 7; have AR := fun W (k : Below w7.heap.size w7 W) => ppArity_any s W (CW.out.tb.later k); clear B7)
        go_region_held3 (fun w' => w'.cell? ⟨w.heap.size, 4, none⟩ = some (.slice g4 n4 c4)) (go_keep) (first | (go_at_call 130; refine (AR _ ((Below.refl w7.heap.size w7).drew)).mono ?_; rintro e w9 ⟨rfl, B9⟩; replace XW := Hid.mk ((B9.block _ XW.out.lt).trans XW.out); replace XW : Hid (Bx w9 w.heap.size (exp8 xk a xm (str s) g4 g5 g6 g7 n4 n5 n6 n7 c4 c5 c6 c7) 53) := XW; replace GW := Hid.mk (GW.out.drew.trans (Ge.of_below B9)); replace CW := Hid.mk (CW.out.drew.later B9); have x0 := XW.out.cell 0; have x1 := XW.out.cell 1; have x2 := XW.out.cell 2; have x3 := XW.out.cell 3; have x4 := XW.out.cell 4; have x5 := XW.out.cell 5; have x6 := XW.out.cell 6; have x7 := XW.out.cell 7; clear B9))
        all_goals rw [← z'] at *
        all_goals go_wp2_with (go_at_call 128; refine (HA.out _ GW.out CW.out).mono ?_; intro e w8 R8; obtain ⟨rfl, G8, C8⟩ := R8.no'; have HE := Hid.mk (And.intro (GW.out.trans G8) C8); clear R8 G8 C8)
        all_goals go_ret
        all_goals exact ⟨rfl, HE.out.1, HE.out.2⟩
    · rw [if_pos z]
      have z' : (((ts.length : Nat) : Int) == tA (prN s)) = false := beq_eq_false_iff_ne.2 (fun e => z e.symm)
      generalize ts.length = n4 at *
      clear T hl q z HA
      go_enter Tryz.func120, Tryz.ntmps120
      go_wp2_with (go_at_call 63; refine FN.mono ?_; rintro e w7 ⟨rfl, B7⟩; replace GW := Hid.mk (GW.out.trans (Ge.of_below B7)); replace CW := Hid.mk (CW.out.later B7); have XW := Hid.mk (HX.out.ge (Ge.of_below (b := b) (f := f) (m := m) B7) nx); have z1 := XW.out.cell 1; have z4 := XW.out.cell 4; have z0 := XW.out.cell 0; have z2 := XW.out.cell 2; have z3 := XW.out.cell 3; have z5 := XW.out.cell 5; have z6 := XW.out.cell 6; have z7 := XW.out.cell 7; have AR := fun W (k : Below w7.heap.size w7 W) => ppArity_any s W (CW.out.tb.later k); clear B7)
      go_region_held3 (fun w' => w'.cell? ⟨w.heap.size, 4, none⟩ = some (.slice g4 n4 c4)) (go_keep) (first | (go_at_call 130; refine (AR _ ((Below.refl w7.heap.size w7).drew)).mono ?_; rintro e w9 ⟨rfl, B9⟩; replace XW := Hid.mk ((B9.block _ XW.out.lt).trans XW.out); replace XW : Hid (Bx w9 w.heap.size (exp8 xk a xm (str s) g4 g5 g6 g7 n4 n5 n6 n7 c4 c5 c6 c7) 53) := XW; replace GW := Hid.mk (GW.out.drew.trans (Ge.of_below B9)); replace CW := Hid.mk (CW.out.drew.later B9); have x0 := XW.out.cell 0; have x1 := XW.out.cell 1; have x2 := XW.out.cell 2; have x3 := XW.out.cell 3; have x4 := XW.out.cell 4; have x5 := XW.out.cell 5; have x6 := XW.out.cell 6; have x7 := XW.out.cell 7; clear B9))
      all_goals go_wp2_with (go_at_call 45; refine (pfail_any CW.out a _).mono ?_; rintro e w8 ⟨rfl, G8, C8⟩; have HE := Hid.mk (And.intro (GW.out.trans G8) C8); clear G8 C8)
      all_goals go_ret
      all_goals exact ⟨rfl, HE.out.1, HE.out.2⟩
end Go.Proofs.YtbajpejnnfacbaaGreatDoor

/- The document's check: binds within an expression. -/
namespace Go.Proofs.YtbajpejnnfacbaaGreatDoor
open Go.RowKit
set_option linter.unusedVariables false
set_option linter.unusedSimpArgs false

theorem isB_eleven {w : World} {ok : Nat → Prop} {x : B} {c : List Value} (h : isB w ok x c) : ∃ (k a m a0 : Int) (s s0 : ByteArray) (g3 g4 g5 g6 g7 : Option Addr) (n3 n4 n5 n6 n7 c3 c4 c5 c6 c7 : Nat),
    c = [.string s0, .int .i64 a0, .slice g3 n3 c3, .int .i64 k, .int .i64 a, .string s, .int .i64 m, .slice g4 n4 c4, .slice g5 n5 c5, .slice g6 n6 c6, .slice g7 n7 c7] := by
  obtain ⟨n, a, al, x⟩ := x
  simp only [isB] at h
  obtain ⟨va, d, rfl, ⟨_, _, rfl, _⟩, h⟩ := h
  obtain ⟨k, a, m, s, g4, g5, g6, g7, n4, n5, n6, n7, c4, c5, c6, c7, rfl⟩ := isE_eight h
  exact ⟨_, _, _, _, _, _, _, _, _, _, _, _, _, _, _, _, _, _, _, _, _, rfl⟩
def atB : B → Int | .mk _ a _ _ => a
/-- the names, each asked both things -/
def namQ (ahead : List Nm) : List B → Flt
  | [] => none
  | .mk n a _ _ :: r => orF (orF (if n = [] then some (a, 31) else none) (if ahead.contains n = true then some (a, 30) else none)) (namQ (ahead ++ [n]) r)
theorem namQ_cons (ahead : List Nm) (x : B) (r : List B) : namQ ahead (x :: r) = orF (orF (if nameB' x = [] then some (atB x, 31) else none) (if ahead.contains (nameB' x) = true then some (atB x, 30) else none)) (namQ (ahead ++ [nameB' x]) r) := by
  obtain ⟨n, a, l, e⟩ := x
  rfl
theorem namQ_F : ∀ (l : List B) (p q : List Nm), (∀ y, p.contains y = q.contains y) → namQ p l = namF q l
  | [], _, _, _ => rfl
  | .mk n a al x :: r, p, q, h => by
    have ih := namQ_F r (p ++ [n]) (n :: q) (fun y => by rw [has_snoc, List.contains_cons, h y]; cases q.contains y <;> cases (y == n) <;> rfl)
    rw [namQ, namF]
    by_cases z : n = []
    · rw [if_pos z, if_pos z]; rfl
    · rw [if_neg z, if_neg z, orF_left, h n, ih]
      by_cases g : q.contains n = true
      · rw [if_pos g, if_pos g]; rfl
      · rw [if_neg g, if_neg g]; rfl
def letF (ds : List D) (sc : Nm → Bool) (a : Int) (bs : List B) (ks : List E) : Flt := if bs.length = 0 ∨ ks.length = 0 then some (a, 2) else orF (namF [] bs) (orF (chBs ds prN tA (fun x => sc x || (bs.map nameB').contains x) bs) (chK ds prN tA (fun x => sc x || (bs.map nameB').contains x) ks))
end Go.Proofs.YtbajpejnnfacbaaGreatDoor

/- The document's check: binds within an expression, and what follows them. -/
namespace Go.Proofs.YtbajpejnnfacbaaGreatDoor
open Go.RowKit
set_option linter.unusedVariables false
set_option linter.unusedSimpArgs false

theorem Nw.form {w : World} {z : Nat} {v : Value} {l : List Nm} (h : Nw w z v l) : ∃ ga cap, v = .slice ga l.length cap := by
  obtain ⟨ga, cap, e, _⟩ := RowS.le h
  exact ⟨ga, cap, e⟩
theorem Nw.fr {w w' : World} {z b : Nat} {v : Value} {l : List Nm} (h : Nw w z v l) (F : Fr b w w') (hz : b < z) : Nw w' z v l := by
  rcases h with h | h
  · exact .inl h
  · exact .inr (own_fr h F hz)
theorem rowC {w : World} {ok : Nat → Prop} {xs : List Value} {n c : Nat} {ga : Option Addr} (h : IsRow w ok xs n (.slice ga n c)) (hn : 0 < n) : ∃ g off, ga = some ⟨g, off, none⟩ ∧ ok g ∧ ∀ j u, xs[j]? = some u → w.cell? ⟨g, off + j, none⟩ = some u := by
  obtain ⟨ga', c', e, _, hx⟩ := h
  simp only [Value.slice.injEq] at e
  obtain ⟨rfl, _, rfl⟩ := e
  exact hx hn
theorem isB_at {w : World} {ok : Nat → Prop} {x : B} {d : List Value} (h : isB w ok x d) : d[1]? = some (.int .i64 (atB x)) := by
  obtain ⟨n, a, l, e⟩ := x
  simp only [isB] at h
  obtain ⟨va, d', rfl, _, _⟩ := h
  rfl
theorem nmBs_le : ∀ (l : List B) (j : Nat) (h : j < l.length), nmB (l[j]'h) ≤ nmBs l
  | x :: r, 0, _ => by rw [nmBs]; simp
  | x :: r, j + 1, h => by
    have := nmBs_le r j (by simpa using h)
    rw [nmBs]
    simp only [List.getElem_cons_succ]
    omega
theorem nmEs_le : ∀ (l : List E) (j : Nat) (h : j < l.length), nmE (l[j]'h) ≤ nmEs l
  | x :: r, 0, _ => by rw [nmEs]; simp
  | x :: r, j + 1, h => by
    have := nmEs_le r j (by simpa using h)
    rw [nmEs]
    simp only [List.getElem_cons_succ]
    omega
theorem chK_get {ds : List D} {sc : Nm → Bool} : ∀ (l : List E) (h : 0 < l.length), chK ds prN tA sc l = chE ds prN tA sc (l[0]'h)
  | x :: r, _ => by rw [chK]; rfl
end Go.Proofs.YtbajpejnnfacbaaGreatDoor
