/- Package scope's checker: an XCase; every expression. -/
import Derived.Test.YtbajpejnnfacbaaGreatDoorPco
namespace Go.Proofs.YtbajpejnnfacbaaGreatDoor
open Go.RowKit
open Go.Maps (Keyed string_keyed)
set_option linter.unusedVariables false
set_option linter.unusedSimpArgs false

set_option maxRecDepth 100000 in
set_option maxHeartbeats 8000000 in
theorem pchoice_any (al : List A) (ks : List E) (HA : ∀ x ∈ al, PE (bodA x)) (HK : ∀ x ∈ ks, PE x) {w : World} {b f m nf n : Nat} {ds : List D} {bd : Nm → Nat} (h : Cs w b f m nf n (arityN ds) bd) (xk a xm : Int) (s : Nm) (g4 g5 g6 g7 : Option Addr) (n4 n5 n6 n7 c4 c5 c6 c7 : Nat) (xa xks : List Value)
    (e7 : al.length = n7) (e6 : ks.length = n6) (RA : IsRow w (but3 b f m) xa al.length (.slice g7 al.length c7)) (IA : isAs w (but3 b f m) al xa) (RK : IsRow w (but3 b f m) xks ks.length (.slice g6 ks.length c6)) (IK : isEs w (but3 b f m) ks xks) (oa : okAs al) (oe : okEs ks) (t : Nat) (hn : n + 2 * nmAs al + 2 * nmEs ks ≤ t) (ht : t ≤ 1000000000) :
    Calls Tryz.prog 122 #[ptr b, .agg (exp8 xk a xm (str s) g4 g5 g6 g7 n4 n5 n6 n7 c4 c5 c6 c7)] w (Res w b f m nf t (arityN ds) bd (if ks.length = 0 ∨ al.length = 0 then some (a, 2) else orF (chK ds prN tA (scD bd) ks) (chAs ds prN tA (scD bd) [] al))) := by
  have K0 := Joins.below_alloc1 w (.cells (exp8 xk a xm (str s) g4 g5 g6 g7 n4 n5 n6 n7 c4 c5 c6 c7) 53)
  have X0 : Bx (w.alloc (.cells (exp8 xk a xm (str s) g4 g5 g6 g7 n4 n5 n6 n7 c4 c5 c6 c7) 53)) w.heap.size (exp8 xk a xm (str s) g4 g5 g6 g7 n4 n5 n6 n7 c4 c5 c6 c7) 53 := heap_alloc_new w _
  have G0 : Ge b f m w _ := Ge.of_below K0
  have C0 := h.later K0
  have nx := h.new (Nat.le_refl _)
  have y1 := X0.cell 1
  have y6 := X0.cell 6
  have y7 := X0.cell 7
  have GW := Hid.mk G0
  have CW := Hid.mk C0
  have XW := Hid.mk X0
  by_cases q6 : ks.length = 0
  · rw [if_pos (.inl q6)]
    obtain rfl : n6 = 0 := by omega
    clear h C0 X0 K0 G0 RA IA RK IK oa oe HA HK hn
    go_enter Tryz.func122, Tryz.ntmps122
    go_wp2_with (go_at_call 45; refine (pfail_any CW.out a _).mono ?_; rintro e w8 ⟨rfl, G8, C8⟩; have HE := Hid.mk (And.intro (GW.out.trans G8) C8); clear G8 C8)
    go_ret
    exact ⟨rfl, HE.out.1, HE.out.2⟩
  · have b6 : (((n6 : Nat) : Int) == 0) = false := beq_eq_false_iff_ne.2 (by omega)
    by_cases q7 : al.length = 0
    · rw [if_pos (.inr q7)]
      obtain rfl : n7 = 0 := by omega
      clear h C0 X0 K0 G0 RA IA RK IK oa oe HA HK hn
      go_enter Tryz.func122, Tryz.ntmps122
      go_wp2_with (go_at_call 45; refine (pfail_any CW.out a _).mono ?_; rintro e w8 ⟨rfl, G8, C8⟩; have HE := Hid.mk (And.intro (GW.out.trans G8) C8); clear G8 C8)
      go_ret
      exact ⟨rfl, HE.out.1, HE.out.2⟩
    · rw [if_neg (by omega)]
      have b7 : (((n7 : Nat) : Int) == 0) = false := beq_eq_false_iff_ne.2 (by omega)
      have kp : 0 < ks.length := by omega
      obtain ⟨p, off, kk, ka, km, kn, h4, h5, h6, h7, m4, m5, m6, m7, z4, z5, z6, z7, rfl, hp, IK0, hx⟩ := head_cells RK IK kp
      have hmk := List.getElem_mem kp
      have hle := nmEs_le ks 0 kp
      have EX := HK _ hmk _ b f m nf _ ds _ _ C0 (isE_keeps G0.keeps _ _ IK0) (okEs_mem oe _ hmk) (by omega)
      have HAL := Hid.mk (fun (W : World) (k : Ge b f m w W) (CC : Cs W b f m nf (n + 2 * nmE (ks[0]'kp)) (arityN ds) bd) => (palts_any al HA CC _ xa (RA.keeps k.keeps) (isAs_keeps k.keeps _ _ IA) oa (by omega)).mono (fun e w' r => r.up (show _ ≤ t by omega)))
      have HCL := Hid.mk (fun (W : World) (k : Ge b f m w W) (j : Nat) (u : Value) (hj : (exp8 kk ka km kn h4 h5 h6 h7 m4 m5 m6 m7 z4 z5 z6 z7).toList[j]? = some u) => k.keeps.cell p _ _ hp (hx j u hj))
      have v0 := HCL.out _ GW.out 0 _ rfl
      have v1 := HCL.out _ GW.out 1 _ rfl
      have v2 := HCL.out _ GW.out 2 _ rfl
      have v3 := HCL.out _ GW.out 3 _ rfl
      have v4 := HCL.out _ GW.out 4 _ rfl
      have v5 := HCL.out _ GW.out 5 _ rfl
      have v6 := HCL.out _ GW.out 6 _ rfl
      have v7 := HCL.out _ GW.out 7 _ rfl
      rw [Nat.add_zero] at v0
      have eK : chK ds prN tA (scD bd) ks = chE ds prN tA (scD bd) (ks[0]'kp) := by
        cases ks with
        | nil => simp at kp
        | cons y r => rw [chK]; rfl
      rw [eK]
      simp only [e7] at HAL
      have hup : n + 2 * nmE (ks[0]'kp) ≤ t := by omega
      generalize nmE (ks[0]'kp) = ne at *
      generalize chE ds prN tA (scD bd) (ks[0]'kp) = F1 at *
      generalize chAs ds prN tA (scD bd) [] al = F2 at *
      have l6 : 0 < n6 := by omega
      have l6' : (0 : Int) < n6 := by omega
      clear h C0 X0 K0 G0 RA IA RK IK oa oe HA HK hn hmk hle hx IK0 eK q7 q6 hp
      cases F1 with
      | some r =>
        obtain ⟨ra, rc⟩ := r
        rw [orF_some]
        go_enter Tryz.func122, Tryz.ntmps122
        go_wp2_with (go_at_call 108; refine EX.mono ?_; intro e w8 R8; obtain ⟨rfl, G8, C8⟩ := R8.no'; have HE := Hid.mk (And.intro (GW.out.trans G8) C8); clear R8 G8 C8)
        go_ret
        exact ⟨rfl, HE.out.1, HE.out.2⟩
      | none =>
        rw [orF_left]
        cases F2 with
        | some r =>
          obtain ⟨ra, rc⟩ := r
          go_enter Tryz.func122, Tryz.ntmps122
          go_wp2_with (first
            | (go_at_call 131; refine (HAL.out _ GW1.out CW1.out).mono ?_; intro e w9 R9; obtain ⟨rfl, G9, C9⟩ := R9.no'; have HE := Hid.mk (And.intro (GW1.out.trans G9) C9); clear R9 G9 C9)
            | (go_at_call 108; refine EX.mono ?_; intro e w8 R8; obtain ⟨rfl, G8, C8⟩ := R8.yes'; have GW1 := Hid.mk (GW.out.trans G8); have CW1 := Hid.mk C8; replace XW := Hid.mk (XW.out.ge G8 nx); have u7 := XW.out.cell 7; clear R8 G8 C8))
          go_ret
          exact ⟨rfl, HE.out.1, HE.out.2⟩
        | none =>
          go_enter Tryz.func122, Tryz.ntmps122
          go_wp2_with (first
            | (go_at_call 131; refine (HAL.out _ GW1.out CW1.out).mono ?_; intro e w9 R9; obtain ⟨rfl, G9, C9⟩ := R9.yes'; have HE := Hid.mk (And.intro (GW1.out.trans G9) C9); clear R9 G9 C9)
            | (go_at_call 108; refine EX.mono ?_; intro e w8 R8; obtain ⟨rfl, G8, C8⟩ := R8.yes'; have GW1 := Hid.mk (GW.out.trans G8); have CW1 := Hid.mk C8; replace XW := Hid.mk (XW.out.ge G8 nx); have u7 := XW.out.cell 7; clear R8 G8 C8))
          go_ret
          exact ⟨rfl, HE.out.1, HE.out.2⟩
set_option maxHeartbeats 4000000 in
theorem pexp_1 {w : World} {b f m nf n t : Nat} {fl : Nm → Option Int} {bd : Nm → Nat} (h : Cs w b f m nf n fl bd) (a xm : Int) (s : Nm) (g4 g5 g6 g7 : Option Addr) (n4 n5 n6 n7 c4 c5 c6 c7 : Nat) (F : Flt)
    (CA : ∀ W, Ge b f m w W → Cs W b f m nf n fl bd → Calls Tryz.prog 118 #[ptr b, .agg (exp8 1 a xm (str s) g4 g5 g6 g7 n4 n5 n6 n7 c4 c5 c6 c7)] W (Res W b f m nf t fl bd F)) :
    Calls Tryz.prog 108 #[ptr b, .agg (exp8 1 a xm (str s) g4 g5 g6 g7 n4 n5 n6 n7 c4 c5 c6 c7)] w (Res w b f m nf t fl bd F) := by
  have K0 := Joins.below_alloc1 w (.cells (exp8 1 a xm (str s) g4 g5 g6 g7 n4 n5 n6 n7 c4 c5 c6 c7) 53)
  have X0 : Bx (w.alloc (.cells (exp8 1 a xm (str s) g4 g5 g6 g7 n4 n5 n6 n7 c4 c5 c6 c7) 53)) w.heap.size (exp8 1 a xm (str s) g4 g5 g6 g7 n4 n5 n6 n7 c4 c5 c6 c7) 53 := heap_alloc_new w _
  have GW := Hid.mk (Ge.of_below (b := b) (f := f) (m := m) K0)
  have CC := CA _ GW.out (h.later K0)
  have y0 := X0.cell 0
  have y1 := X0.cell 1
  have y2 := X0.cell 2
  have y3 := X0.cell 3
  have y4 := X0.cell 4
  have y5 := X0.cell 5
  have y6 := X0.cell 6
  have y7 := X0.cell 7
  clear h K0 X0 CA
  cases F with
  | some r =>
    obtain ⟨ra, rc⟩ := r
    go_enter Tryz.func108, Tryz.ntmps108
    go_wp2_with (go_at_call 118; refine CC.mono ?_; intro e w8 R8; obtain ⟨rfl, G8, C8⟩ := R8.no'; have HE := Hid.mk (And.intro (GW.out.trans G8) C8); clear R8 G8 C8)
    go_ret
    exact ⟨rfl, HE.out.1, HE.out.2⟩
  | none =>
    go_enter Tryz.func108, Tryz.ntmps108
    go_wp2_with (go_at_call 118; refine CC.mono ?_; intro e w8 R8; obtain ⟨rfl, G8, C8⟩ := R8.yes'; have HE := Hid.mk (And.intro (GW.out.trans G8) C8); clear R8 G8 C8)
    go_ret
    exact ⟨rfl, HE.out.1, HE.out.2⟩
set_option maxHeartbeats 4000000 in
theorem pexp_2 {w : World} {b f m nf n t : Nat} {fl : Nm → Option Int} {bd : Nm → Nat} (h : Cs w b f m nf n fl bd) (a xm : Int) (s : Nm) (g4 g5 g6 g7 : Option Addr) (n4 n5 n6 n7 c4 c5 c6 c7 : Nat) (F : Flt)
    (CA : ∀ W, Ge b f m w W → Cs W b f m nf n fl bd → Calls Tryz.prog 119 #[ptr b, .agg (exp8 2 a xm (str s) g4 g5 g6 g7 n4 n5 n6 n7 c4 c5 c6 c7)] W (Res W b f m nf t fl bd F)) :
    Calls Tryz.prog 108 #[ptr b, .agg (exp8 2 a xm (str s) g4 g5 g6 g7 n4 n5 n6 n7 c4 c5 c6 c7)] w (Res w b f m nf t fl bd F) := by
  have K0 := Joins.below_alloc1 w (.cells (exp8 2 a xm (str s) g4 g5 g6 g7 n4 n5 n6 n7 c4 c5 c6 c7) 53)
  have X0 : Bx (w.alloc (.cells (exp8 2 a xm (str s) g4 g5 g6 g7 n4 n5 n6 n7 c4 c5 c6 c7) 53)) w.heap.size (exp8 2 a xm (str s) g4 g5 g6 g7 n4 n5 n6 n7 c4 c5 c6 c7) 53 := heap_alloc_new w _
  have GW := Hid.mk (Ge.of_below (b := b) (f := f) (m := m) K0)
  have CC := CA _ GW.out (h.later K0)
  have y0 := X0.cell 0
  have y1 := X0.cell 1
  have y2 := X0.cell 2
  have y3 := X0.cell 3
  have y4 := X0.cell 4
  have y5 := X0.cell 5
  have y6 := X0.cell 6
  have y7 := X0.cell 7
  clear h K0 X0 CA
  cases F with
  | some r =>
    obtain ⟨ra, rc⟩ := r
    go_enter Tryz.func108, Tryz.ntmps108
    go_wp2_with (go_at_call 119; refine CC.mono ?_; intro e w8 R8; obtain ⟨rfl, G8, C8⟩ := R8.no'; have HE := Hid.mk (And.intro (GW.out.trans G8) C8); clear R8 G8 C8)
    go_ret
    exact ⟨rfl, HE.out.1, HE.out.2⟩
  | none =>
    go_enter Tryz.func108, Tryz.ntmps108
    go_wp2_with (go_at_call 119; refine CC.mono ?_; intro e w8 R8; obtain ⟨rfl, G8, C8⟩ := R8.yes'; have HE := Hid.mk (And.intro (GW.out.trans G8) C8); clear R8 G8 C8)
    go_ret
    exact ⟨rfl, HE.out.1, HE.out.2⟩
set_option maxHeartbeats 4000000 in
theorem pexp_3 {w : World} {b f m nf n t : Nat} {fl : Nm → Option Int} {bd : Nm → Nat} (h : Cs w b f m nf n fl bd) (a xm : Int) (s : Nm) (g4 g5 g6 g7 : Option Addr) (n4 n5 n6 n7 c4 c5 c6 c7 : Nat) (F : Flt)
    (CA : ∀ W, Ge b f m w W → Cs W b f m nf n fl bd → Calls Tryz.prog 120 #[ptr b, .agg (exp8 3 a xm (str s) g4 g5 g6 g7 n4 n5 n6 n7 c4 c5 c6 c7)] W (Res W b f m nf t fl bd F)) :
    Calls Tryz.prog 108 #[ptr b, .agg (exp8 3 a xm (str s) g4 g5 g6 g7 n4 n5 n6 n7 c4 c5 c6 c7)] w (Res w b f m nf t fl bd F) := by
  have K0 := Joins.below_alloc1 w (.cells (exp8 3 a xm (str s) g4 g5 g6 g7 n4 n5 n6 n7 c4 c5 c6 c7) 53)
  have X0 : Bx (w.alloc (.cells (exp8 3 a xm (str s) g4 g5 g6 g7 n4 n5 n6 n7 c4 c5 c6 c7) 53)) w.heap.size (exp8 3 a xm (str s) g4 g5 g6 g7 n4 n5 n6 n7 c4 c5 c6 c7) 53 := heap_alloc_new w _
  have GW := Hid.mk (Ge.of_below (b := b) (f := f) (m := m) K0)
  have CC := CA _ GW.out (h.later K0)
  have y0 := X0.cell 0
  have y1 := X0.cell 1
  have y2 := X0.cell 2
  have y3 := X0.cell 3
  have y4 := X0.cell 4
  have y5 := X0.cell 5
  have y6 := X0.cell 6
  have y7 := X0.cell 7
  clear h K0 X0 CA
  cases F with
  | some r =>
    obtain ⟨ra, rc⟩ := r
    go_enter Tryz.func108, Tryz.ntmps108
    go_wp2_with (go_at_call 120; refine CC.mono ?_; intro e w8 R8; obtain ⟨rfl, G8, C8⟩ := R8.no'; have HE := Hid.mk (And.intro (GW.out.trans G8) C8); clear R8 G8 C8)
    go_ret
    exact ⟨rfl, HE.out.1, HE.out.2⟩
  | none =>
    go_enter Tryz.func108, Tryz.ntmps108
    go_wp2_with (go_at_call 120; refine CC.mono ?_; intro e w8 R8; obtain ⟨rfl, G8, C8⟩ := R8.yes'; have HE := Hid.mk (And.intro (GW.out.trans G8) C8); clear R8 G8 C8)
    go_ret
    exact ⟨rfl, HE.out.1, HE.out.2⟩
set_option maxHeartbeats 4000000 in
theorem pexp_5 {w : World} {b f m nf n t : Nat} {fl : Nm → Option Int} {bd : Nm → Nat} (h : Cs w b f m nf n fl bd) (a xm : Int) (s : Nm) (g4 g5 g6 g7 : Option Addr) (n4 n5 n6 n7 c4 c5 c6 c7 : Nat) (F : Flt)
    (CA : ∀ W, Ge b f m w W → Cs W b f m nf n fl bd → Calls Tryz.prog 121 #[ptr b, .agg (exp8 5 a xm (str s) g4 g5 g6 g7 n4 n5 n6 n7 c4 c5 c6 c7)] W (Res W b f m nf t fl bd F)) :
    Calls Tryz.prog 108 #[ptr b, .agg (exp8 5 a xm (str s) g4 g5 g6 g7 n4 n5 n6 n7 c4 c5 c6 c7)] w (Res w b f m nf t fl bd F) := by
  have K0 := Joins.below_alloc1 w (.cells (exp8 5 a xm (str s) g4 g5 g6 g7 n4 n5 n6 n7 c4 c5 c6 c7) 53)
  have X0 : Bx (w.alloc (.cells (exp8 5 a xm (str s) g4 g5 g6 g7 n4 n5 n6 n7 c4 c5 c6 c7) 53)) w.heap.size (exp8 5 a xm (str s) g4 g5 g6 g7 n4 n5 n6 n7 c4 c5 c6 c7) 53 := heap_alloc_new w _
  have GW := Hid.mk (Ge.of_below (b := b) (f := f) (m := m) K0)
  have CC := CA _ GW.out (h.later K0)
  have y0 := X0.cell 0
  have y1 := X0.cell 1
  have y2 := X0.cell 2
  have y3 := X0.cell 3
  have y4 := X0.cell 4
  have y5 := X0.cell 5
  have y6 := X0.cell 6
  have y7 := X0.cell 7
  clear h K0 X0 CA
  cases F with
  | some r =>
    obtain ⟨ra, rc⟩ := r
    go_enter Tryz.func108, Tryz.ntmps108
    go_wp2_with (go_at_call 121; refine CC.mono ?_; intro e w8 R8; obtain ⟨rfl, G8, C8⟩ := R8.no'; have HE := Hid.mk (And.intro (GW.out.trans G8) C8); clear R8 G8 C8)
    go_ret
    exact ⟨rfl, HE.out.1, HE.out.2⟩
  | none =>
    go_enter Tryz.func108, Tryz.ntmps108
    go_wp2_with (go_at_call 121; refine CC.mono ?_; intro e w8 R8; obtain ⟨rfl, G8, C8⟩ := R8.yes'; have HE := Hid.mk (And.intro (GW.out.trans G8) C8); clear R8 G8 C8)
    go_ret
    exact ⟨rfl, HE.out.1, HE.out.2⟩
set_option maxHeartbeats 4000000 in
theorem pexp_6 {w : World} {b f m nf n t : Nat} {fl : Nm → Option Int} {bd : Nm → Nat} (h : Cs w b f m nf n fl bd) (a xm : Int) (s : Nm) (g4 g5 g6 g7 : Option Addr) (n4 n5 n6 n7 c4 c5 c6 c7 : Nat) (F : Flt)
    (CA : ∀ W, Ge b f m w W → Cs W b f m nf n fl bd → Calls Tryz.prog 122 #[ptr b, .agg (exp8 6 a xm (str s) g4 g5 g6 g7 n4 n5 n6 n7 c4 c5 c6 c7)] W (Res W b f m nf t fl bd F)) :
    Calls Tryz.prog 108 #[ptr b, .agg (exp8 6 a xm (str s) g4 g5 g6 g7 n4 n5 n6 n7 c4 c5 c6 c7)] w (Res w b f m nf t fl bd F) := by
  have K0 := Joins.below_alloc1 w (.cells (exp8 6 a xm (str s) g4 g5 g6 g7 n4 n5 n6 n7 c4 c5 c6 c7) 53)
  have X0 : Bx (w.alloc (.cells (exp8 6 a xm (str s) g4 g5 g6 g7 n4 n5 n6 n7 c4 c5 c6 c7) 53)) w.heap.size (exp8 6 a xm (str s) g4 g5 g6 g7 n4 n5 n6 n7 c4 c5 c6 c7) 53 := heap_alloc_new w _
  have GW := Hid.mk (Ge.of_below (b := b) (f := f) (m := m) K0)
  have CC := CA _ GW.out (h.later K0)
  have y0 := X0.cell 0
  have y1 := X0.cell 1
  have y2 := X0.cell 2
  have y3 := X0.cell 3
  have y4 := X0.cell 4
  have y5 := X0.cell 5
  have y6 := X0.cell 6
  have y7 := X0.cell 7
  clear h K0 X0 CA
  cases F with
  | some r =>
    obtain ⟨ra, rc⟩ := r
    go_enter Tryz.func108, Tryz.ntmps108
    go_wp2_with (go_at_call 122; refine CC.mono ?_; intro e w8 R8; obtain ⟨rfl, G8, C8⟩ := R8.no'; have HE := Hid.mk (And.intro (GW.out.trans G8) C8); clear R8 G8 C8)
    go_ret
    exact ⟨rfl, HE.out.1, HE.out.2⟩
  | none =>
    go_enter Tryz.func108, Tryz.ntmps108
    go_wp2_with (go_at_call 122; refine CC.mono ?_; intro e w8 R8; obtain ⟨rfl, G8, C8⟩ := R8.yes'; have HE := Hid.mk (And.intro (GW.out.trans G8) C8); clear R8 G8 C8)
    go_ret
    exact ⟨rfl, HE.out.1, HE.out.2⟩
set_option maxHeartbeats 4000000 in
theorem pexp_4 {w : World} {b f m nf n t : Nat} {fl : Nm → Option Int} {bd : Nm → Nat} (h : Cs w b f m nf n fl bd) (hn : n ≤ t) (a xm : Int) (s : Nm) (g4 g5 g6 g7 : Option Addr) (n4 n5 n6 n7 c4 c5 c6 c7 : Nat) :
    Calls Tryz.prog 108 #[ptr b, .agg (exp8 4 a xm (str s) g4 g5 g6 g7 n4 n5 n6 n7 c4 c5 c6 c7)] w (Res w b f m nf t fl bd none) := by
  have K0 := Joins.below_alloc1 w (.cells (exp8 4 a xm (str s) g4 g5 g6 g7 n4 n5 n6 n7 c4 c5 c6 c7) 53)
  have X0 : Bx (w.alloc (.cells (exp8 4 a xm (str s) g4 g5 g6 g7 n4 n5 n6 n7 c4 c5 c6 c7) 53)) w.heap.size (exp8 4 a xm (str s) g4 g5 g6 g7 n4 n5 n6 n7 c4 c5 c6 c7) 53 := heap_alloc_new w _
  have HE := Hid.mk (And.intro (Ge.of_below (b := b) (f := f) (m := m) K0) ((h.later K0).mono hn))
  have y0 := X0.cell 0
  clear h K0 X0
  go_enter Tryz.func108, Tryz.ntmps108
  go_wp2
  go_ret
  exact ⟨rfl, HE.out.1, HE.out.2⟩
set_option maxHeartbeats 4000000 in
theorem pexp_none {w : World} {b f m nf n t : Nat} {fl : Nm → Option Int} {bd : Nm → Nat} (h : Cs w b f m nf n fl bd) (xk a xm : Int) (hk : ¬ (xk = 1 ∨ xk = 2 ∨ xk = 3 ∨ xk = 4 ∨ xk = 5 ∨ xk = 6)) (s : Nm) (g4 g5 g6 g7 : Option Addr) (n4 n5 n6 n7 c4 c5 c6 c7 : Nat) :
    Calls Tryz.prog 108 #[ptr b, .agg (exp8 xk a xm (str s) g4 g5 g6 g7 n4 n5 n6 n7 c4 c5 c6 c7)] w (Res w b f m nf t fl bd (some (a, 2))) := by
  have K0 := Joins.below_alloc1 w (.cells (exp8 xk a xm (str s) g4 g5 g6 g7 n4 n5 n6 n7 c4 c5 c6 c7) 53)
  have X0 : Bx (w.alloc (.cells (exp8 xk a xm (str s) g4 g5 g6 g7 n4 n5 n6 n7 c4 c5 c6 c7) 53)) w.heap.size (exp8 xk a xm (str s) g4 g5 g6 g7 n4 n5 n6 n7 c4 c5 c6 c7) 53 := heap_alloc_new w _
  have GW := Hid.mk (Ge.of_below (b := b) (f := f) (m := m) K0)
  have CW := Hid.mk (h.later K0)
  have y0 := X0.cell 0
  have y1 := X0.cell 1
  have k1' : (xk == 1) = false := beq_eq_false_iff_ne.2 (by omega)
  have k2' : (xk == 2) = false := beq_eq_false_iff_ne.2 (by omega)
  have k3' : (xk == 3) = false := beq_eq_false_iff_ne.2 (by omega)
  have k4' : (xk == 4) = false := beq_eq_false_iff_ne.2 (by omega)
  have k5' : (xk == 5) = false := beq_eq_false_iff_ne.2 (by omega)
  have k6' : (xk == 6) = false := beq_eq_false_iff_ne.2 (by omega)
  clear h K0 X0 hk
  go_enter Tryz.func108, Tryz.ntmps108
  go_wp2_with (go_at_call 45; refine (pfail_any CW.out a _).mono ?_; rintro e w8 ⟨rfl, G8, C8⟩; have HE := Hid.mk (And.intro (GW.out.trans G8) C8); clear G8 C8)
  go_ret
  exact ⟨rfl, HE.out.1, HE.out.2⟩
theorem PE_of (k a : Int) (n : Nm) (xm : Int) (ts : List Atm) (bs : List B) (ks : List E) (al : List A) (HB : ∀ x ∈ bs, PB x) (HK : ∀ x ∈ ks, PE x) (HA : ∀ x ∈ al, PE (bodA x)) : PE (.mk k a n xm ts bs ks al) := by
  intro w b f m nf nn ds bd d h I ox hw
  simp only [isE] at I
  obtain ⟨vt, vb', vk, va, xb, xk, xa, rfl, IT, IB, IBS, IK, IKS, IA, IAS⟩ := I
  have IT0 := IT
  have IB0 := IB
  have IK0 := IK
  have IA0 := IA
  obtain ⟨g4, c4, rfl, _, _⟩ := IT
  obtain ⟨g5, c5, rfl, _, _⟩ := IB
  obtain ⟨g6, c6, rfl, _, _⟩ := IK
  obtain ⟨g7, c7, rfl, _, _⟩ := IA
  simp only [okE] at ox
  rw [nmE] at hw ⊢
  rw [chE]
  by_cases k1 : k = 1
  · rw [if_pos k1]; subst k1
    exact pexp_1 h a xm n g4 g5 g6 g7 _ _ _ _ c4 c5 c6 c7 _ (fun W G C => (papp_any C 1 a xm n ox.1 ts _ (IT0.keeps G.keeps) g5 g6 g7 _ _ _ c5 c6 c7 ox.2.1).mono (fun e w' r => r.up (by omega)))
  · rw [if_neg k1]
    by_cases k2 : k = 2
    · rw [if_pos k2]; subst k2
      exact pexp_2 h a xm n g4 g5 g6 g7 _ _ _ _ c4 c5 c6 c7 _ (fun W G C => (pcon_any C 2 a xm n ox.1 ts _ (IT0.keeps G.keeps) g5 g6 g7 _ _ _ c5 c6 c7 ox.2.1).mono (fun e w' r => r.up (by omega)))
    · rw [if_neg k2]
      by_cases k3 : k = 3
      · rw [if_pos k3]; subst k3
        exact pexp_3 h a xm n g4 g5 g6 g7 _ _ _ _ c4 c5 c6 c7 _ (fun W G C => (pprim_any C 3 a xm n ox.1 ts _ (IT0.keeps G.keeps) g5 g6 g7 _ _ _ c5 c6 c7 ox.2.1).mono (fun e w' r => r.up (by omega)))
      · rw [if_neg k3]
        by_cases k4 : k = 4
        · rw [if_pos k4]; subst k4
          exact pexp_4 h (by omega) a xm n g4 g5 g6 g7 _ _ _ _ c4 c5 c6 c7
        · rw [if_neg k4]
          by_cases k5 : k = 5
          · rw [if_pos k5]; subst k5
            exact pexp_5 h a xm n g4 g5 g6 g7 _ _ _ _ c4 c5 c6 c7 _ (fun W G C => plet_any bs ks HB HK C 5 a xm n g4 g5 g6 g7 _ _ _ _ c4 c5 c6 c7 xb xk rfl rfl (IB0.keeps G.keeps) (isBs_keeps G.keeps _ _ IBS) (IK0.keeps G.keeps) (isEs_keeps G.keeps _ _ IKS) ox.2.2.1 ox.2.2.2.1 _ (by omega) hw)
          · rw [if_neg k5]
            by_cases k6 : k = 6
            · rw [if_pos k6]; subst k6
              exact pexp_6 h a xm n g4 g5 g6 g7 _ _ _ _ c4 c5 c6 c7 _ (fun W G C => pchoice_any al ks HA HK C 6 a xm n g4 g5 g6 g7 _ _ _ _ c4 c5 c6 c7 xa xk rfl rfl (IA0.keeps G.keeps) (isAs_keeps G.keeps _ _ IAS) (IK0.keeps G.keeps) (isEs_keeps G.keeps _ _ IKS) ox.2.2.2.2 ox.2.2.2.1 _ (by omega) hw)
            · rw [if_neg k6]
              exact pexp_none h k a xm (by omega) n g4 g5 g6 g7 _ _ _ _ c4 c5 c6 c7
mutual
theorem PE_all : ∀ x : E, PE x
  | .mk k a n m ts bs ks al => PE_of k a n m ts bs ks al (PBs_all bs) (PEs_all ks) (PAs_all al)
theorem PB_all : ∀ x : B, PB x
  | .mk n a l x => pform_any n a l x (PE_all x)
theorem PA_all : ∀ x : A, PE (bodA x)
  | .mk _ _ _ _ _ x => PE_all x
theorem PEs_all : ∀ l : List E, ∀ x ∈ l, PE x
  | [], x, h => by cases h
  | y :: r, x, h => by
    rcases List.mem_cons.1 h with e | e
    · rw [e]; exact PE_all y
    · exact PEs_all r x e
theorem PBs_all : ∀ l : List B, ∀ x ∈ l, PB x
  | [], x, h => by cases h
  | y :: r, x, h => by
    rcases List.mem_cons.1 h with e | e
    · rw [e]; exact PB_all y
    · exact PBs_all r x e
theorem PAs_all : ∀ l : List A, ∀ x ∈ l, PE (bodA x)
  | [], x, h => by cases h
  | y :: r, x, h => by
    rcases List.mem_cons.1 h with e | e
    · rw [e]; exact PA_all y
    · exact PAs_all r x e
end
end Go.Proofs.YtbajpejnnfacbaaGreatDoor
