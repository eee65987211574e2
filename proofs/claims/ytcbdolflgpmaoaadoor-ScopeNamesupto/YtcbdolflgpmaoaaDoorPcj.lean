/- Package scope's checker: a form. -/
import Derived.Test.YtcbdolflgpmaoaaDoorPci
namespace Go.Proofs.YtcbdolflgpmaoaaDoor
open Go.RowKit
open Go.Maps (Keyed string_keyed)
set_option linter.unusedVariables false
set_option linter.unusedSimpArgs false

abbrev bnd11 (s : ByteArray) (a : Int) (g2 : Option Addr) (n2 c2 : Nat) (k xa xm : Int) (xs : ByteArray) (g4 g5 g6 g7 : Option Addr) (n4 n5 n6 n7 c4 c5 c6 c7 : Nat) : Array Value := #[.string s, .int .i64 a, .slice g2 n2 c2, .int .i64 k, .int .i64 xa, .string xs, .int .i64 xm, .slice g4 n4 c4, .slice g5 n5 c5, .slice g6 n6 c6, .slice g7 n7 c7]
theorem argF_un {a : Int} {l : List Nm} (h : ¬ 8 < l.length) : argF a l = unF a l := by unfold argF unF; rw [if_neg h]
set_option maxHeartbeats 4000000 in
theorem pform_any (nm : Nm) (a : Int) (l : List Nm) (x : E) (H : PE x) : PB (.mk nm a l x) := by
  intro w b f m nf n ds bd d h I ox hn
  simp only [isB] at I
  obtain ⟨va, dx, rfl, IA, IX⟩ := I
  obtain ⟨xk, xa, xm, xs, g4, g5, g6, g7, n4, n5, n6, n7, c4, c5, c6, c7, rfl⟩ := isE_eight IX
  have IA0 := IA
  obtain ⟨ga, cap, rfl, hc, _⟩ := IA
  simp only [okB] at ox
  simp only [nmB] at hn
  have e0 : chB ds prN tA (scD bd) (.mk nm a l x) = orF (argF a l) (chE ds prN tA (scD (plus bd l)) x) := by rw [chB, scD_plus]
  have e1 : nmB (.mk nm a l x) = l.length + nmE x := by rw [nmB]
  rw [e0, e1]
  clear e0 e1
  have K0 := Joins.below_alloc1 w (.cells (bnd11 (str nm) a ga l.length cap xk xa xm xs g4 g5 g6 g7 n4 n5 n6 n7 c4 c5 c6 c7) 49)
  have X0 : Bx (w.alloc (.cells (bnd11 (str nm) a ga l.length cap xk xa xm xs g4 g5 g6 g7 n4 n5 n6 n7 c4 c5 c6 c7) 49)) w.heap.size (bnd11 (str nm) a ga l.length cap xk xa xm xs g4 g5 g6 g7 n4 n5 n6 n7 c4 c5 c6 c7) 49 := heap_alloc_new w _
  have G0 : Ge b f m w _ := Ge.of_below K0
  have C0 := h.later K0
  have nx := h.new (Nat.le_refl _)
  have y1 := X0.cell 1
  have y2 := X0.cell 2
  by_cases gt : 8 < l.length
  · have eF : orF (argF a l) (chE ds prN tA (scD (plus bd l)) x) = some (a, 33) := by unfold argF; rw [if_pos gt]; rfl
    rw [eF]
    have FA := pfail_any C0 a 33
    have HG := Hid.mk G0
    have gt' : (8 : Int) < l.length := by omega
    generalize l.length = k at *
    clear h C0 X0 K0 G0 IA0 IX H hn ox
    go_enter Tryd.func49, Tryd.ntmps49
    go_wp2_with (go_at_call 33; refine FA.mono ?_; rintro e w8 ⟨rfl, G8, F8⟩; have HE := Hid.mk (And.intro G8 F8); clear G8 F8)
    go_ret
    exact ⟨rfl, HG.out.trans HE.out.1, HE.out.2⟩
  · rw [argF_un gt]
    have UN := unlike_any C0 l _ (IA0.keeps G0.keeps) ox.2.1 a
    have HIN := Hid.mk (fun (W : World) (GW : Ge b f m w W) (CW : Cs W b f m nf n (arityN ds) bd) => inside_any x H CW (isE_keeps GW.keeps _ _ IX) ox.2.2 l _ (IA0.keeps GW.keeps) ox.2.1 (by omega))
    have HX := Hid.mk X0
    have HG := Hid.mk G0
    have gt' : ¬ (8 : Int) < l.length := by omega
    have ea : n + 2 * l.length + 2 * nmE x = n + 2 * (l.length + nmE x) := by omega
    rw [ea] at HIN
    cases U : unF a l with
    | none =>
      rw [U] at UN
      rw [orF_left]
      cases F : chE ds prN tA (scD (plus bd l)) x with
      | none =>
        rw [F] at HIN
        generalize l.length = k at *
        clear h C0 X0 K0 G0 IA0 IX H hn ox ea U F
        go_enter Tryd.func49, Tryd.ntmps49
        go_wp2_with (first
          | (go_at_call 66; refine (HIN.out _ GW1.out CW1.out).mono ?_; intro e w8 R8; obtain ⟨rfl, G8, C8⟩ := R8.yes'; have HE := Hid.mk (And.intro (GW1.out.trans G8) C8); clear R8 G8 C8)
          | (go_at_call 65; refine UN.mono ?_; intro e w7 R7; obtain ⟨rfl, G7, C7⟩ := R7.yes'; have GW1 := Hid.mk (HG.out.trans G7); have CW1 := Hid.mk C7; have XW1 := HX.out.ge G7 nx; have z2 := XW1.cell 2; have z3 := XW1.cell 3; have z4 := XW1.cell 4; have z5 := XW1.cell 5; have z6 := XW1.cell 6; have z7 := XW1.cell 7; have z8 := XW1.cell 8; have z9 := XW1.cell 9; have z10 := XW1.cell 10; clear R7 G7 C7 XW1))
        go_ret
        exact ⟨rfl, HE.out.1, HE.out.2⟩
      | some r =>
        obtain ⟨ra, rc⟩ := r
        rw [F] at HIN
        generalize l.length = k at *
        clear h C0 X0 K0 G0 IA0 IX H hn ox ea U F
        go_enter Tryd.func49, Tryd.ntmps49
        go_wp2_with (first
          | (go_at_call 66; refine (HIN.out _ GW1.out CW1.out).mono ?_; intro e w8 R8; obtain ⟨rfl, G8, C8⟩ := R8.no'; have HE := Hid.mk (And.intro (GW1.out.trans G8) C8); clear R8 G8 C8)
          | (go_at_call 65; refine UN.mono ?_; intro e w7 R7; obtain ⟨rfl, G7, C7⟩ := R7.yes'; have GW1 := Hid.mk (HG.out.trans G7); have CW1 := Hid.mk C7; have XW1 := HX.out.ge G7 nx; have z2 := XW1.cell 2; have z3 := XW1.cell 3; have z4 := XW1.cell 4; have z5 := XW1.cell 5; have z6 := XW1.cell 6; have z7 := XW1.cell 7; have z8 := XW1.cell 8; have z9 := XW1.cell 9; have z10 := XW1.cell 10; clear R7 G7 C7 XW1))
        go_ret
        exact ⟨rfl, HE.out.1, HE.out.2⟩
    | some r =>
      obtain ⟨ra, rc⟩ := r
      rw [U] at UN
      rw [orF_some]
      generalize l.length = k at *
      clear h C0 X0 K0 G0 IA0 IX H hn ox ea U HIN
      go_enter Tryd.func49, Tryd.ntmps49
      go_wp2_with (go_at_call 65; refine UN.mono ?_; intro e w7 R7; obtain ⟨rfl, G7, C7⟩ := R7.no'; have HE := Hid.mk (And.intro (HG.out.trans G7) C7); clear R7 G7 C7)
      go_ret
      exact ⟨rfl, HE.out.1, HE.out.2⟩
end Go.Proofs.YtcbdolflgpmaoaaDoor
