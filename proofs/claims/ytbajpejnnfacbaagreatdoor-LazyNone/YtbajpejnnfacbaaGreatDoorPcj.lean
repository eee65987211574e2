/- Package scope's checker: an expression in which some more names are in scope; a form. -/
import Derived.Test.YtbajpejnnfacbaaGreatDoorPch
namespace Go.Proofs.YtbajpejnnfacbaaGreatDoor
open Go.RowKit
open Go.Maps (Keyed string_keyed)
set_option linter.unusedVariables false
set_option linter.unusedSimpArgs false

mutual
/-- names that are no longer than any text, kinds and numbers that are Go's -/
def okE : E → Prop
  | .mk _ _ n _ ts bs ks al => n.length ≤ maxLen ∧ (∀ t ∈ ts, t.name.length ≤ maxLen) ∧ okBs bs ∧ okEs ks ∧ okAs al
def okB : B → Prop
  | .mk n _ l x => n.length ≤ maxLen ∧ (∀ s ∈ l, s.length ≤ maxLen) ∧ okE x
def okA : A → Prop
  | .mk k _ n m vs x => (Lit.int .i64 k).wf = true ∧ n.length ≤ maxLen ∧ (Lit.int .i64 m).wf = true ∧ (∀ s ∈ vs, s.length ≤ maxLen) ∧ okE x
def okEs : List E → Prop
  | [] => True
  | x :: r => okE x ∧ okEs r
def okBs : List B → Prop
  | [] => True
  | x :: r => okB x ∧ okBs r
def okAs : List A → Prop
  | [] => True
  | x :: r => okA x ∧ okAs r
end
theorem okEs_mem : ∀ {l : List E}, okEs l → ∀ x ∈ l, okE x
  | [], _, x, h => by cases h
  | y :: r, k, x, h => by
    simp only [okEs] at k
    rcases List.mem_cons.1 h with e | e
    · rw [e]; exact k.1
    · exact okEs_mem k.2 x e
theorem okBs_mem : ∀ {l : List B}, okBs l → ∀ x ∈ l, okB x
  | [], _, x, h => by cases h
  | y :: r, k, x, h => by
    simp only [okBs] at k
    rcases List.mem_cons.1 h with e | e
    · rw [e]; exact k.1
    · exact okBs_mem k.2 x e
theorem okAs_mem : ∀ {l : List A}, okAs l → ∀ x ∈ l, okA x
  | [], _, x, h => by cases h
  | y :: r, k, x, h => by
    simp only [okAs] at k
    rcases List.mem_cons.1 h with e | e
    · rw [e]; exact k.1
    · exact okAs_mem k.2 x e
theorem scD_plus (bd : Nm → Nat) (l : List Nm) : scD (plus bd l) = fun y => scD bd y || l.contains y := by
  funext y
  have e : plus bd l y = bd y + l.count y := rfl
  rw [Bool.eq_iff_iff, Bool.or_eq_true, decide_eq_true_eq, decide_eq_true_eq, e, List.contains_iff_mem, ← List.count_pos_iff]
  omega
/-- what an expression is asked of the program -/
def PE (x : E) : Prop := ∀ (w : World) (b f m nf n : Nat) (ds : List D) (bd : Nm → Nat) (d : List Value), Cs w b f m nf n (arityN ds) bd → isE w (but3 b f m) x d → okE x → n + 2 * nmE x ≤ 1000000000 →
  Calls Tryz.prog 108 #[ptr b, .agg d.toArray] w (Res w b f m nf (n + 2 * nmE x) (arityN ds) bd (chE ds prN tA (scD bd) x))
def PB (x : B) : Prop := ∀ (w : World) (b f m nf n : Nat) (ds : List D) (bd : Nm → Nat) (d : List Value), Cs w b f m nf n (arityN ds) bd → isB w (but3 b f m) x d → okB x → n + 2 * nmB x ≤ 1000000000 →
  Calls Tryz.prog 60 #[ptr b, .agg d.toArray] w (Res w b f m nf (n + 2 * nmB x) (arityN ds) bd (chB ds prN tA (scD bd) x))
theorem Res.yes' {w w' : World} {b f m nf n : Nat} {fl : Nm → Option Int} {bd : Nm → Nat} {e : Ending} (h : Res w b f m nf n fl bd none e w') : e = yes ∧ Ge b f m w w' ∧ Cs w' b f m nf n fl bd := h
theorem Res.no' {w w' : World} {b f m nf n : Nat} {fl : Nm → Option Int} {bd : Nm → Nat} {a c : Int} {e : Ending} (h : Res w b f m nf n fl bd (some (a, c)) e w') : e = no ∧ Ge b f m w w' ∧ Ft w' b a c := h
abbrev exp8 (k a xm : Int) (s : ByteArray) (g4 g5 g6 g7 : Option Addr) (n4 n5 n6 n7 c4 c5 c6 c7 : Nat) : Array Value := #[.int .i64 k, .int .i64 a, .string s, .int .i64 xm, .slice g4 n4 c4, .slice g5 n5 c5, .slice g6 n6 c6, .slice g7 n7 c7]
set_option maxHeartbeats 2000000 in
theorem inside_any (x : E) (H : PE x) {w : World} {b f m nf n : Nat} {ds : List D} {bd : Nm → Nat} {d : List Value} (h : Cs w b f m nf n (arityN ds) bd) (I : isE w (but3 b f m) x d) (ox : okE x) (l : List Nm) (v : Value) (R : IsRow w (but3 b f m) (strC l) l.length v) (hl : ∀ s ∈ l, s.length ≤ maxLen) (hn : n + 2 * l.length + 2 * nmE x ≤ 1000000000) :
    Calls Tryz.prog 82 #[ptr b, v, .agg d.toArray] w (Res w b f m nf (n + 2 * l.length + 2 * nmE x) (arityN ds) bd (chE ds prN tA (scD (plus bd l)) x)) := by
  obtain ⟨xk, xa, xm, xs, g4, g5, g6, g7, n4, n5, n6, n7, c4, c5, c6, c7, rfl⟩ := isE_eight I
  have K0 := Joins.below_alloc1 w (.cells (exp8 xk xa xm xs g4 g5 g6 g7 n4 n5 n6 n7 c4 c5 c6 c7) 53)
  have X0 : Bx (w.alloc (.cells (exp8 xk xa xm xs g4 g5 g6 g7 n4 n5 n6 n7 c4 c5 c6 c7) 53)) w.heap.size (exp8 xk xa xm xs g4 g5 g6 g7 n4 n5 n6 n7 c4 c5 c6 c7) 53 := heap_alloc_new w _
  have G0 : Ge b f m w _ := Ge.of_below K0
  have CE := penter_any (h.later K0) l v (R.keeps G0.keeps) hl (by omega)
  have nx := h.new (Nat.le_refl _)
  have HALL := Hid.mk (And.intro G0 (And.intro X0 (And.intro R I)))
  have HP := Hid.mk (fun (W : World) (GW : Ge b f m w W) (CW : Cs W b f m nf (n + l.length) (arityN ds) (plus bd l)) => H W b f m nf (n + l.length) ds (plus bd l) _ CW (isE_keeps GW.keeps _ _ I) ox (by omega))
  have HLV := Hid.mk (fun (W : World) (GW : Ge b f m w W) (CW : Cs W b f m nf (n + l.length + 2 * nmE x) (arityN ds) (plus bd l)) => pleave_any (bd := bd) l CW v (R.keeps GW.keeps) hl (by omega))
  clear h I ox R hl H
  cases F : chE ds prN tA (scD (plus bd l)) x with
  | none =>
    rw [F] at HP
    go_enter Tryz.func82, Tryz.ntmps82
    go_wp2_with (first
      | (go_at_call 109; refine (HLV.out _ GW2.out CW2.out).mono ?_; rintro e w9 ⟨rfl, G9, C9⟩; have HE := Hid.mk (And.intro (GW2.out.trans G9) C9); clear G9 C9)
      | (go_at_call 108; refine (HP.out _ GW1.out CW1.out).mono ?_; intro e w8 R8; obtain ⟨rfl, G8, C8⟩ := R8.yes'; have GW2 := Hid.mk (GW1.out.trans G8); have CW2 := Hid.mk C8; clear R8 G8 C8)
      | (go_at_call 58; refine CE.mono ?_; rintro e w7 ⟨rfl, G7, C7⟩; have GW1 := Hid.mk (HALL.out.1.trans G7); have CW1 := Hid.mk C7; have XW1 := HALL.out.2.1.ge G7 nx; have y0 := XW1.cell 0; have y1 := XW1.cell 1; have y2 := XW1.cell 2; have y3 := XW1.cell 3; have y4 := XW1.cell 4; have y5 := XW1.cell 5; have y6 := XW1.cell 6; have y7 := XW1.cell 7; clear G7 C7 XW1))
    go_ret
    refine ⟨rfl, HE.out.1, HE.out.2.mono (by omega)⟩
  | some r =>
    obtain ⟨ra, rc⟩ := r
    rw [F] at HP
    go_enter Tryz.func82, Tryz.ntmps82
    go_wp2_with (first
      | (go_at_call 108; refine (HP.out _ GW1.out CW1.out).mono ?_; intro e w8 R8; obtain ⟨rfl, G8, C8⟩ := R8.no'; have GW2 := Hid.mk (GW1.out.trans G8); have CW2 := Hid.mk C8; clear R8 G8 C8)
      | (go_at_call 58; refine CE.mono ?_; rintro e w7 ⟨rfl, G7, C7⟩; have GW1 := Hid.mk (HALL.out.1.trans G7); have CW1 := Hid.mk C7; have XW1 := HALL.out.2.1.ge G7 nx; have y0 := XW1.cell 0; have y1 := XW1.cell 1; have y2 := XW1.cell 2; have y3 := XW1.cell 3; have y4 := XW1.cell 4; have y5 := XW1.cell 5; have y6 := XW1.cell 6; have y7 := XW1.cell 7; clear G7 C7 XW1))
    go_ret
    exact ⟨rfl, GW2.out, CW2.out⟩
end Go.Proofs.YtbajpejnnfacbaaGreatDoor

/- Package scope's checker: a form. -/
namespace Go.Proofs.YtbajpejnnfacbaaGreatDoor
open Go.RowKit
open Go.Maps (Keyed string_keyed)
set_option linter.unusedVariables false
set_option linter.unusedSimpArgs false

abbrev bnd11 (s : ByteArray) (a : Int) (g2 : Option Addr) (n2 c2 : Nat) (k xa xm : Int) (xs : ByteArray) (g4 g5 g6 g7 : Option Addr) (n4 n5 n6 n7 c4 c5 c6 c7 : Nat) : Array Value := #[.string s, .int .i64 a, .slice g2 n2 c2, .int .i64 k, .int .i64 xa, .string xs, .int .i64 xm, .slice g4 n4 c4, .slice g5 n5 c5, .slice g6 n6 c6, .slice g7 n7 c7]
theorem argF_un {a : Int} {l : List Nm} (h : ¬ 8 < l.length) : argF a l = unF a l := by unfold argF unF; rw [if_neg h]
set_option maxHeartbeats 4000000 in
theorem pform_any (nm : Nm) (a : Int) (l : List Nm) (x : E) (H : PE x) : PB (.mk nm a l x) := by
  intro w b f m nf n ds bd d h I ox hn
  simp only [isB] at I
  obtain ⟨va, dx, rfl, IA, IX⟩ := I
  obtain ⟨xk, xa, xm, xs, g4, g5, g6, g7, n4, n5, n6, n7, c4, c5, c6, c7, rfl⟩ := isE_eight IX
  have IA0 := IA
  obtain ⟨ga, cap, rfl, hc, _⟩ := IA
  simp only [okB] at ox
  simp only [nmB] at hn
  have e0 : chB ds prN tA (scD bd) (.mk nm a l x) = orF (argF a l) (chE ds prN tA (scD (plus bd l)) x) := by rw [chB, scD_plus]
  have e1 : nmB (.mk nm a l x) = l.length + nmE x := by rw [nmB]
  rw [e0, e1]
  clear e0 e1
  have K0 := Joins.below_alloc1 w (.cells (bnd11 (str nm) a ga l.length cap xk xa xm xs g4 g5 g6 g7 n4 n5 n6 n7 c4 c5 c6 c7) 58)
  have X0 : Bx (w.alloc (.cells (bnd11 (str nm) a ga l.length cap xk xa xm xs g4 g5 g6 g7 n4 n5 n6 n7 c4 c5 c6 c7) 58)) w.heap.size (bnd11 (str nm) a ga l.length cap xk xa xm xs g4 g5 g6 g7 n4 n5 n6 n7 c4 c5 c6 c7) 58 := heap_alloc_new w _
  have G0 : Ge b f m w _ := Ge.of_below K0
  have C0 := h.later K0
  have nx := h.new (Nat.le_refl _)
  have y1 := X0.cell 1
  have y2 := X0.cell 2
  by_cases gt : 8 < l.length
  · have eF : orF (argF a l) (chE ds prN tA (scD (plus bd l)) x) = some (a, 33) := by unfold argF; rw [if_pos gt]; rfl
    rw [eF]
    have FA := pfail_any C0 a 33
    have HG := Hid.mk G0
    have gt' : (8 : Int) < l.length := by omega
    generalize l.length = k at *
    clear h C0 X0 K0 G0 IA0 IX H hn ox
    go_enter Tryz.func60, Tryz.ntmps60
    go_wp2_with (go_at_call 45; refine FA.mono ?_; rintro e w8 ⟨rfl, G8, F8⟩; have HE := Hid.mk (And.intro G8 F8); clear G8 F8)
    go_ret
    exact ⟨rfl, HG.out.trans HE.out.1, HE.out.2⟩
  · rw [argF_un gt]
    have UN := unlike_any C0 l _ (IA0.keeps G0.keeps) ox.2.1 a
    have HIN := Hid.mk (fun (W : World) (GW : Ge b f m w W) (CW : Cs W b f m nf n (arityN ds) bd) => inside_any x H CW (isE_keeps GW.keeps _ _ IX) ox.2.2 l _ (IA0.keeps GW.keeps) ox.2.1 (by omega))
    have HX := Hid.mk X0
    have HG := Hid.mk G0
    have gt' : ¬ (8 : Int) < l.length := by omega
    have ea : n + 2 * l.length + 2 * nmE x = n + 2 * (l.length + nmE x) := by omega
    rw [ea] at HIN
    cases U : unF a l with
    | none =>
      rw [U] at UN
      rw [orF_left]
      cases F : chE ds prN tA (scD (plus bd l)) x with
      | none =>
        rw [F] at HIN
        generalize l.length = k at *
        clear h C0 X0 K0 G0 IA0 IX H hn ox ea U F
        go_enter Tryz.func60, Tryz.ntmps60
        go_wp2_with (first
          | (go_at_call 82; refine (HIN.out _ GW1.out CW1.out).mono ?_; intro e w8 R8; obtain ⟨rfl, G8, C8⟩ := R8.yes'; have HE := Hid.mk (And.intro (GW1.out.trans G8) C8); clear R8 G8 C8)
          | (go_at_call 81; refine UN.mono ?_; intro e w7 R7; obtain ⟨rfl, G7, C7⟩ := R7.yes'; have GW1 := Hid.mk (HG.out.trans G7); have CW1 := Hid.mk C7; have XW1 := HX.out.ge G7 nx; have z2 := XW1.cell 2; have z3 := XW1.cell 3; have z4 := XW1.cell 4; have z5 := XW1.cell 5; have z6 := XW1.cell 6; have z7 := XW1.cell 7; have z8 := XW1.cell 8; have z9 := XW1.cell 9; have z10 := XW1.cell 10; clear R7 G7 C7 XW1))
        go_ret
        exact ⟨rfl, HE.out.1, HE.out.2⟩
      | some r =>
        obtain ⟨ra, rc⟩ := r
        rw [F] at HIN
        generalize l.length = k at *
        clear h C0 X0 K0 G0 IA0 IX H hn ox ea U F
        go_enter Tryz.func60, Tryz.ntmps60
        go_wp2_with (first
          | (go_at_call 82; refine (HIN.out _ GW1.out CW1.out).mono ?_; intro e w8 R8; obtain ⟨rfl, G8, C8⟩ := R8.no'; have HE := Hid.mk (And.intro (GW1.out.trans G8) C8); clear R8 G8 C8)
          | (go_at_call 81; refine UN.mono ?_; intro e w7 R7; obtain ⟨rfl, G7, C7⟩ := R7.yes'; have GW1 := Hid.mk (HG.out.trans G7); have CW1 := Hid.mk C7; have XW1 := HX.out.ge G7 nx; have z2 := XW1.cell 2; have z3 := XW1.cell 3; have z4 := XW1.cell 4; have z5 := XW1.cell 5; have z6 := XW1.cell 6; have z7 := XW1.cell 7; have z8 := XW1.cell 8; have z9 := XW1.cell 9; have z10 := XW1.cell 10; clear R7 G7 C7 XW1))
        go_ret
        exact ⟨rfl, HE.out.1, HE.out.2⟩
    | some r =>
      obtain ⟨ra, rc⟩ := r
      rw [U] at UN
      rw [orF_some]
      generalize l.length = k at *
      clear h C0 X0 K0 G0 IA0 IX H hn ox ea U HIN
      go_enter Tryz.func60, Tryz.ntmps60
      go_wp2_with (go_at_call 81; refine UN.mono ?_; intro e w7 R7; obtain ⟨rfl, G7, C7⟩ := R7.no'; have HE := Hid.mk (And.intro (HG.out.trans G7) C7); clear R7 G7 C7)
      go_ret
      exact ⟨rfl, HE.out.1, HE.out.2⟩
end Go.Proofs.YtbajpejnnfacbaaGreatDoor
