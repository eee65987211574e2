/- Package scope's checker: an alternative. -/
import Derived.Test.YtbajpejnnfacbaaGreatDoorPcm
namespace Go.Proofs.YtbajpejnnfacbaaGreatDoor
open Go.RowKit
open Go.Maps (Keyed string_keyed)
set_option linter.unusedVariables false
set_option linter.unusedSimpArgs false

theorem Res.up {w w' : World} {b f m nf n n' : Nat} {fl : Nm → Option Int} {bd : Nm → Nat} {F : Flt} {e : Ending} (h : Res w b f m nf n fl bd F e w') (k : n ≤ n') : Res w b f m nf n' fl bd F e w' := by
  rcases F with _ | ⟨a, c⟩
  · obtain ⟨h1, h2, h3⟩ := h; exact ⟨h1, h2, h3.mono k⟩
  · exact h
set_option maxRecDepth 100000 in
set_option maxHeartbeats 8000000 in
theorem palt_con (x : E) (H : PE x) {w : World} {b f m nf n : Nat} {ds : List D} {bd : Nm → Nat} (h : Cs w b f m nf n (arityN ds) bd) (a xn k1 xa xm : Int) (s : Nm) (xs : ByteArray) (h4 h9 h10 h11 h12 : Option Addr) (m4 m9 m10 m11 m12 z4 z9 z10 z11 z12 : Nat) (vs : List Nm)
    (R : IsRow w (but3 b f m) (strC vs) vs.length (.slice h4 m4 z4)) (e4 : vs.length = m4) (I : isE w (but3 b f m) x (exp8 k1 xa xm xs h9 h10 h11 h12 m9 m10 m11 m12 z9 z10 z11 z12).toList) (hs : s.length ≤ maxLen) (hv : ∀ s ∈ vs, s.length ≤ maxLen) (ox : okE x) (q : Bool) (t : Nat) (hn : n + 2 * (vs.length + 1 + nmE x) ≤ t) (ht : t ≤ 1000000000) :
    Calls Tryz.prog 135 #[ptr b, .agg (alt13 1 a xn k1 xa xm (str s) xs h4 h9 h10 h11 h12 m4 m9 m10 m11 m12 z4 z9 z10 z11 z12), .bool q] w (Res w b f m nf t (arityN ds) bd (orF (orF (conF a (arityN ds s) vs.length) (orF (unF a vs) (if q = true then some (a, 30) else none))) (chE ds prN tA (scD (plus bd vs)) x))) := by
  have K0 := Joins.below_alloc1 w (.cells (alt13 1 a xn k1 xa xm (str s) xs h4 h9 h10 h11 h12 m4 m9 m10 m11 m12 z4 z9 z10 z11 z12) 95)
  have X0 : Bx (w.alloc (.cells (alt13 1 a xn k1 xa xm (str s) xs h4 h9 h10 h11 h12 m4 m9 m10 m11 m12 z4 z9 z10 z11 z12) 95)) w.heap.size (alt13 1 a xn k1 xa xm (str s) xs h4 h9 h10 h11 h12 m4 m9 m10 m11 m12 z4 z9 z10 z11 z12) 95 := heap_alloc_new w _
  have G0 : Ge b f m w _ := Ge.of_below K0
  have C0 := h.later K0
  have nx := h.new (Nat.le_refl _)
  have GW0 := Hid.mk G0
  have CW0 := Hid.mk C0
  have XW := Hid.mk X0
  have y0 := X0.cell 0
  have y1 := X0.cell 1
  have y2 := X0.cell 2
  have y3 := X0.cell 3
  have y4 := X0.cell 4
  have y5 := X0.cell 5
  have y6 := X0.cell 6
  have y7 := X0.cell 7
  have y8 := X0.cell 8
  have y9 := X0.cell 9
  have y10 := X0.cell 10
  have y11 := X0.cell 11
  have y12 := X0.cell 12
  have FI := fits_any C0 s hs vs.length a
  have HUN := Hid.mk (fun (W : World) (k : Ge b f m w W) (CC : Cs W b f m nf n (arityN ds) bd) => unlike_any CC vs _ (R.keeps k.keeps) hv a)
  have HON := Hid.mk (fun (W : World) (k : Ge b f m w W) (CC : Cs W b f m nf n (arityN ds) bd) => onlyOne_any CC 1 a xn k1 xa xm (str s) xs h4 h9 h10 h11 h12 m4 m9 m10 m11 m12 z4 z9 z10 z11 z12 q)
  have HIN := Hid.mk (fun (W : World) (k : Ge b f m w W) (CC : Cs W b f m nf n (arityN ds) bd) => (inside_any x H CC (isE_keeps k.keeps _ _ I) ox vs _ (R.keeps k.keeps) hv (by omega)).mono (fun e w' r => r.up (show _ ≤ t by omega)))
  rw [e4] at FI ⊢
  cases U1 : conF a (arityN ds s) m4 with
  | some r =>
    obtain ⟨ra, rc⟩ := r
    rw [U1] at FI
    rw [orF_some, orF_some]
    clear h C0 X0 K0 G0 R I hv ox H hn U1 HUN HON HIN
    go_enter Tryz.func135, Tryz.ntmps135
    go_wp2_with (first
      | (go_at_call 129; refine (FI).mono ?_; intro e W8 R8; obtain ⟨rfl, G8, C8⟩ := R8.no'; have HE := Hid.mk (And.intro (GW0.out.trans G8) C8); clear R8 G8 C8))
    go_ret
    exact ⟨rfl, HE.out.1, HE.out.2⟩
  | none =>
    rw [U1] at FI
    rw [orF_left]
    cases U2 : unF a vs with
    | some r =>
      obtain ⟨ra, rc⟩ := r
      rw [U2] at HUN
      rw [orF_some, orF_some]
      clear h C0 X0 K0 G0 R I hv ox H hn U1 U2 HON HIN
      go_enter Tryz.func135, Tryz.ntmps135
      go_wp2_with (first
        | (go_at_call 81; refine (HUN.out _ GW1.out CW1.out).mono ?_; intro e W8 R8; obtain ⟨rfl, G8, C8⟩ := R8.no'; have HE := Hid.mk (And.intro (GW1.out.trans G8) C8); clear R8 G8 C8)
        | (go_at_call 129; refine (FI).mono ?_; intro e W8 R8; obtain ⟨rfl, G8, C8⟩ := R8.yes'; have GW1 := Hid.mk (GW0.out.trans G8); have CW1 := Hid.mk C8; replace XW := Hid.mk (XW.out.ge G8 nx); have u0 := XW.out.cell 0; have u1 := XW.out.cell 1; have u2 := XW.out.cell 2; have u3 := XW.out.cell 3; have u4 := XW.out.cell 4; have u5 := XW.out.cell 5; have u6 := XW.out.cell 6; have u7 := XW.out.cell 7; have u8 := XW.out.cell 8; have u9 := XW.out.cell 9; have u10 := XW.out.cell 10; have u11 := XW.out.cell 11; have u12 := XW.out.cell 12; clear R8 G8 C8))
      go_ret
      exact ⟨rfl, HE.out.1, HE.out.2⟩
    | none =>
      rw [U2] at HUN
      rw [orF_left]
      cases q with
      | true =>
        rw [if_pos rfl] at HON ⊢
        rw [orF_some]
        clear h C0 X0 K0 G0 R I hv ox H hn U1 U2 HIN
        go_enter Tryz.func135, Tryz.ntmps135
        go_wp2_with (first
          | (go_at_call 136; refine (HON.out _ GW2.out CW2.out).mono ?_; intro e W8 R8; obtain ⟨rfl, G8, C8⟩ := R8.no'; have HE := Hid.mk (And.intro (GW2.out.trans G8) C8); clear R8 G8 C8)
          | (go_at_call 81; refine (HUN.out _ GW1.out CW1.out).mono ?_; intro e W8 R8; obtain ⟨rfl, G8, C8⟩ := R8.yes'; have GW2 := Hid.mk (GW1.out.trans G8); have CW2 := Hid.mk C8; replace XW := Hid.mk (XW.out.ge G8 nx); have v0 := XW.out.cell 0; have v1 := XW.out.cell 1; have v2 := XW.out.cell 2; have v3 := XW.out.cell 3; have v4 := XW.out.cell 4; have v5 := XW.out.cell 5; have v6 := XW.out.cell 6; have v7 := XW.out.cell 7; have v8 := XW.out.cell 8; have v9 := XW.out.cell 9; have v10 := XW.out.cell 10; have v11 := XW.out.cell 11; have v12 := XW.out.cell 12; clear R8 G8 C8)
          | (go_at_call 129; refine (FI).mono ?_; intro e W8 R8; obtain ⟨rfl, G8, C8⟩ := R8.yes'; have GW1 := Hid.mk (GW0.out.trans G8); have CW1 := Hid.mk C8; replace XW := Hid.mk (XW.out.ge G8 nx); have u0 := XW.out.cell 0; have u1 := XW.out.cell 1; have u2 := XW.out.cell 2; have u3 := XW.out.cell 3; have u4 := XW.out.cell 4; have u5 := XW.out.cell 5; have u6 := XW.out.cell 6; have u7 := XW.out.cell 7; have u8 := XW.out.cell 8; have u9 := XW.out.cell 9; have u10 := XW.out.cell 10; have u11 := XW.out.cell 11; have u12 := XW.out.cell 12; clear R8 G8 C8))
        go_ret
        exact ⟨rfl, HE.out.1, HE.out.2⟩
      | false =>
        rw [if_neg (by simp)] at HON ⊢
        rw [orF_left]
        cases U3 : chE ds prN tA (scD (plus bd vs)) x with
        | some r =>
          obtain ⟨ra, rc⟩ := r
          rw [U3] at HIN
          clear h C0 X0 K0 G0 R I hv ox H hn U1 U2 U3
          go_enter Tryz.func135, Tryz.ntmps135
          go_wp2_with (first
            | (go_at_call 82; refine (HIN.out _ GW3.out CW3.out).mono ?_; intro e W8 R8; obtain ⟨rfl, G8, C8⟩ := R8.no'; have HE := Hid.mk (And.intro (GW3.out.trans G8) C8); clear R8 G8 C8)
            | (go_at_call 136; refine (HON.out _ GW2.out CW2.out).mono ?_; intro e W8 R8; obtain ⟨rfl, G8, C8⟩ := R8.yes'; have GW3 := Hid.mk (GW2.out.trans G8); have CW3 := Hid.mk C8; replace XW := Hid.mk (XW.out.ge G8 nx); have t0 := XW.out.cell 0; have t1 := XW.out.cell 1; have t2 := XW.out.cell 2; have t3 := XW.out.cell 3; have t4 := XW.out.cell 4; have t5 := XW.out.cell 5; have t6 := XW.out.cell 6; have t7 := XW.out.cell 7; have t8 := XW.out.cell 8; have t9 := XW.out.cell 9; have t10 := XW.out.cell 10; have t11 := XW.out.cell 11; have t12 := XW.out.cell 12; clear R8 G8 C8)
            | (go_at_call 81; refine (HUN.out _ GW1.out CW1.out).mono ?_; intro e W8 R8; obtain ⟨rfl, G8, C8⟩ := R8.yes'; have GW2 := Hid.mk (GW1.out.trans G8); have CW2 := Hid.mk C8; replace XW := Hid.mk (XW.out.ge G8 nx); have v0 := XW.out.cell 0; have v1 := XW.out.cell 1; have v2 := XW.out.cell 2; have v3 := XW.out.cell 3; have v4 := XW.out.cell 4; have v5 := XW.out.cell 5; have v6 := XW.out.cell 6; have v7 := XW.out.cell 7; have v8 := XW.out.cell 8; have v9 := XW.out.cell 9; have v10 := XW.out.cell 10; have v11 := XW.out.cell 11; have v12 := XW.out.cell 12; clear R8 G8 C8)
            | (go_at_call 129; refine (FI).mono ?_; intro e W8 R8; obtain ⟨rfl, G8, C8⟩ := R8.yes'; have GW1 := Hid.mk (GW0.out.trans G8); have CW1 := Hid.mk C8; replace XW := Hid.mk (XW.out.ge G8 nx); have u0 := XW.out.cell 0; have u1 := XW.out.cell 1; have u2 := XW.out.cell 2; have u3 := XW.out.cell 3; have u4 := XW.out.cell 4; have u5 := XW.out.cell 5; have u6 := XW.out.cell 6; have u7 := XW.out.cell 7; have u8 := XW.out.cell 8; have u9 := XW.out.cell 9; have u10 := XW.out.cell 10; have u11 := XW.out.cell 11; have u12 := XW.out.cell 12; clear R8 G8 C8))
          go_ret
          exact ⟨rfl, HE.out.1, HE.out.2⟩
        | none =>
          rw [U3] at HIN
          clear h C0 X0 K0 G0 R I hv ox H hn U1 U2 U3
          go_enter Tryz.func135, Tryz.ntmps135
          go_wp2_with (first
            | (go_at_call 82; refine (HIN.out _ GW3.out CW3.out).mono ?_; intro e W8 R8; obtain ⟨rfl, G8, C8⟩ := R8.yes'; have HE := Hid.mk (And.intro (GW3.out.trans G8) C8); clear R8 G8 C8)
            | (go_at_call 136; refine (HON.out _ GW2.out CW2.out).mono ?_; intro e W8 R8; obtain ⟨rfl, G8, C8⟩ := R8.yes'; have GW3 := Hid.mk (GW2.out.trans G8); have CW3 := Hid.mk C8; replace XW := Hid.mk (XW.out.ge G8 nx); have t0 := XW.out.cell 0; have t1 := XW.out.cell 1; have t2 := XW.out.cell 2; have t3 := XW.out.cell 3; have t4 := XW.out.cell 4; have t5 := XW.out.cell 5; have t6 := XW.out.cell 6; have t7 := XW.out.cell 7; have t8 := XW.out.cell 8; have t9 := XW.out.cell 9; have t10 := XW.out.cell 10; have t11 := XW.out.cell 11; have t12 := XW.out.cell 12; clear R8 G8 C8)
            | (go_at_call 81; refine (HUN.out _ GW1.out CW1.out).mono ?_; intro e W8 R8; obtain ⟨rfl, G8, C8⟩ := R8.yes'; have GW2 := Hid.mk (GW1.out.trans G8); have CW2 := Hid.mk C8; replace XW := Hid.mk (XW.out.ge G8 nx); have v0 := XW.out.cell 0; have v1 := XW.out.cell 1; have v2 := XW.out.cell 2; have v3 := XW.out.cell 3; have v4 := XW.out.cell 4; have v5 := XW.out.cell 5; have v6 := XW.out.cell 6; have v7 := XW.out.cell 7; have v8 := XW.out.cell 8; have v9 := XW.out.cell 9; have v10 := XW.out.cell 10; have v11 := XW.out.cell 11; have v12 := XW.out.cell 12; clear R8 G8 C8)
            | (go_at_call 129; refine (FI).mono ?_; intro e W8 R8; obtain ⟨rfl, G8, C8⟩ := R8.yes'; have GW1 := Hid.mk (GW0.out.trans G8); have CW1 := Hid.mk C8; replace XW := Hid.mk (XW.out.ge G8 nx); have u0 := XW.out.cell 0; have u1 := XW.out.cell 1; have u2 := XW.out.cell 2; have u3 := XW.out.cell 3; have u4 := XW.out.cell 4; have u5 := XW.out.cell 5; have u6 := XW.out.cell 6; have u7 := XW.out.cell 7; have u8 := XW.out.cell 8; have u9 := XW.out.cell 9; have u10 := XW.out.cell 10; have u11 := XW.out.cell 11; have u12 := XW.out.cell 12; clear R8 G8 C8))
          go_ret
          exact ⟨rfl, HE.out.1, HE.out.2⟩
set_option maxRecDepth 100000 in
set_option maxHeartbeats 8000000 in
theorem palt_int (x : E) (H : PE x) {w : World} {b f m nf n : Nat} {ds : List D} {bd : Nm → Nat} (h : Cs w b f m nf n (arityN ds) bd) (a xn k1 xa xm : Int) (s : Nm) (xs : ByteArray) (h4 h9 h10 h11 h12 : Option Addr) (m4 m9 m10 m11 m12 z4 z9 z10 z11 z12 : Nat) (vs : List Nm)
    (R : IsRow w (but3 b f m) (strC vs) vs.length (.slice h4 m4 z4)) (e4 : vs.length = m4) (I : isE w (but3 b f m) x (exp8 k1 xa xm xs h9 h10 h11 h12 m9 m10 m11 m12 z9 z10 z11 z12).toList) (hs : s.length ≤ maxLen) (hv : ∀ s ∈ vs, s.length ≤ maxLen) (ox : okE x) (q : Bool) (t : Nat) (hn : n + 2 * (vs.length + 1 + nmE x) ≤ t) (ht : t ≤ 1000000000) :
    Calls Tryz.prog 135 #[ptr b, .agg (alt13 2 a xn k1 xa xm (str s) xs h4 h9 h10 h11 h12 m4 m9 m10 m11 m12 z4 z9 z10 z11 z12), .bool q] w (Res w b f m nf t (arityN ds) bd (orF (if q = true then some (a, 30) else none) (chE ds prN tA (scD bd) x))) := by
  have K0 := Joins.below_alloc1 w (.cells (alt13 2 a xn k1 xa xm (str s) xs h4 h9 h10 h11 h12 m4 m9 m10 m11 m12 z4 z9 z10 z11 z12) 95)
  have X0 : Bx (w.alloc (.cells (alt13 2 a xn k1 xa xm (str s) xs h4 h9 h10 h11 h12 m4 m9 m10 m11 m12 z4 z9 z10 z11 z12) 95)) w.heap.size (alt13 2 a xn k1 xa xm (str s) xs h4 h9 h10 h11 h12 m4 m9 m10 m11 m12 z4 z9 z10 z11 z12) 95 := heap_alloc_new w _
  have G0 : Ge b f m w _ := Ge.of_below K0
  have C0 := h.later K0
  have nx := h.new (Nat.le_refl _)
  have GW0 := Hid.mk G0
  have CW0 := Hid.mk C0
  have XW := Hid.mk X0
  have y0 := X0.cell 0
  have y1 := X0.cell 1
  have y2 := X0.cell 2
  have y3 := X0.cell 3
  have y4 := X0.cell 4
  have y5 := X0.cell 5
  have y6 := X0.cell 6
  have y7 := X0.cell 7
  have y8 := X0.cell 8
  have y9 := X0.cell 9
  have y10 := X0.cell 10
  have y11 := X0.cell 11
  have y12 := X0.cell 12
  have HON := Hid.mk (fun (W : World) (k : Ge b f m w W) (CC : Cs W b f m nf n (arityN ds) bd) => onlyOne_any CC 2 a xn k1 xa xm (str s) xs h4 h9 h10 h11 h12 m4 m9 m10 m11 m12 z4 z9 z10 z11 z12 q)
  have HIN := Hid.mk (fun (W : World) (k : Ge b f m w W) (CC : Cs W b f m nf n (arityN ds) bd) => (H W b f m nf n ds bd _ CC (isE_keeps k.keeps _ _ I) ox (by omega)).mono (fun e w' r => r.up (show _ ≤ t by omega)))
  cases q with
  | true =>
    rw [if_pos rfl] at HON ⊢
    rw [orF_some]
    clear h C0 X0 K0 G0 R I hv ox H hn HIN
    go_enter Tryz.func135, Tryz.ntmps135
    go_wp2_with (first
      | (go_at_call 136; refine (HON.out _ GW0.out CW0.out).mono ?_; intro e W8 R8; obtain ⟨rfl, G8, C8⟩ := R8.no'; have HE := Hid.mk (And.intro (GW0.out.trans G8) C8); clear R8 G8 C8))
    go_ret
    exact ⟨rfl, HE.out.1, HE.out.2⟩
  | false =>
    rw [if_neg (by simp)] at HON ⊢
    rw [orF_left]
    cases U3 : chE ds prN tA (scD bd) x with
    | some r =>
      obtain ⟨ra, rc⟩ := r
      rw [U3] at HIN
      clear h C0 X0 K0 G0 R I hv ox H hn U3
      go_enter Tryz.func135, Tryz.ntmps135
      go_wp2_with (first
        | (go_at_call 108; refine (HIN.out _ GW1.out CW1.out).mono ?_; intro e W8 R8; obtain ⟨rfl, G8, C8⟩ := R8.no'; have HE := Hid.mk (And.intro (GW1.out.trans G8) C8); clear R8 G8 C8)
        | (go_at_call 136; refine (HON.out _ GW0.out CW0.out).mono ?_; intro e W8 R8; obtain ⟨rfl, G8, C8⟩ := R8.yes'; have GW1 := Hid.mk (GW0.out.trans G8); have CW1 := Hid.mk C8; replace XW := Hid.mk (XW.out.ge G8 nx); have u0 := XW.out.cell 0; have u1 := XW.out.cell 1; have u2 := XW.out.cell 2; have u3 := XW.out.cell 3; have u4 := XW.out.cell 4; have u5 := XW.out.cell 5; have u6 := XW.out.cell 6; have u7 := XW.out.cell 7; have u8 := XW.out.cell 8; have u9 := XW.out.cell 9; have u10 := XW.out.cell 10; have u11 := XW.out.cell 11; have u12 := XW.out.cell 12; clear R8 G8 C8))
      go_ret
      exact ⟨rfl, HE.out.1, HE.out.2⟩
    | none =>
      rw [U3] at HIN
      clear h C0 X0 K0 G0 R I hv ox H hn U3
      go_enter Tryz.func135, Tryz.ntmps135
      go_wp2_with (first
        | (go_at_call 108; refine (HIN.out _ GW1.out CW1.out).mono ?_; intro e W8 R8; obtain ⟨rfl, G8, C8⟩ := R8.yes'; have HE := Hid.mk (And.intro (GW1.out.trans G8) C8); clear R8 G8 C8)
        | (go_at_call 136; refine (HON.out _ GW0.out CW0.out).mono ?_; intro e W8 R8; obtain ⟨rfl, G8, C8⟩ := R8.yes'; have GW1 := Hid.mk (GW0.out.trans G8); have CW1 := Hid.mk C8; replace XW := Hid.mk (XW.out.ge G8 nx); have u0 := XW.out.cell 0; have u1 := XW.out.cell 1; have u2 := XW.out.cell 2; have u3 := XW.out.cell 3; have u4 := XW.out.cell 4; have u5 := XW.out.cell 5; have u6 := XW.out.cell 6; have u7 := XW.out.cell 7; have u8 := XW.out.cell 8; have u9 := XW.out.cell 9; have u10 := XW.out.cell 10; have u11 := XW.out.cell 11; have u12 := XW.out.cell 12; clear R8 G8 C8))
      go_ret
      exact ⟨rfl, HE.out.1, HE.out.2⟩
set_option maxRecDepth 100000 in
set_option maxHeartbeats 8000000 in
theorem palt_none (k : Int) (hk : k ≠ 1 ∧ k ≠ 2 ∧ k ≠ 3) (x : E) (H : PE x) {w : World} {b f m nf n : Nat} {ds : List D} {bd : Nm → Nat} (h : Cs w b f m nf n (arityN ds) bd) (a xn k1 xa xm : Int) (s : Nm) (xs : ByteArray) (h4 h9 h10 h11 h12 : Option Addr) (m4 m9 m10 m11 m12 z4 z9 z10 z11 z12 : Nat) (vs : List Nm)
    (R : IsRow w (but3 b f m) (strC vs) vs.length (.slice h4 m4 z4)) (e4 : vs.length = m4) (I : isE w (but3 b f m) x (exp8 k1 xa xm xs h9 h10 h11 h12 m9 m10 m11 m12 z9 z10 z11 z12).toList) (hs : s.length ≤ maxLen) (hv : ∀ s ∈ vs, s.length ≤ maxLen) (ox : okE x) (q : Bool) (t : Nat) (hn : n + 2 * (vs.length + 1 + nmE x) ≤ t) (ht : t ≤ 1000000000) :
    Calls Tryz.prog 135 #[ptr b, .agg (alt13 k a xn k1 xa xm (str s) xs h4 h9 h10 h11 h12 m4 m9 m10 m11 m12 z4 z9 z10 z11 z12), .bool q] w (Res w b f m nf t (arityN ds) bd (some (a, 2))) := by
  have K0 := Joins.below_alloc1 w (.cells (alt13 k a xn k1 xa xm (str s) xs h4 h9 h10 h11 h12 m4 m9 m10 m11 m12 z4 z9 z10 z11 z12) 95)
  have X0 : Bx (w.alloc (.cells (alt13 k a xn k1 xa xm (str s) xs h4 h9 h10 h11 h12 m4 m9 m10 m11 m12 z4 z9 z10 z11 z12) 95)) w.heap.size (alt13 k a xn k1 xa xm (str s) xs h4 h9 h10 h11 h12 m4 m9 m10 m11 m12 z4 z9 z10 z11 z12) 95 := heap_alloc_new w _
  have G0 : Ge b f m w _ := Ge.of_below K0
  have C0 := h.later K0
  have nx := h.new (Nat.le_refl _)
  have GW0 := Hid.mk G0
  have CW0 := Hid.mk C0
  have XW := Hid.mk X0
  have y0 := X0.cell 0
  have y1 := X0.cell 1
  have y2 := X0.cell 2
  have y3 := X0.cell 3
  have y4 := X0.cell 4
  have y5 := X0.cell 5
  have y6 := X0.cell 6
  have y7 := X0.cell 7
  have y8 := X0.cell 8
  have y9 := X0.cell 9
  have y10 := X0.cell 10
  have y11 := X0.cell 11
  have y12 := X0.cell 12
  have k1' : (k == 1) = false := beq_eq_false_iff_ne.2 hk.1
  have k2' : (k == 2) = false := beq_eq_false_iff_ne.2 hk.2.1
  have k3' : (k == 3) = false := beq_eq_false_iff_ne.2 hk.2.2
  clear h C0 X0 K0 G0 R I hv ox H hn hk
  go_enter Tryz.func135, Tryz.ntmps135
  go_wp2_with (first
    | (go_at_call 45; refine (pfail_any CW0.out a _).mono ?_; rintro e w8 ⟨rfl, G8, C8⟩; have HE := Hid.mk (And.intro (GW0.out.trans G8) C8); clear G8 C8))
  go_ret
  exact ⟨rfl, HE.out.1, HE.out.2⟩
theorem one_row3 (w : World) {ok : Nat → Prop} (s : Nm) (h : ok w.heap.size) : IsRow (w.alloc (.cells #[.string (str s)] 9)) ok (strC [s]) [s].length (.slice (some ⟨w.heap.size, 0, none⟩) 1 1) := by
  refine ⟨_, 1, rfl, ⟨by simp, by simp⟩, fun _ => ⟨w.heap.size, 0, rfl, h, fun j u hj => ?_⟩⟩
  rw [Nat.zero_add]
  have := Joins.cell_of_block (heap_alloc_new w (.cells #[.string (str s)] 9)) j
  rw [this]
  simpa [strC] using hj
set_option maxRecDepth 100000 in
set_option maxHeartbeats 8000000 in
theorem palt_all (x : E) (H : PE x) {w : World} {b f m nf n : Nat} {ds : List D} {bd : Nm → Nat} (h : Cs w b f m nf n (arityN ds) bd) (a xn k1 xa xm : Int) (s : Nm) (xs : ByteArray) (h4 h9 h10 h11 h12 : Option Addr) (m4 m9 m10 m11 m12 z4 z9 z10 z11 z12 : Nat) (vs : List Nm)
    (R : IsRow w (but3 b f m) (strC vs) vs.length (.slice h4 m4 z4)) (e4 : vs.length = m4) (I : isE w (but3 b f m) x (exp8 k1 xa xm xs h9 h10 h11 h12 m9 m10 m11 m12 z9 z10 z11 z12).toList) (hs : s.length ≤ maxLen) (hv : ∀ s ∈ vs, s.length ≤ maxLen) (ox : okE x) (q : Bool) (t : Nat) (hn : n + 2 * (vs.length + 1 + nmE x) ≤ t) (ht : t ≤ 1000000000) :
    Calls Tryz.prog 135 #[ptr b, .agg (alt13 3 a xn k1 xa xm (str s) xs h4 h9 h10 h11 h12 m4 m9 m10 m11 m12 z4 z9 z10 z11 z12), .bool q] w (Res w b f m nf t (arityN ds) bd (orF (unF a [s]) (chE ds prN tA (scD (plus bd [s])) x))) := by
  have K0 := Joins.below_alloc1 w (.cells (alt13 3 a xn k1 xa xm (str s) xs h4 h9 h10 h11 h12 m4 m9 m10 m11 m12 z4 z9 z10 z11 z12) 95)
  have X0 : Bx (w.alloc (.cells (alt13 3 a xn k1 xa xm (str s) xs h4 h9 h10 h11 h12 m4 m9 m10 m11 m12 z4 z9 z10 z11 z12) 95)) w.heap.size (alt13 3 a xn k1 xa xm (str s) xs h4 h9 h10 h11 h12 m4 m9 m10 m11 m12 z4 z9 z10 z11 z12) 95 := heap_alloc_new w _
  have G0 : Ge b f m w _ := Ge.of_below K0
  have C0 := h.later K0
  have nx := h.new (Nat.le_refl _)
  have y0 := X0.cell 0
  have y1 := X0.cell 1
  have y2 := X0.cell 2
  have y3 := X0.cell 3
  have y4 := X0.cell 4
  have y5 := X0.cell 5
  have y6 := X0.cell 6
  have y7 := X0.cell 7
  have y8 := X0.cell 8
  have y9 := X0.cell 9
  have y10 := X0.cell 10
  have y11 := X0.cell 11
  have y12 := X0.cell 12
  have K1 := Joins.below_alloc1 (w.alloc (.cells (alt13 3 a xn k1 xa xm (str s) xs h4 h9 h10 h11 h12 m4 m9 m10 m11 m12 z4 z9 z10 z11 z12) 95)) (.cells #[.string (str s)] 9)
  have GW0 := Hid.mk (G0.trans (Ge.of_below K1))
  have CW0 := Hid.mk (C0.later K1)
  have XW : Hid (Bx ((w.alloc (.cells (alt13 3 a xn k1 xa xm (str s) xs h4 h9 h10 h11 h12 m4 m9 m10 m11 m12 z4 z9 z10 z11 z12) 95)).alloc (.cells #[.string (str s)] 9)) w.heap.size (alt13 3 a xn k1 xa xm (str s) xs h4 h9 h10 h11 h12 m4 m9 m10 m11 m12 z4 z9 z10 z11 z12) 95) := ⟨(K1.block _ X0.lt).trans X0⟩
  have RR := one_row3 (w.alloc (.cells (alt13 3 a xn k1 xa xm (str s) xs h4 h9 h10 h11 h12 m4 m9 m10 m11 m12 z4 z9 z10 z11 z12) 95)) (ok := but3 b f m) s (C0.new (Nat.le_refl _))
  rw [World.size_alloc] at RR
  have s0 := XW.out.cell 0
  have s1 := XW.out.cell 1
  have s2 := XW.out.cell 2
  have s3 := XW.out.cell 3
  have s4 := XW.out.cell 4
  have s5 := XW.out.cell 5
  have s6 := XW.out.cell 6
  have s7 := XW.out.cell 7
  have s8 := XW.out.cell 8
  have s9 := XW.out.cell 9
  have s10 := XW.out.cell 10
  have s11 := XW.out.cell 11
  have s12 := XW.out.cell 12
  have UN := unlike_any CW0.out [s] _ RR (fun y hy => by rw [List.mem_singleton.1 hy]; exact hs) a
  have HIN := Hid.mk (fun (W : World) (k : Ge b f m ((w.alloc (.cells (alt13 3 a xn k1 xa xm (str s) xs h4 h9 h10 h11 h12 m4 m9 m10 m11 m12 z4 z9 z10 z11 z12) 95)).alloc (.cells #[.string (str s)] 9)) W) (CC : Cs W b f m nf n (arityN ds) bd) => (inside_any x H CC (isE_keeps (GW0.out.trans k).keeps _ _ I) ox [s] _ (RR.keeps k.keeps) (fun y hy => by rw [List.mem_singleton.1 hy]; exact hs) (by simp only [List.length_singleton]; omega)).mono (fun e w' r => r.up (show _ ≤ t by simp only [List.length_singleton]; omega)))
  cases U2 : unF a [s] with
  | some r =>
    obtain ⟨ra, rc⟩ := r
    rw [U2] at UN
    rw [orF_some]
    clear h C0 X0 K0 K1 G0 R I hv ox H hn U2 HIN RR
    go_enter Tryz.func135, Tryz.ntmps135
    go_wp2_with (first
      | (go_at_call 81; refine (UN).mono ?_; intro e W8 R8; obtain ⟨rfl, G8, C8⟩ := R8.no'; have HE := Hid.mk (And.intro (GW0.out.trans G8) C8); clear R8 G8 C8))
    go_ret
    exact ⟨rfl, HE.out.1, HE.out.2⟩
  | none =>
    rw [U2] at UN
    rw [orF_left]
    cases U3 : chE ds prN tA (scD (plus bd [s])) x with
    | some r =>
      obtain ⟨ra, rc⟩ := r
      rw [U3] at HIN
      clear h C0 X0 K0 K1 G0 R I hv ox H hn U2 U3 RR
      go_enter Tryz.func135, Tryz.ntmps135
      go_wp2_with (first
        | (go_at_call 82; refine (HIN.out _ GS.out CW1.out).mono ?_; intro e W8 R8; obtain ⟨rfl, G8, C8⟩ := R8.no'; have HE := Hid.mk (And.intro (GW1.out.trans G8) C8); clear R8 G8 C8)
        | (go_at_call 81; refine (UN).mono ?_; intro e W8 R8; obtain ⟨rfl, G8, C8⟩ := R8.yes'; have GS := Hid.mk G8; have GW1 := Hid.mk (GW0.out.trans G8); have CW1 := Hid.mk C8; replace XW := Hid.mk (XW.out.ge G8 nx); have u0 := XW.out.cell 0; have u1 := XW.out.cell 1; have u2 := XW.out.cell 2; have u3 := XW.out.cell 3; have u4 := XW.out.cell 4; have u5 := XW.out.cell 5; have u6 := XW.out.cell 6; have u7 := XW.out.cell 7; have u8 := XW.out.cell 8; have u9 := XW.out.cell 9; have u10 := XW.out.cell 10; have u11 := XW.out.cell 11; have u12 := XW.out.cell 12; clear R8 G8 C8))
      go_ret
      exact ⟨rfl, HE.out.1, HE.out.2⟩
    | none =>
      rw [U3] at HIN
      clear h C0 X0 K0 K1 G0 R I hv ox H hn U2 U3 RR
      go_enter Tryz.func135, Tryz.ntmps135
      go_wp2_with (first
        | (go_at_call 82; refine (HIN.out _ GS.out CW1.out).mono ?_; intro e W8 R8; obtain ⟨rfl, G8, C8⟩ := R8.yes'; have HE := Hid.mk (And.intro (GW1.out.trans G8) C8); clear R8 G8 C8)
        | (go_at_call 81; refine (UN).mono ?_; intro e W8 R8; obtain ⟨rfl, G8, C8⟩ := R8.yes'; have GS := Hid.mk G8; have GW1 := Hid.mk (GW0.out.trans G8); have CW1 := Hid.mk C8; replace XW := Hid.mk (XW.out.ge G8 nx); have u0 := XW.out.cell 0; have u1 := XW.out.cell 1; have u2 := XW.out.cell 2; have u3 := XW.out.cell 3; have u4 := XW.out.cell 4; have u5 := XW.out.cell 5; have u6 := XW.out.cell 6; have u7 := XW.out.cell 7; have u8 := XW.out.cell 8; have u9 := XW.out.cell 9; have u10 := XW.out.cell 10; have u11 := XW.out.cell 11; have u12 := XW.out.cell 12; clear R8 G8 C8))
      go_ret
      exact ⟨rfl, HE.out.1, HE.out.2⟩
end Go.Proofs.YtbajpejnnfacbaaGreatDoor
