/- Package scope's checker: an XLet. -/
import Derived.Test.YtbajpejnnfacbaaGreatDoorPcl
namespace Go.Proofs.YtbajpejnnfacbaaGreatDoor
open Go.RowKit
open Go.Maps (Keyed string_keyed)
set_option linter.unusedVariables false
set_option linter.unusedSimpArgs false

/-- the first of some expressions lies at the head of its row -/
theorem head_cells {w : World} {ok : Nat → Prop} {ks : List E} {xk : List Value} {g6 : Option Addr} {c6 : Nat} (R : IsRow w ok xk ks.length (.slice g6 ks.length c6)) (RK : isEs w ok ks xk) (h : 0 < ks.length) :
    ∃ (p off : Nat) (kk ka km : Int) (kn : ByteArray) (h4 h5 h6 h7 : Option Addr) (m4 m5 m6 m7 z4 z5 z6 z7 : Nat), g6 = some ⟨p, off, none⟩ ∧ ok p ∧ isE w ok (ks[0]'h) (exp8 kk ka km kn h4 h5 h6 h7 m4 m5 m6 m7 z4 z5 z6 z7).toList ∧ ∀ (j : Nat) (u : Value), (exp8 kk ka km kn h4 h5 h6 h7 m4 m5 m6 m7 z4 z5 z6 z7).toList[j]? = some u → w.cell? ⟨p, off + j, none⟩ = some u := by
  obtain ⟨ga, cap, e, hc, hx⟩ := R
  simp only [Value.slice.injEq] at e
  obtain ⟨rfl, _, rfl⟩ := e
  obtain ⟨p, off, rfl, hp, hx⟩ := hx h
  obtain ⟨d, hd, hg⟩ := isEs_get ks xk RK 0 h
  obtain ⟨kk, ka, km, kn, h4, h5, h6, h7, m4, m5, m6, m7, z4, z5, z6, z7, rfl⟩ := isE_eight hd
  refine ⟨p, off, kk, ka, km, kn, h4, h5, h6, h7, m4, m5, m6, m7, z4, z5, z6, z7, rfl, hp, hd, fun j u hj => ?_⟩
  have := hg j u hj
  rw [Nat.zero_mul, Nat.zero_add] at this
  exact hx j u this
set_option maxRecDepth 100000 in
set_option maxHeartbeats 8000000 in
theorem plet_any (bs : List B) (ks : List E) (HB : ∀ x ∈ bs, PB x) (HK : ∀ x ∈ ks, PE x) {w : World} {b f m nf n : Nat} {ds : List D} {bd : Nm → Nat} (h : Cs w b f m nf n (arityN ds) bd) (xk a xm : Int) (s : Nm) (g4 g5 g6 g7 : Option Addr) (n4 n5 n6 n7 c4 c5 c6 c7 : Nat) (xb xks : List Value)
    (e5 : bs.length = n5) (e6 : ks.length = n6) (RB : IsRow w (but3 b f m) xb bs.length (.slice g5 bs.length c5)) (IB : isBs w (but3 b f m) bs xb) (RK : IsRow w (but3 b f m) xks ks.length (.slice g6 ks.length c6)) (IK : isEs w (but3 b f m) ks xks) (ob : okBs bs) (oe : okEs ks) (t : Nat) (hn : n + 2 * bs.length + 2 * nmBs bs + 2 * nmEs ks ≤ t) (ht : t ≤ 1000000000) :
    Calls Tryz.prog 121 #[ptr b, .agg (exp8 xk a xm (str s) g4 g5 g6 g7 n4 n5 n6 n7 c4 c5 c6 c7)] w (Res w b f m nf t (arityN ds) bd (if bs.length = 0 ∨ ks.length = 0 then some (a, 2) else orF (namF [] bs) (orF (chBs ds prN tA (fun x => scD bd x || (bs.map nameB').contains x) bs) (chK ds prN tA (fun x => scD bd x || (bs.map nameB').contains x) ks)))) := by
  have K0 := Joins.below_alloc1 w (.cells (exp8 xk a xm (str s) g4 g5 g6 g7 n4 n5 n6 n7 c4 c5 c6 c7) 53)
  have X0 : Bx (w.alloc (.cells (exp8 xk a xm (str s) g4 g5 g6 g7 n4 n5 n6 n7 c4 c5 c6 c7) 53)) w.heap.size (exp8 xk a xm (str s) g4 g5 g6 g7 n4 n5 n6 n7 c4 c5 c6 c7) 53 := heap_alloc_new w _
  have G0 : Ge b f m w _ := Ge.of_below K0
  have C0 := h.later K0
  have nx := h.new (Nat.le_refl _)
  have y1 := X0.cell 1
  have y5 := X0.cell 5
  have y6 := X0.cell 6
  have GW := Hid.mk G0
  have CW := Hid.mk C0
  have XW := Hid.mk X0
  by_cases q5 : bs.length = 0
  · rw [if_pos (.inl q5)]
    obtain rfl : n5 = 0 := by omega
    clear h C0 X0 K0 G0 RB IB RK IK ob oe HB HK hn
    go_enter Tryz.func121, Tryz.ntmps121
    go_wp2_with (go_at_call 45; refine (pfail_any CW.out a _).mono ?_; rintro e w8 ⟨rfl, G8, C8⟩; have HE := Hid.mk (And.intro (GW.out.trans G8) C8); clear G8 C8)
    go_ret
    exact ⟨rfl, HE.out.1, HE.out.2⟩
  · have b5 : (((n5 : Nat) : Int) == 0) = false := beq_eq_false_iff_ne.2 (by omega)
    by_cases q6 : ks.length = 0
    · rw [if_pos (.inr q6)]
      obtain rfl : n6 = 0 := by omega
      clear h C0 X0 K0 G0 RB IB RK IK ob oe HB HK hn
      go_enter Tryz.func121, Tryz.ntmps121
      go_wp2_with (go_at_call 45; refine (pfail_any CW.out a _).mono ?_; rintro e w8 ⟨rfl, G8, C8⟩; have HE := Hid.mk (And.intro (GW.out.trans G8) C8); clear G8 C8)
      go_ret
      exact ⟨rfl, HE.out.1, HE.out.2⟩
    · rw [if_neg (by omega)]
      have b6 : (((n6 : Nat) : Int) == 0) = false := beq_eq_false_iff_ne.2 (by omega)
      have kp : 0 < ks.length := by omega
      obtain ⟨names, hnm⟩ : ∃ names, bs.map nameB' = names := ⟨_, rfl⟩
      have kk' : names.length = bs.length := by rw [← hnm, List.length_map]
      have hsm : ∀ s ∈ names, s.length ≤ maxLen := fun s hs => by
        rw [← hnm] at hs
        obtain ⟨x, hx, rfl⟩ := List.mem_map.1 hs
        have := okBs_mem ob x hx
        obtain ⟨nm, a, al, y⟩ := x
        simp only [okB] at this
        exact this.1
      have GR := group_any bs HB C0 _ xb (RB.keeps G0.keeps) (isBs_keeps G0.keeps _ _ IB) ob (by omega)
      rw [hnm] at GR
      have NO := fun (W : World) (k : Ge b f m w W) => namesOf_any (w := W) bs _ xb (RB.keeps k.keeps) (isBs_keeps k.keeps _ _ IB)
      rw [hnm] at NO
      obtain ⟨p, off, kk, ka, km, kn, h4, h5, h6, h7, m4, m5, m6, m7, z4, z5, z6, z7, rfl, hp, IK0, hx⟩ := head_cells RK IK kp
      have hmk := List.getElem_mem kp
      have hle := nmEs_le ks 0 kp
      have HX := Hid.mk (fun (W : World) (k : Ge b f m w W) (CC : Cs W b f m nf (n + bs.length + 2 * nmBs bs) (arityN ds) (plus bd names)) => HK _ hmk W b f m nf _ ds _ _ CC (isE_keeps k.keeps _ _ IK0) (okEs_mem oe _ hmk) (by omega))
      have HCL := Hid.mk (fun (W : World) (k : Ge b f m w W) (j : Nat) (u : Value) (hj : (exp8 kk ka km kn h4 h5 h6 h7 m4 m5 m6 m7 z4 z5 z6 z7).toList[j]? = some u) => k.keeps.cell p _ _ hp (hx j u hj))
      have eK : chK ds prN tA (scD (plus bd names)) ks = chE ds prN tA (scD (plus bd names)) (ks[0]'kp) := by
        cases ks with
        | nil => simp at kp
        | cons y r => rw [chK]; rfl
      rw [hnm, ← scD_plus, ← orF_assoc, eK]
      simp only [e5] at GR NO HX
      have HNO := Hid.mk NO
      have HSM := Hid.mk hsm
      have HNL : Hid (names.length = n5) := ⟨kk'.trans e5⟩
      have l5 : n5 ≤ 1000000000 := by omega
      have HLV := Hid.mk (fun (W : World) (CC : Cs W b f m nf (n + n5 + 2 * nmBs bs + 2 * nmE (ks[0]'kp)) (arityN ds) (plus bd names)) (vn : Value) (RR : IsRow W (but3 b f m) (strC names) names.length vn) => pleave_any (bd := bd) names CC vn RR hsm (by omega))
      have htt : n + n5 + 2 * nmBs bs + 2 * nmE (ks[0]'kp) + names.length ≤ t := by omega
      generalize nmBs bs = nb at *
      generalize nmE (ks[0]'kp) = ne at *
      generalize chE ds prN tA (scD (plus bd names)) (ks[0]'kp) = F2 at *
      generalize orF (namF [] bs) (chBs ds prN tA (scD (plus bd names)) bs) = F1 at *
      have l6 : 0 < n6 := by omega
      have l6' : (0 : Int) < n6 := by omega
      clear h C0 X0 K0 G0 RB IB RK IK ob oe HB HK hn NO hsm kk' hnm hmk hle hx IK0 eK q5 q6 hp
      cases F1 with
      | some r =>
        obtain ⟨ra, rc⟩ := r
        rw [orF_some]
        go_enter Tryz.func121, Tryz.ntmps121
        go_wp2_with (go_at_call 43; refine GR.mono ?_; intro e w8 R8; obtain ⟨rfl, G8, C8⟩ := R8.no'; have HE := Hid.mk (And.intro (GW.out.trans G8) C8); clear R8 G8 C8)
        go_ret
        exact ⟨rfl, HE.out.1, HE.out.2⟩
      | none =>
        rw [orF_left]
        cases F2 with
        | some r =>
          obtain ⟨ra, rc⟩ := r
          go_enter Tryz.func121, Tryz.ntmps121
          go_wp2_with (first
            | (go_at_call 108; refine EX.mono ?_; intro e w9 R9; obtain ⟨rfl, G9, C9⟩ := R9.no'; have HE := Hid.mk (And.intro (GW1.out.trans G9) C9); clear R9 G9 C9 EX)
            | (go_at_call 43; refine GR.mono ?_; intro e w8 R8; obtain ⟨rfl, G8, C8⟩ := R8.yes'; have GW1 := Hid.mk (GW.out.trans G8); replace XW := Hid.mk (XW.out.ge G8 nx); have u6 := XW.out.cell 6; have EX := HX.out _ GW1.out C8; have v0 := HCL.out _ GW1.out 0 _ rfl; have v1 := HCL.out _ GW1.out 1 _ rfl; have v2 := HCL.out _ GW1.out 2 _ rfl; have v3 := HCL.out _ GW1.out 3 _ rfl; have v4 := HCL.out _ GW1.out 4 _ rfl; have v5 := HCL.out _ GW1.out 5 _ rfl; have v6 := HCL.out _ GW1.out 6 _ rfl; have v7 := HCL.out _ GW1.out 7 _ rfl; rw [Nat.add_zero] at v0; clear R8 G8 C8))
          go_ret
          exact ⟨rfl, HE.out.1, HE.out.2⟩
        | none =>
          go_enter Tryz.func121, Tryz.ntmps121
          go_wp2_with (first
            | (go_at_call 109; refine LV.mono ?_; rintro e w11 ⟨rfl, G11, C11⟩; have HE := Hid.mk (And.intro (GW3.out.trans G11) (C11.mono htt)); clear G11 C11 LV)
            | (go_at_call 59; refine NN.mono ?_; rintro e w10 ⟨vn, rfl, B10, NW⟩; have GW3 := Hid.mk (GW2.out.trans (Ge.of_below (b := b) (f := f) (m := m) B10)); have LV := HLV.out _ (CW2.out.later B10) vn (NW.row (by rw [HNL.out]; exact l5) (fun g hg => CW2.out.new hg)); clear B10 NW NN)
            | (go_at_call 108; refine EX.mono ?_; intro e w9 R9; obtain ⟨rfl, G9, C9⟩ := R9.yes'; have GW2 := Hid.mk (GW1.out.trans G9); have CW2 := Hid.mk C9; have NN := HNO.out _ GW2.out; replace XW := Hid.mk (XW.out.ge G9 nx); have t5 := XW.out.cell 5; clear R9 G9 C9 EX)
            | (go_at_call 43; refine GR.mono ?_; intro e w8 R8; obtain ⟨rfl, G8, C8⟩ := R8.yes'; have GW1 := Hid.mk (GW.out.trans G8); replace XW := Hid.mk (XW.out.ge G8 nx); have u6 := XW.out.cell 6; have EX := HX.out _ GW1.out C8; have v0 := HCL.out _ GW1.out 0 _ rfl; have v1 := HCL.out _ GW1.out 1 _ rfl; have v2 := HCL.out _ GW1.out 2 _ rfl; have v3 := HCL.out _ GW1.out 3 _ rfl; have v4 := HCL.out _ GW1.out 4 _ rfl; have v5 := HCL.out _ GW1.out 5 _ rfl; have v6 := HCL.out _ GW1.out 6 _ rfl; have v7 := HCL.out _ GW1.out 7 _ rfl; rw [Nat.add_zero] at v0; clear R8 G8 C8))
          go_ret
          exact ⟨rfl, HE.out.1, HE.out.2⟩
end Go.Proofs.YtbajpejnnfacbaaGreatDoor
