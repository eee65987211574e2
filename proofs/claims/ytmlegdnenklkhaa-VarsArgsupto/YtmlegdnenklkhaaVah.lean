/- Package vars' reader: alternatives. -/
import Derived.Test.YtmlegdnenklkhaaVag
namespace Go.Proofs.Ytmlegdnenklkhaa
open Go.RowKit
open Go.Maps (Keyed string_keyed)
set_option linter.unusedVariables false
set_option linter.unusedSimpArgs false

/-- what an alternative is asked of the reader: its body -/
def RA : A → Prop
  | .mk _ _ _ _ _ x => RE x
section
variable {w w' : World} {b p q n : Nat} {bd : Nm → Nat} {fr : List Nm} {v : Value}
set_option maxRecDepth 100000 in
set_option maxHeartbeats 8000000 in
theorem valts_any (al : List A) (HA : ∀ x ∈ al, RA x) (h : Rs w b p q n bd fr v) (va : Value) (za : List Value)
    (R : IsRow w (Qk b p q v.ownBlock w.heap.size) za al.length va) (I : isAs w (Qk b p q v.ownBlock w.heap.size) al za) (ok : okAs al) (hn : n + coAs al ≤ 1000000000) :
    Calls Try.prog 35 #[ptr b, va] w (Out w b p q (n + coAs al) bd (fvAs (scD bd) al fr) v) := by
  have K1 := Joins.below_alloc1 w (.cells #[ptr b] 74)
  have F1 : Fe b p q v.ownBlock v.ownBlock w (w.alloc (.cells #[ptr b] 74)) := Fe.of_below K1
  have X1 : Bx (w.alloc (.cells #[ptr b] 74)) w.heap.size #[ptr b] 74 := heap_alloc_new w _
  have Q1 : Qk b p q v.ownBlock (w.alloc (.cells #[ptr b] 74)).heap.size w.heap.size := h.new (Nat.le_refl _) (by simp)
  have HR := Hid.mk (R.keeps F1.keeps)
  obtain ⟨ga, cap, rfl, hc, _⟩ := R
  have HI := Hid.mk (And.intro (isAs_keeps F1.keeps _ _ I) (And.intro ok HA))
  have HX := Hid.mk (And.intro X1 Q1)
  have H0 := Hid.mk (h.later K1)
  have HF1 := Hid.mk F1
  obtain ⟨l, hl⟩ : ∃ l, al.length = l := ⟨_, rfl⟩
  have HN := Hid.mk hl
  rw [hl] at hc HR ⊢
  clear hl h X1 Q1 I ok HA F1 K1
  go_enter Try.func35, Try.ntmps35
  go_wp2
  generalize w.alloc (.cells #[ptr b] 74) = w1 at *
  obtain ⟨rb, hrb⟩ : ∃ rb, w.heap.size = rb := ⟨_, rfl⟩
  rw [hrb] at HX ⊢
  go_loopw [9] (fun c wr => ∃ j : Nat, c = .int .i64 j ∧ j ≤ l ∧ ∃ vr, Hid (Fe b p q v.ownBlock vr.ownBlock w1 wr) ∧ Hid (Rs wr b p q (n + coAs (al.take j)) bd (fvAs (scD bd) (al.take j) fr) vr)) (fun c _ => l - (intOf c).toNat)
  case atStart => exact ⟨0, rfl, Nat.zero_le _, v, ⟨Fe.refl _ _ _ _ _⟩, ⟨by rw [List.take_zero, fvAs, coAs]; exact H0.out⟩⟩
  case round =>
    obtain ⟨j, rfl, hj, vr, FW, RW⟩ := hrel
    by_cases hlt : j < l
    · have kl : j < al.length := by rw [HN.out]; exact hlt
      obtain ⟨ga', cap', e, _, hx⟩ := HR.out.keeps FW.out.keeps
      simp only [Value.slice.injEq] at e
      obtain ⟨rfl, _, rfl⟩ := e
      obtain ⟨g, off, rfl, hg, hx⟩ := hx (by omega)
      obtain ⟨d, hd, hgd⟩ := isAs_get al za (isAs_keeps FW.out.keeps _ _ HI.out.1) j kl
      obtain ⟨hco, hle⟩ := coAs_take al j kl
      have hfv : fvAs (scD bd) (al.take (j + 1)) fr = fvA (scD bd) (al[j]'kl) (fvAs (scD bd) (al.take j) fr) := by rw [← List.take_append_getElem kl, fvAs_snoc]
      have okj := okAs_mem HI.out.2.1 _ (List.getElem_mem kl)
      have REj := HI.out.2.2 _ (List.getElem_mem kl)
      generalize al[j]'kl = aj at *
      obtain ⟨ak, aa, nm, an, la, xj⟩ := aj
      simp only [isA] at hd
      obtain ⟨va, dx, rfl, IA, IX⟩ := hd
      obtain ⟨xk, xa, xm', xs, h4, h5, h6, h7, m4, m5, m6, m7, z4, z5, z6, z7, rfl⟩ := isE_eight IX
      have HIA := Hid.mk IA
      obtain ⟨ga, ca, rfl, hca, _⟩ := IA
      simp only [okA] at okj
      simp only [RA] at REj
      simp only [coA] at hco hle
      simp only [fvA] at hfv
      have bl : ∀ (i : Nat) (u : Value), (alt13 ak aa (str nm) an ga la.length ca xk xa xm' xs h4 h5 h6 h7 m4 m5 m6 m7 z4 z5 z6 z7)[i]? = some u → wr.cell? ⟨g, off + j * 13 + i, none⟩ = some u := fun i u hi => by
        have h0 := hx _ _ (hgd i u (by simpa using hi))
        rwa [← Nat.add_assoc] at h0
      have d0 := bl 0 _ rfl
      have d1 := bl 1 _ rfl
      have d2 := bl 2 _ rfl
      have d3 := bl 3 _ rfl
      have d4 := bl 4 _ rfl
      have d5 := bl 5 _ rfl
      have d6 := bl 6 _ rfl
      have d7 := bl 7 _ rfl
      have d8 := bl 8 _ rfl
      have d9 := bl 9 _ rfl
      have d10 := bl 10 _ rfl
      have d11 := bl 11 _ rfl
      have d12 := bl 12 _ rfl
      rw [Nat.add_zero] at d0
      have hlt' : (j : Int) < l := by omega
      have XR := HX.out.1.fe FW.out HX.out.2
      have K1 := Joins.below_alloc1 wr (.cells (alt13 ak aa (str nm) an ga la.length ca xk xa xm' xs h4 h5 h6 h7 m4 m5 m6 m7 z4 z5 z6 z7) 51)
      have F1 : Fe b p q vr.ownBlock vr.ownBlock wr (wr.alloc (.cells (alt13 ak aa (str nm) an ga la.length ca xk xa xm' xs h4 h5 h6 h7 m4 m5 m6 m7 z4 z5 z6 z7) 51)) := Fe.of_below K1
      have R1 := RW.out.later K1
      have XB : Bx (wr.alloc (.cells (alt13 ak aa (str nm) an ga la.length ca xk xa xm' xs h4 h5 h6 h7 m4 m5 m6 m7 z4 z5 z6 z7) 51)) wr.heap.size (alt13 ak aa (str nm) an ga la.length ca xk xa xm' xs h4 h5 h6 h7 m4 m5 m6 m7 z4 z5 z6 z7) 51 := heap_alloc_new wr _
      have QB : Qk b p q vr.ownBlock (wr.alloc (.cells (alt13 ak aa (str nm) an ga la.length ca xk xa xm' xs h4 h5 h6 h7 m4 m5 m6 m7 z4 z5 z6 z7) 51)).heap.size wr.heap.size := RW.out.new (Nat.le_refl _) (by simp)
      have QR : Qk b p q vr.ownBlock (wr.alloc (.cells (alt13 ak aa (str nm) an ga la.length ca xk xa xm' xs h4 h5 h6 h7 m4 m5 m6 m7 z4 z5 z6 z7) 51)).heap.size rb := Qk.on F1 (Qk.on FW.out HX.out.2)
      have HC := Hid.mk (fun (w0 : World) (v0 : Value) (n0 : Nat) (bd0 : Nm → Nat) (f0 : Fe b p q vr.ownBlock v0.ownBlock (wr.alloc (.cells (alt13 ak aa (str nm) an ga la.length ca xk xa xm' xs h4 h5 h6 h7 m4 m5 m6 m7 z4 z5 z6 z7) 51)) w0) (hn0 : n0 + coE xj ≤ 1000000000) (r0 : Rs w0 b p q n0 bd0 (fvAs (scD bd) (al.take j) fr) v0) =>
        c46_any xj REj r0 rb wr.heap.size _ _ _ _ _ _ _ _ _ _ _ _ _ _ _ _ _ _ _ _ _ _ _ ((XR.later K1).fe f0 QR) (XB.fe f0 QB) (isE_keeps (F1.trans f0).keeps _ _ IX) okj.2.2 hn0)
      have e0 := XB.cell 0
      have e2 := XB.cell 2
      have e4 := XB.cell 4
      have HF1 := Hid.mk (FW.out.trans F1)
      have HCO := Hid.mk hco
      have r0' : (wr.alloc (.cells (alt13 ak aa (str nm) an ga la.length ca xk xa xm' xs h4 h5 h6 h7 m4 m5 m6 m7 z4 z5 z6 z7) 51)).cell? ⟨rb, 0, none⟩ = some (ptr b) := (XR.later K1).cell 0
      have HR1 := Hid.mk R1
      have HL1 := Hid.mk (HIA.out.keeps F1.keeps)
      have HOK := Hid.mk (And.intro okj.1 okj.2.1)
      have sz : (wr.alloc (.cells (alt13 ak aa (str nm) an ga la.length ca xk xa xm' xs h4 h5 h6 h7 m4 m5 m6 m7 z4 z5 z6 z7) 51)).heap.size = wr.heap.size + 1 := by simp
      have HSZ := Hid.mk sz
      have NQ := Hid.mk (fun g (h1 : (wr.alloc (.cells (alt13 ak aa (str nm) an ga la.length ca xk xa xm' xs h4 h5 h6 h7 m4 m5 m6 m7 z4 z5 z6 z7) 51)).heap.size ≤ g) {k : Nat} (h2 : g < k) => R1.new h1 h2)
      clear hx hgd bl XR XB QB QR R1 F1 K1 IX HIA REj okj hco RW H0 HR HI HX FW sz
      by_cases k1 : ak = 1
      · rw [if_pos k1] at hfv
        have HFV := Hid.mk hfv
        have C := around46 HR1.out la _ HL1.out HOK.out.2 (coE xj) (by omega) (ptr rb) (ptr wr.heap.size) (fvE (scD (plus bd la)) xj (fvAs (scD bd) (al.take j) fr)) (fun W vW fW rW => HC.out W vW _ _ fW (by omega) rW)
        have q1 : (ak == 1) = true := by rw [k1]; rfl
        generalize la.length = nl at *
        clear hfv k1 HC HL1 NQ
        go_wp2_with (go_at_call 42; refine C.mono ?_; intro e w8 H8; obtain ⟨v8, rfl, F8, R8⟩ := H8; have HF := Hid.mk (HF1.out.trans F8); have HRR := Hid.mk R8; clear F8 R8)
        exact ⟨⟨j + 1, by go_num, by omega, v8, HF, ⟨by rw [HCO.out, HFV.out, ← scD_plus]; exact HRR.out.mono (by omega)⟩⟩, by simp [intOf]; omega⟩
      · rw [if_neg k1] at hfv
        have q1 : (ak == 1) = false := beq_eq_false_iff_ne.2 k1
        by_cases k2 : ak = 2
        · rw [if_pos k2] at hfv
          have HFV := Hid.mk hfv
          have C := around46 HR1.out [] (.slice none 0 0) ⟨none, 0, rfl, ⟨Nat.le_refl _, by simp⟩, fun z => absurd z (Nat.lt_irrefl 0)⟩ (fun s hs => by cases hs) (coE xj) (by simp; omega) (ptr rb) (ptr wr.heap.size) (fvE (scD bd) xj (fvAs (scD bd) (al.take j) fr)) (fun W vW fW rW => by rw [plus_nil] at rW ⊢; exact HC.out W vW _ _ fW (by simp; omega) rW)
          have q2 : (ak == 2) = true := by rw [k2]; rfl
          simp only [List.length_nil, Nat.add_zero] at C
          generalize la.length = nl at *
          clear hfv k1 k2 HC HL1 NQ
          go_wp2_with (go_at_call 42; refine C.mono ?_; intro e w8 H8; obtain ⟨v8, rfl, F8, R8⟩ := H8; have HF := Hid.mk (HF1.out.trans F8); have HRR := Hid.mk R8; clear F8 R8)
          exact ⟨⟨j + 1, by go_num, by omega, v8, HF, ⟨by rw [HCO.out, HFV.out]; exact HRR.out.mono (by omega)⟩⟩, by simp [intOf]; omega⟩
        · rw [if_neg k2] at hfv
          have q2 : (ak == 2) = false := beq_eq_false_iff_ne.2 k2
          by_cases k3 : ak = 3
          · rw [if_pos k3] at hfv
            have HFV := Hid.mk hfv
            have q3 : (ak == 3) = true := by rw [k3]; rfl
            have K2 := Joins.below_alloc1 (wr.alloc (.cells (alt13 ak aa (str nm) an ga la.length ca xk xa xm' xs h4 h5 h6 h7 m4 m5 m6 m7 z4 z5 z6 z7) 51)) (.cells #[.string (str nm)] 9)
            have F2 : Fe b p q vr.ownBlock vr.ownBlock (wr.alloc (.cells (alt13 ak aa (str nm) an ga la.length ca xk xa xm' xs h4 h5 h6 h7 m4 m5 m6 m7 z4 z5 z6 z7) 51)) _ := Fe.of_below K2
            have L1 : IsRow ((wr.alloc (.cells (alt13 ak aa (str nm) an ga la.length ca xk xa xm' xs h4 h5 h6 h7 m4 m5 m6 m7 z4 z5 z6 z7) 51)).alloc (.cells #[.string (str nm)] 9)) (Qk b p q vr.ownBlock ((wr.alloc (.cells (alt13 ak aa (str nm) an ga la.length ca xk xa xm' xs h4 h5 h6 h7 m4 m5 m6 m7 z4 z5 z6 z7) 51)).alloc (.cells #[.string (str nm)] 9)).heap.size) (strC [nm]) [nm].length (.slice (some ⟨wr.heap.size + 1, 0, none⟩) 1 1) := by
              refine ⟨_, 1, rfl, ⟨Nat.le_refl _, by simp⟩, fun _ => ⟨wr.heap.size + 1, 0, rfl, NQ.out _ (by simp) (by simp), fun i u hi => ?_⟩⟩
              have := heap_alloc_new (wr.alloc (.cells (alt13 ak aa (str nm) an ga la.length ca xk xa xm' xs h4 h5 h6 h7 m4 m5 m6 m7 z4 z5 z6 z7) 51)) (.cells #[.string (str nm)] 9)
              rw [HSZ.out] at this
              have c := Joins.cell_of_block this i
              rw [Nat.zero_add, c]
              simpa [strC] using hi
            have C := around46 (HR1.out.later K2) [nm] _ L1 (fun s hs => by rw [List.mem_singleton] at hs; rw [hs]; exact HOK.out.1) (coE xj) (by simp; omega) (ptr rb) (ptr wr.heap.size) (fvE (scD (plus bd [nm])) xj (fvAs (scD bd) (al.take j) fr)) (fun W vW fW rW => HC.out W vW _ _ (F2.trans fW) (by simp; omega) rW)
            simp only [List.length_cons, List.length_nil, Nat.zero_add] at C
            have HF2 := Hid.mk (HF1.out.trans F2)
            have r1' : ((wr.alloc (.cells (alt13 ak aa (str nm) an ga la.length ca xk xa xm' xs h4 h5 h6 h7 m4 m5 m6 m7 z4 z5 z6 z7) 51)).alloc (.cells #[.string (str nm)] 9)).cell? ⟨rb, 0, none⟩ = some (ptr b) := (K2.cell (World.block_lt_of_cell? _ _ r0')).trans r0'
            generalize la.length = nl at *
            clear hfv k1 k2 k3 HC HL1 NQ L1 K2 F2 HF1
            go_wp2_with (go_at_call 42; refine C.mono ?_; intro e w8 H8; obtain ⟨v8, rfl, F8, R8⟩ := H8; have HF := Hid.mk (HF2.out.trans F8); have HRR := Hid.mk R8; clear F8 R8)
            exact ⟨⟨j + 1, by go_num, by omega, v8, HF, ⟨by rw [HCO.out, HFV.out, ← scD_plus]; exact HRR.out.mono (by omega)⟩⟩, by simp [intOf]; omega⟩
          · rw [if_neg k3] at hfv
            have HFV := Hid.mk hfv
            have q3 : (ak == 3) = false := beq_eq_false_iff_ne.2 k3
            generalize la.length = nl at *
            clear hfv k1 k2 k3 HC HL1 NQ
            go_wp2
            exact ⟨⟨j + 1, by go_num, by omega, vr, HF1, ⟨by rw [HCO.out, HFV.out]; exact HR1.out.mono (by omega)⟩⟩, by simp [intOf]; omega⟩
    · obtain rfl : j = l := by omega
      have HE : Hid (Rs wr b p q (n + coAs al) bd (fvAs (scD bd) al fr) vr) := ⟨by have := RW.out; rwa [List.take_of_length_le (by rw [HN.out]; omega)] at this⟩
      clear RW HR H0 HI HX
      go_wp2
      go_end0
      exact ⟨vr, rfl, HF1.out.trans FW.out, HE.out⟩
end
end Go.Proofs.Ytmlegdnenklkhaa
