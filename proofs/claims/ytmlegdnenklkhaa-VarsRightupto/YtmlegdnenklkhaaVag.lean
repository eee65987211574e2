/- Package vars' reader: an XLet. -/
import Derived.Test.YtmlegdnenklkhaaVaf
namespace Go.Proofs.Ytmlegdnenklkhaa
open Go.RowKit
open Go.Maps (Keyed string_keyed)
set_option linter.unusedVariables false
set_option linter.unusedSimpArgs false

/-- what a bind is asked of the reader: its body -/
def RB : B → Prop
  | .mk _ _ _ x => RE x
section
variable {w w' : World} {b p q n : Nat} {bd : Nm → Nat} {fr : List Nm} {v : Value}
set_option maxHeartbeats 4000000 in
theorem c43_any (bs : List B) (ks : List E) (HB : ∀ x ∈ bs, RB x) (HK : ∀ x ∈ ks, RE x) (h : Rs w b p q n bd fr v) (rb xb : Nat) (k a xm : Int) (s : ByteArray) (g4 g7 : Option Addr) (n4 n7 c4 c7 : Nat) (vb vk : Value) (zb zk : List Value)
    (X1 : Bx w rb #[ptr b] 74) (X2 : Bx w xb #[.int .i64 k, .int .i64 a, .string s, .int .i64 xm, .slice g4 n4 c4, vb, vk, .slice g7 n7 c7] 28) (Q1 : Qk b p q v.ownBlock w.heap.size rb) (Q2 : Qk b p q v.ownBlock w.heap.size xb)
    (RW : IsRow w (Qk b p q v.ownBlock w.heap.size) zb bs.length vb) (IB : isBs w (Qk b p q v.ownBlock w.heap.size) bs zb) (RK : IsRow w (Qk b p q v.ownBlock w.heap.size) zk ks.length vk) (IK : isEs w (Qk b p q v.ownBlock w.heap.size) ks zk)
    (okb : okBs bs) (okk : okEs ks) (hn : n + coBs bs + coEs ks ≤ 1000000000) :
    Calls Try.prog 43 #[ptr xb, ptr rb] w (Out w b p q (n + coBs bs + coEs ks) bd (fvK (scD bd) ks (fvBs (scD bd) bs fr)) v) := by
  have HRW := Hid.mk RW
  have HRK := Hid.mk RK
  obtain ⟨gb, cb, rfl, hcb, _⟩ := RW
  obtain ⟨gk, ck, rfl, hck, _⟩ := RK
  have y5 := X2.cell 5
  have HI := Hid.mk (And.intro IB (And.intro IK (And.intro okb (And.intro okk (And.intro HB HK)))))
  have HX := Hid.mk (And.intro X1 (And.intro X2 (And.intro Q1 Q2)))
  have H0 := Hid.mk h
  obtain ⟨l, hl⟩ : ∃ l, bs.length = l := ⟨_, rfl⟩
  have HN := Hid.mk hl
  obtain ⟨lk, hlk⟩ : ∃ l, ks.length = l := ⟨_, rfl⟩
  have HLK := Hid.mk hlk
  rw [hl] at hcb HRW HX y5
  rw [hlk] at hck HRK HX
  clear hl hlk h X1 X2 Q1 Q2 IB IK okb okk HB HK
  go_enter Try.func43, Try.ntmps43
  go_wp2
  go_loopw [7] (fun c wr => ∃ j : Nat, c = .int .i64 j ∧ j ≤ l ∧ ∃ vr, Hid (Fe b p q v.ownBlock vr.ownBlock w wr) ∧ Hid (Rs wr b p q (n + coBs (bs.take j)) bd (fvBs (scD bd) (bs.take j) fr) vr)) (fun c _ => l - (intOf c).toNat)
  case atStart => exact ⟨0, rfl, Nat.zero_le _, v, ⟨Fe.refl _ _ _ _ _⟩, ⟨by rw [List.take_zero, fvBs, coBs]; exact H0.out⟩⟩
  case round =>
    obtain ⟨j, rfl, hj, vr, FW, RW⟩ := hrel
    have XR := HX.out.1.fe FW.out HX.out.2.2.1
    have r0 := XR.cell 0
    by_cases hlt : j < l
    · have kl : j < bs.length := by rw [HN.out]; exact hlt
      obtain ⟨ga', cap', e, _, hx⟩ := HRW.out.keeps FW.out.keeps
      simp only [Value.slice.injEq] at e
      obtain ⟨rfl, _, rfl⟩ := e
      obtain ⟨g, off, rfl, hg, hx⟩ := hx (by omega)
      obtain ⟨d, hd, hgd⟩ := isBs_get bs zb (isBs_keeps FW.out.keeps _ _ HI.out.1) j kl
      obtain ⟨hco, hle⟩ := coBs_take bs j kl
      have hfv : fvBs (scD bd) (bs.take (j + 1)) fr = fvB (scD bd) (bs[j]'kl) (fvBs (scD bd) (bs.take j) fr) := by rw [← List.take_append_getElem kl, fvBs_snoc]
      have okj := okBs_mem HI.out.2.2.1 _ (List.getElem_mem kl)
      have REj := HI.out.2.2.2.2.1 _ (List.getElem_mem kl)
      generalize bs[j]'kl = bj at *
      obtain ⟨nm, na, la, xj⟩ := bj
      simp only [isB] at hd
      obtain ⟨va, dx, rfl, IA, IX⟩ := hd
      obtain ⟨xk, xa, xm', xs, h4, h5, h6, h7, m4, m5, m6, m7, z4, z5, z6, z7, rfl⟩ := isE_eight IX
      have HIA := Hid.mk IA
      obtain ⟨ga, ca, rfl, hca, _⟩ := IA
      simp only [okB] at okj
      simp only [RB] at REj
      simp only [coB] at hco hle
      simp only [fvB] at hfv
      have bl : ∀ (i : Nat) (u : Value), (bnd11 (str nm) na ga la.length ca xk xa xm' xs h4 h5 h6 h7 m4 m5 m6 m7 z4 z5 z6 z7)[i]? = some u → wr.cell? ⟨g, off + j * 11 + i, none⟩ = some u := fun i u hi => by
        have h0 := hx _ _ (hgd i u (by simpa using hi))
        rwa [← Nat.add_assoc] at h0
      have d0 := bl 0 _ rfl
      have d1 := bl 1 _ rfl
      have d2 := bl 2 _ rfl
      have d3 := bl 3 _ rfl
      have d4 := bl 4 _ rfl
      have d5 := bl 5 _ rfl
      have d6 := bl 6 _ rfl
      have d7 := bl 7 _ rfl
      have d8 := bl 8 _ rfl
      have d9 := bl 9 _ rfl
      have d10 := bl 10 _ rfl
      rw [Nat.add_zero] at d0
      have hlt' : (j : Int) < l := by omega
      have K1 := Joins.below_alloc1 wr (.cells (bnd11 (str nm) na ga la.length ca xk xa xm' xs h4 h5 h6 h7 m4 m5 m6 m7 z4 z5 z6 z7) 47)
      have F1 : Fe b p q vr.ownBlock vr.ownBlock wr _ := Fe.of_below K1
      have R1 := RW.out.later K1
      have XB : Bx (wr.alloc (.cells (bnd11 (str nm) na ga la.length ca xk xa xm' xs h4 h5 h6 h7 m4 m5 m6 m7 z4 z5 z6 z7) 47)) wr.heap.size (bnd11 (str nm) na ga la.length ca xk xa xm' xs h4 h5 h6 h7 m4 m5 m6 m7 z4 z5 z6 z7) 47 := heap_alloc_new wr _
      have QB : Qk b p q vr.ownBlock (wr.alloc (.cells (bnd11 (str nm) na ga la.length ca xk xa xm' xs h4 h5 h6 h7 m4 m5 m6 m7 z4 z5 z6 z7) 47)).heap.size wr.heap.size := RW.out.new (Nat.le_refl _) (by simp)
      have QR : Qk b p q vr.ownBlock (wr.alloc (.cells (bnd11 (str nm) na ga la.length ca xk xa xm' xs h4 h5 h6 h7 m4 m5 m6 m7 z4 z5 z6 z7) 47)).heap.size rb := Qk.on F1 (Qk.on FW.out HX.out.2.2.1)
      have C := around44 R1 la _ (HIA.out.keeps F1.keeps) okj.2.1 (coE xj) (by omega) (ptr rb) (ptr wr.heap.size) (fvE (scD (plus bd la)) xj (fvBs (scD bd) (bs.take j) fr)) (fun W vW fW rW =>
        c44_any xj REj rW rb wr.heap.size _ _ _ _ _ _ _ _ _ _ _ _ _ _ _ _ _ _ _ _ _ ((XR.later K1).fe fW QR) (XB.fe fW QB) (isE_keeps (F1.trans fW).keeps _ _ IX) okj.2.2 (by omega))
      have e2 := XB.cell 2
      have HF1 := Hid.mk (FW.out.trans F1)
      have HFV := Hid.mk hfv
      have HCO := Hid.mk hco
      have r0' : (wr.alloc (.cells (bnd11 (str nm) na ga la.length ca xk xa xm' xs h4 h5 h6 h7 m4 m5 m6 m7 z4 z5 z6 z7) 47)).cell? ⟨rb, 0, none⟩ = some (ptr b) := (XR.later K1).cell 0
      generalize la.length = nl at *
      clear hx hgd bl XR XB QB QR R1 F1 K1 IX HIA REj okj hfv hco RW H0 HRW HRK HI HX r0 FW
      go_wp2_with (go_at_call 42; refine C.mono ?_; intro e w8 H8; obtain ⟨v8, rfl, F8, R8⟩ := H8; have HF := Hid.mk (HF1.out.trans F8); have HR := Hid.mk R8; clear F8 R8)
      exact ⟨⟨j + 1, by go_num, by omega, v8, HF, ⟨by rw [HCO.out, HFV.out, ← scD_plus]; exact HR.out.mono (by omega)⟩⟩, by simp [intOf]; omega⟩
    · obtain rfl : j = l := by omega
      have R1 := RW.out
      rw [List.take_of_length_le (by rw [HN.out]; omega)] at R1
      have XX := HX.out.2.1.fe FW.out HX.out.2.2.2
      have x6 := XX.cell 6
      have C := vfirst_any ks HI.out.2.2.2.2.2 R1 _ zk (by have := HRK.out.keeps FW.out.keeps; rwa [← HLK.out] at this) (isEs_keeps FW.out.keeps _ _ HI.out.2.1) HI.out.2.2.2.1 (by omega)
      rw [HLK.out] at C
      clear R1 RW XX XR HX HI HRK HRW H0
      go_wp2_with (go_at_call 34; refine C.mono ?_; intro e w8 H8; obtain ⟨v8, rfl, F8, R8⟩ := H8; have HF := Hid.mk (FW.out.trans F8); have HR := Hid.mk R8; clear F8 R8)
      go_end0
      exact ⟨v8, rfl, HF.out, HR.out⟩
set_option maxRecDepth 100000 in
set_option maxHeartbeats 4000000 in
theorem vlet_any (bs : List B) (ks : List E) (HB : ∀ x ∈ bs, RB x) (HK : ∀ x ∈ ks, RE x) (h : Rs w b p q n bd fr v) (k a xm : Int) (s : ByteArray) (g4 g7 : Option Addr) (n4 n7 c4 c7 : Nat) (vb vk : Value) (zb zk : List Value)
    (RW : IsRow w (Qk b p q v.ownBlock w.heap.size) zb bs.length vb) (IB : isBs w (Qk b p q v.ownBlock w.heap.size) bs zb) (RK : IsRow w (Qk b p q v.ownBlock w.heap.size) zk ks.length vk) (IK : isEs w (Qk b p q v.ownBlock w.heap.size) ks zk)
    (okb : okBs bs) (okk : okEs ks) (hn : n + 2 * bs.length + coBs bs + coEs ks ≤ 1000000000) :
    Calls Try.prog 33 #[ptr b, .agg #[.int .i64 k, .int .i64 a, .string s, .int .i64 xm, .slice g4 n4 c4, vb, vk, .slice g7 n7 c7]] w
      (Out w b p q (n + 2 * bs.length + coBs bs + coEs ks) bd (fvK (fun x => scD bd x || (bs.map nameB').contains x) ks (fvBs (fun x => scD bd x || (bs.map nameB').contains x) bs fr)) v) := by
  rw [← scD_plus]
  have HRW := Hid.mk RW
  have HRK := Hid.mk RK
  obtain ⟨gb, cb, rfl, hcb, _⟩ := RW
  obtain ⟨gk, ck, rfl, hck, _⟩ := RK
  obtain ⟨o1, ho1⟩ : ∃ o, Obj.cells #[ptr b] 74 = o := ⟨_, rfl⟩
  obtain ⟨o2, ho2⟩ : ∃ o, Obj.cells #[.int .i64 k, .int .i64 a, .string s, .int .i64 xm, .slice g4 n4 c4, .slice gb bs.length cb, .slice gk ks.length ck, .slice g7 n7 c7] 28 = o := ⟨_, rfl⟩
  have K1 := Joins.below_alloc1 w o1
  have K2 : Below w.heap.size w ((w.alloc o1).alloc o2) := K1.alloc K1.size _
  have X1 : Bx ((w.alloc o1).alloc o2) w.heap.size #[ptr b] 74 := ((Joins.below_alloc1 (w.alloc o1) o2).block _ (by simp)).trans (by rw [← ho1]; exact heap_alloc_new w _)
  have X2 : Bx ((w.alloc o1).alloc o2) (w.heap.size + 1) #[.int .i64 k, .int .i64 a, .string s, .int .i64 xm, .slice g4 n4 c4, .slice gb bs.length cb, .slice gk ks.length ck, .slice g7 n7 c7] 28 := by
    have := heap_alloc_new (w.alloc o1) o2
    rw [World.size_alloc, ← ho2] at this
    rw [← ho2]
    exact this
  have sz2 : ((w.alloc o1).alloc o2).heap.size = w.heap.size + 2 := by simp
  have NM := Hid.mk (fun (W : World) (hW : Below ((w.alloc o1).alloc o2).heap.size ((w.alloc o1).alloc o2) W) => namesOf_any (w := W) bs _ zb (HRW.out.keeps ((Fe.of_below (b := b) (p := p) (q := q) (o := v.ownBlock) K2).trans (Fe.of_below hW)).keeps) (isBs_keeps ((Fe.of_below (b := b) (p := p) (q := q) (o := v.ownBlock) K2).trans (Fe.of_below hW)).keeps _ _ IB))
  have Q1 : Qk b p q v.ownBlock ((w.alloc o1).alloc o2).heap.size w.heap.size := h.new (Nat.le_refl _) (by omega)
  have Q2 : Qk b p q v.ownBlock ((w.alloc o1).alloc o2).heap.size (w.heap.size + 1) := h.new (by omega) (by omega)
  have CA := Hid.mk (fun (W : World) (r : Value) (B7 : Below ((w.alloc o1).alloc o2).heap.size ((w.alloc o1).alloc o2) W) (NW : Nw W ((w.alloc o1).alloc o2).heap.size r (bs.map nameB')) => by
    have F7 : Fe b p q v.ownBlock v.ownBlock ((w.alloc o1).alloc o2) W := Fe.of_below B7
    have F0 : Fe b p q v.ownBlock v.ownBlock w W := (Fe.of_below K2).trans F7
    have hr : ∀ g, ((w.alloc o1).alloc o2).heap.size ≤ g → g < W.heap.size → Qk b p q v.ownBlock W.heap.size g := fun g h1 h2 => h.new (Nat.le_trans (by omega) h1) h2
    have el : (bs.map nameB').length = bs.length := List.length_map ..
    have nl : ∀ s ∈ bs.map nameB', s.length ≤ maxLen := fun s hs => by
      obtain ⟨y, hy, rfl⟩ := List.mem_map.1 hs
      have := okBs_mem okb y hy
      obtain ⟨yn, ya, yl, yx⟩ := y
      simp only [okB] at this
      exact this.1
    have := around43 (h.later (K2.trans (Joins.below_le B7 (by omega)))) (bs.map nameB') r (NW.rowQ (by omega) hr) nl (coBs bs + coEs ks) (by omega) (ptr (w.heap.size + 1)) (ptr w.heap.size) (fvK (scD (plus bd (bs.map nameB'))) ks (fvBs (scD (plus bd (bs.map nameB'))) bs fr)) (fun W' vW fW rW => by
      have F := F0.trans fW
      have c := c43_any bs ks HB HK rW w.heap.size (w.heap.size + 1) k a xm s g4 g7 n4 n7 c4 c7 _ _ zb zk (X1.fe (F7.trans fW) Q1) (X2.fe (F7.trans fW) Q2) (Qk.on (F7.trans fW) Q1) (Qk.on (F7.trans fW) Q2) (HRW.out.keeps F.keeps) (isBs_keeps F.keeps _ _ IB) (HRK.out.keeps F.keeps) (isEs_keeps F.keeps _ _ IK) okb okk (by omega)
      rwa [Nat.add_assoc (n + (bs.map nameB').length)] at c)
    rw [el] at this
    exact this)
  have y0 := X1.cell 0
  have y5 := X2.cell 5
  have HX := Hid.mk (And.intro X1 (And.intro X2 (And.intro Q1 Q2)))
  have HK2 := Hid.mk K2
  have HB2 := Hid.mk (fun W (e : Below ((w.alloc o1).alloc o2).heap.size ((w.alloc o1).alloc o2) W) => (Fe.of_below (b := b) (p := p) (q := q) (o := v.ownBlock) K2).trans (Fe.of_below e))
  have HB0 := Hid.mk (fun (W : World) (e : Below ((w.alloc o1).alloc o2).drew.heap.size ((w.alloc o1).alloc o2).drew W) => show Below ((w.alloc o1).alloc o2).heap.size ((w.alloc o1).alloc o2) W from (Below.refl _ _).drew.trans e)
  have HNL : Hid ((bs.map nameB').length = bs.length) := ⟨List.length_map ..⟩
  have HFIN : Hid (∀ (e : Ending) (w' : World) (W : World), Fe b p q v.ownBlock v.ownBlock w W → Out W b p q (n + bs.length + (coBs bs + coEs ks) + bs.length) bd (fvK (scD (plus bd (bs.map nameB'))) ks (fvBs (scD (plus bd (bs.map nameB'))) bs fr)) v e w' → Out w b p q (n + 2 * bs.length + coBs bs + coEs ks) bd (fvK (scD (plus bd (bs.map nameB'))) ks (fvBs (scD (plus bd (bs.map nameB'))) bs fr)) v e w') := ⟨fun e w' W F O => by
    obtain ⟨v', e, F', R'⟩ := O
    exact ⟨v', e, F.trans F', R'.mono (by omega)⟩⟩
  generalize fvK (scD (plus bd (bs.map nameB'))) ks (fvBs (scD (plus bd (bs.map nameB'))) bs fr) = fr' at *
  generalize bs.map nameB' = names at *
  generalize bs.length = lb at *
  generalize ks.length = lk at *
  clear h IB IK okb okk HB HK X1 X2 Q1 Q2 K1 K2 HRW HRK sz2
  subst ho1 ho2
  go_enter Try.func33, Try.ntmps33
  go_wp2
  go_region_held3 (fun w' => w'.cell? ⟨w.heap.size, 0, none⟩ = some (ptr b) ∧ w'.cell? ⟨w.heap.size + 1, 5, none⟩ = some (.slice gb lb cb)) (go_keep) (first
    | (go_at_call 45; refine (NM.out _ (Below.refl _ _).drew).mono ?_; rintro e w7 ⟨r, rfl, B7, N7⟩; have BW := Hid.mk (HB0.out _ B7); have NW := Hid.mk N7; have y0' := (HX.out.1.later BW.out).cell 0; have y5' := (HX.out.2.1.later BW.out).cell 5; clear B7 N7)
    | (go_at_call 42; refine (CA.out _ r BW.out NW.out).mono ?_; intro e w8 H8; have HO := Hid.mk (HFIN.out _ _ _ (HB2.out _ BW.out) H8); obtain ⟨v8, rfl, F8, R8⟩ := H8; have FF := (Fe.of_below BW.out).trans F8; have k0 := (HX.out.1.fe FF HX.out.2.2.1).cell 0; have k5 := (HX.out.2.1.fe FF HX.out.2.2.2).cell 5; clear F8 R8 FF))
  all_goals go_wp2
  all_goals go_end0
  all_goals exact HO.out
end
end Go.Proofs.Ytmlegdnenklkhaa
