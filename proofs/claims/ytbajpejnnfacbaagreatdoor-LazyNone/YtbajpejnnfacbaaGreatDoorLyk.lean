/- Package lazy: a value is called. -/
import Derived.Test.YtbajpejnnfacbaaGreatDoorLyj
namespace Go.Proofs.YtbajpejnnfacbaaGreatDoor.Lz
open Go.RowKit
set_option linter.unusedVariables false
set_option linter.unusedSimpArgs false


theorem pRow.take {G : Gm} {l : List Nat} {ga : Option Addr} {n cap a : Nat} (h : pRow G l (.slice ga n cap)) (ha : a ≤ l.length) : pRow G (l.take a) (.slice ga a cap) := by
  obtain ⟨ga', cap', e, hc, k⟩ := h
  cases e
  have ln : (l.take a).length = a := by rw [List.length_take]; omega
  refine ⟨ga, cap, by rw [ln], by omega, fun z => ?_⟩
  obtain ⟨g, off, L, e1, e2, e3⟩ := k (by omega)
  exact ⟨g, off, L, e1, e2, fun j hj => by rw [ln] at hj; rw [e3 j (by omega), List.getElem?_take_of_lt hj]⟩
theorem pRow.drop {G : Gm} {l : List Nat} {ga : Option Addr} {n cap a : Nat} (h : pRow G l (.slice ga n cap)) (ha : a < l.length) : ∃ g off, ga = some ⟨g, off, none⟩ ∧ pRow G (l.drop a) (.slice (some ⟨g, off + a, none⟩) (n - a) (cap - a)) := by
  obtain ⟨ga', cap', e, hc, k⟩ := h
  cases e
  obtain ⟨g, off, L, e1, e2, e3⟩ := k (by omega)
  refine ⟨g, off, e1, _, _, by rw [List.length_drop], by rw [List.length_drop]; omega, fun _ => ⟨g, off + a, L, rfl, e2, fun j hj => ?_⟩⟩
  rw [List.length_drop] at hj
  rw [List.getElem?_drop, show off + a + j = off + (a + j) by omega, e3 (a + j) (by omega)]
section
variable {w w' : World} {G G' : Gm} {rb mb : Nat} {mv : Mv} {s : St} {sh : Int}
theorem fn_cells {th : List T} {rows : List (List Nat)} (R : Rep w G th rows) {bt f a : Nat} {x : X} {e : Env} (hb : G bt = some (.thing f)) (hf : th[f]? = some (.fn a x e)) :
    ∃ fb nb xb, Bx w bt (thC 2 0 (ptr fb) (ptr nb) nilp nils nilm 0) 91 ∧ Bx w fb #[.int .i64 a, ptr xb] 119 ∧ G fb = some (.form a x) ∧ G nb = some (.env e) ∧ G xb = some (.exp x) := by
  obtain ⟨tv, c, e1, hc, q⟩ := R.cont bt _ hb
  rw [hf] at e1
  cases e1
  obtain ⟨_, _, ⟨fb, rfl, hfb⟩, ⟨nb, rfl, hnb⟩, rfl⟩ := q
  obtain ⟨xb, XF, hx⟩ := R.formB hfb
  exact ⟨fb, nb, xb, hc, XF, hfb, hnb, hx⟩
set_option maxRecDepth 100000 in
set_option maxHeartbeats 8000000 in
theorem enter_fn {ar : List Nat} (h : Run w G rb mb mv s sh) {bt f : Nat} (hb : G bt = some (.thing f)) {a : Nat} {x : X} {e : Env} (hf : s.th[f]? = some (.fn a x e)) {L : List Nat} {ga : Option Addr} {n cap : Nat} (hl : pRow G L (.slice ga n cap)) (h0 : L.length ≠ 0) (h8 : L.length ≤ 100) (ok : okAll ar s.th) (hw : s.ws.length + 1 ≤ 1000000000) :
    Calls Tryz.prog 78 #[ptr rb, ptr bt, .slice ga n cap] w (Out w G rb mb mv (enterS s f L) sh) := by
  obtain ⟨fb, nb, xb, XT, XF, hfb, hnb, hx⟩ := fn_cells h.rep hb hf
  have okf := ok _ _ hf
  have RW := Hid.mk h
  have PL := Hid.mk hl
  have NL : Hid (n = L.length) := ⟨by obtain ⟨_, _, e, _⟩ := hl; cases e; rfl⟩
  have NC : Hid (n ≤ cap) := ⟨by obtain ⟨_, _, e, q, _⟩ := hl; cases e; exact q⟩
  have HES : Hid (enterS s f L = enterF s f L) := ⟨by unfold enterS; rw [thAt_some hf]⟩
  have HFN := Hid.mk (And.intro hf (And.intro hfb (And.intro hx (And.intro hnb (And.intro hb (And.intro okf.2.2.2.2 okf.1))))))
  have c0 := XT.cell 0
  have c2 := XT.cell 2
  have c3 := XT.cell 3
  have d0 := XF.cell 0
  have d1 := XF.cell 1
  obtain ⟨G0, hG0⟩ : ∃ x, x = G := ⟨_, rfl⟩
  rw [← hG0] at RW PL HFN
  have FX : Hid (Fx G G0 w w) := ⟨by rw [hG0]; exact Fx.refl G w⟩
  have CEL : Hid (∀ W1 : World, w.heap.size ≤ W1.heap.size → (∀ i ty, G0 i = some ty → (∀ k, ty ≠ .own k) → W1.heap[i]? = w.heap[i]?) → W1.cell? ⟨bt, 2, none⟩ = some (ptr fb) ∧ W1.cell? ⟨bt, 3, none⟩ = some (ptr nb) ∧ W1.cell? ⟨fb, 1, none⟩ = some (ptr xb) ∧ bt < W1.heap.size ∧ fb < W1.heap.size) := ⟨fun W1 S1 O1 => by
    have b1 := O1 bt _ (by rw [hG0]; exact hb) (fun k => by simp)
    have b2 := O1 fb _ (by rw [hG0]; exact hfb) (fun k => by simp)
    exact ⟨(World.cell?_of_block b1).trans c2, (World.cell?_of_block b1).trans c3, (World.cell?_of_block b2).trans d1, Nat.lt_of_lt_of_le (lt_of_block XT) S1, Nat.lt_of_lt_of_le (lt_of_block XF) S1⟩⟩
  have HNR : Hid (bt ≠ rb ∧ fb ≠ rb) := Hid.mk ⟨fun z => (by rw [z, h.rt] at hb; cases hb), fun z => by rw [z, h.rt] at hfb; cases hfb⟩
  have ap : 0 < a := okf.1
  clear h hb hf hl ok okf XT XF hfb hnb hx
  by_cases lt : L.length < a
  · have eq : enterF s f L = tellNew s (.part f L) := by unfold enterF; rw [thAt_some HFN.out.1]; simp only; rw [if_pos lt]
    have HQ := Hid.mk (HES.out.trans eq)
    have K := tellNew_out RW.out (t := .part f L) (c := thC 3 0 nilp nilp (ptr bt) (.slice ga n cap) nilm 0) ⟨_, _, pT.le (le_tag (RW.out.rep.free (Nat.le_refl _)) _) ⟨bt, rfl, HFN.out.2.2.2.2.1⟩, pRow.le (le_tag (RW.out.rep.free (Nat.le_refl _)) _) PL.out, rfl⟩
    have g1 : n < a := by rw [NL.out]; exact lt
    go_enter Tryz.func78, Tryz.ntmps78
    go_wp2_with (go_at_call 67; refine K.mono ?_; intro e w10 H9; have HE := Hid.mk (Out.from FX.out H9); obtain ⟨rfl, _⟩ := H9)
    go_end0
    rw [HQ.out]
    exact HE.out
  · have g1 : ¬ n < a := by rw [NL.out]; exact lt
    have sh9 : L.length = n := NL.out.symm
    have PT : Hid (pRow G0 (L.take a) (.slice ga a cap)) := ⟨PL.out.take (by omega)⟩
    by_cases gt : a < L.length
    · have eq : enterF s f L = { s with ws := .things (L.drop a) :: s.ws, md := .ev x (inE e (L.take a)) } := by unfold enterF; rw [thAt_some HFN.out.1]; simp only; rw [if_neg lt, if_pos gt]
      have HQ := Hid.mk (HES.out.trans eq)
      obtain ⟨gg, off, hga, PD0⟩ := PL.out.drop gt
      have PD := Hid.mk PD0
      subst hga
      have WA := wait_more RW.out (.things (L.drop a)) 1 0 none none none (some ⟨gg, off + a, none⟩) (n - a) (cap - a) ⟨_, PD.out, rfl⟩ hw
      have g2 : a < n := by rw [NL.out]; exact gt
      have ac2 : ¬ a = cap := by have := NC.out; omega
      have ac3 : ¬ cap - a = 0 := by have := NC.out; omega
      have ac : ¬ cap = a := by have := NC.out; omega
      have an : a ≤ n := by omega
      have ncp : n ≤ cap := NC.out
      have acap : a ≤ cap := by omega
      have SL1 : (L.take a).length = a := by rw [List.length_take]; omega
      clear lt gt eq PD0
      go_enter Tryz.func78, Tryz.ntmps78
      go_wp2_with (go_at_call 73; refine WA.mono ?_; rintro r w9 ⟨⟨rfl, G9, F9, R9⟩, O9⟩; obtain ⟨z2, z3, z4, zbt, zfb⟩ := CEL.out w9 F9.size O9; clear O9; have HR9 := Hid.mk R9.drew; have HFX9 := Hid.mk ((FX.out.trans F9).trans (Fx.drewL _ _)); have HG9 := Hid.mk F9.le; have WI := within_more R9.drew.rep (F9.le _ _ HFN.out.2.2.2.1) (pRow.le F9.le PT.out) HFN.out.2.2.2.2.2.1; clear F9 R9)
      go_region_held3 (fun w' => w'.cell? ⟨bt, 2, none⟩ = some (ptr fb) ∧ w'.cell? ⟨fb, 1, none⟩ = some (ptr xb) ∧ w'.cell? ⟨bt, 3, none⟩ = some (ptr nb)) (go_keep) (first
        | (go_at_call 100; refine WI.mono ?_; rintro r w8 ⟨u8, G8, rfl, ⟨b8, rfl, hb8⟩, F8, R8, B8⟩; have s0 : w8.cell? ⟨bt, 2, none⟩ = some (ptr fb) := (B8.cell zbt).trans z2; have s1 : w8.cell? ⟨fb, 1, none⟩ = some (ptr xb) := (B8.cell zfb).trans z4; have s2 : w8.cell? ⟨bt, 3, none⟩ = some (ptr nb) := (B8.cell zbt).trans z3; have K := evaluates_more (HR9.out.next F8 (fun x k hx => B8.block x (HR9.out.rep.lt hx)) R8) ⟨xb, rfl, F8.le _ _ (HG9.out _ _ HFN.out.2.2.1)⟩ ⟨b8, rfl, hb8⟩; have HF8 := Hid.mk F8; have HL8 : Hid (bt ≠ rb ∧ fb ≠ rb) := ⟨HNR.out⟩; clear B8 F8 R8)
        | (go_at_call 71; refine K.mono ?_; rintro e w10 ⟨H9, O9⟩; have t0 := (World.cell?_of_block (a := ⟨bt, 2, none⟩) (O9 bt HL8.out.1)).trans s0; have t1 := (World.cell?_of_block (a := ⟨fb, 1, none⟩) (O9 fb HL8.out.2)).trans s1; have t2 := (World.cell?_of_block (a := ⟨bt, 3, none⟩) (O9 bt HL8.out.1)).trans s2; have HE := Hid.mk (Out.from (HFX9.out.trans HF8.out) H9); obtain ⟨rfl, _⟩ := H9; clear O9))
      all_goals go_wp2
      all_goals go_end0
      all_goals (rw [HQ.out]; exact HE.out)
    · have eq : enterF s f L = { s with md := .ev x (inE e (L.take a)) } := by unfold enterF; rw [thAt_some HFN.out.1]; simp only; rw [if_neg lt, if_neg gt]
      have HQ := Hid.mk (HES.out.trans eq)
      have g2 : ¬ a < n := by rw [NL.out]; exact gt
      have an : a ≤ n := by omega
      have ncp : n ≤ cap := NC.out
      have acap : a ≤ cap := by omega
      have SL1 : (L.take a).length = a := by rw [List.length_take]; omega
      obtain ⟨z2, z3, z4, zbt, zfb⟩ := CEL.out _ (Nat.le_refl _) (fun _ _ _ _ => rfl)
      have HR9 := Hid.mk RW.out.drew
      have HFX9 := Hid.mk (FX.out.trans (Fx.drewL _ _))
      have HG9 := Hid.mk (Le.refl G0)
      have WI := within_more RW.out.drew.rep HFN.out.2.2.2.1 PT.out HFN.out.2.2.2.2.2.1
      clear lt gt eq
      go_enter Tryz.func78, Tryz.ntmps78
      go_wp2
      go_region_held3 (fun w' => w'.cell? ⟨bt, 2, none⟩ = some (ptr fb) ∧ w'.cell? ⟨fb, 1, none⟩ = some (ptr xb) ∧ w'.cell? ⟨bt, 3, none⟩ = some (ptr nb)) (go_keep) (first
        | (go_at_call 100; refine WI.mono ?_; rintro r w8 ⟨u8, G8, rfl, ⟨b8, rfl, hb8⟩, F8, R8, B8⟩; have s0 : w8.cell? ⟨bt, 2, none⟩ = some (ptr fb) := (B8.cell zbt).trans z2; have s1 : w8.cell? ⟨fb, 1, none⟩ = some (ptr xb) := (B8.cell zfb).trans z4; have s2 : w8.cell? ⟨bt, 3, none⟩ = some (ptr nb) := (B8.cell zbt).trans z3; have K := evaluates_more (HR9.out.next F8 (fun x k hx => B8.block x (HR9.out.rep.lt hx)) R8) ⟨xb, rfl, F8.le _ _ (HG9.out _ _ HFN.out.2.2.1)⟩ ⟨b8, rfl, hb8⟩; have HF8 := Hid.mk F8; have HL8 : Hid (bt ≠ rb ∧ fb ≠ rb) := ⟨HNR.out⟩; clear B8 F8 R8)
        | (go_at_call 71; refine K.mono ?_; rintro e w10 ⟨H9, O9⟩; have t0 := (World.cell?_of_block (a := ⟨bt, 2, none⟩) (O9 bt HL8.out.1)).trans s0; have t1 := (World.cell?_of_block (a := ⟨fb, 1, none⟩) (O9 fb HL8.out.2)).trans s1; have t2 := (World.cell?_of_block (a := ⟨bt, 3, none⟩) (O9 bt HL8.out.1)).trans s2; have HE := Hid.mk (Out.from (HFX9.out.trans HF8.out) H9); obtain ⟨rfl, _⟩ := H9; clear O9))
      all_goals go_wp2
      all_goals go_end0
      all_goals (rw [HQ.out]; exact HE.out)

set_option maxRecDepth 100000 in
set_option maxHeartbeats 8000000 in
theorem enter_part {ar : List Nat} (h : Run w G rb mb mv s sh) {b t : Nat} (hbt : G b = some (.thing t)) {f : Nat} {m : List Nat} (ht : s.th[t]? = some (.part f m)) {l : List Nat} {gv : Option Addr} {nv capv : Nat} (hl : pRow G l (.slice gv nv capv)) (h0 : l.length ≠ 0) (h8 : l.length ≤ 8) (ok : okAll ar s.th) (hw : s.ws.length + 1 ≤ 1000000000) :
    Calls Tryz.prog 78 #[ptr rb, ptr b, .slice gv nv capv] w (Out w G rb mb mv (enterS s t l) sh) := by
  obtain ⟨⟨a, x, e, hf, ma, a8, m0⟩, okm⟩ := ok _ _ ht
  obtain ⟨tv, cc, e1, hc, q⟩ := h.rep.cont b _ hbt
  rw [ht] at e1
  cases e1
  obtain ⟨_, _, ⟨bt, rfl, hb⟩, hm, rfl⟩ := q
  have XB : Bx w b _ 91 := hc
  have HES0 : Hid (enterS s t l = enterF s f (m ++ l)) := ⟨by unfold enterS; rw [thAt_some ht]⟩
  have hm0 := hm
  obtain ⟨gm, cm, rfl, _⟩ := hm
  have k0 := XB.cell 0
  have k4 := XB.cell 4
  have k5 := XB.cell 5
  obtain ⟨o1, ho1⟩ : ∃ o, Obj.cells #[.slice gm m.length cm, .slice gv nv capv] 84 = o := ⟨_, rfl⟩
  have K1 := Joins.below_alloc1 w o1
  have RD : Rep ((w.alloc o1).drew) G s.th s.rows := h.rep.below K1.drew
  have CC := concat_any (gb := w.heap.size) RD hm0 hl m0 h0 (by omega) (by omega) (by rw [← ho1]; exact heap_alloc_new w _)
  have blt := h.rep.lt hbt
  have HK1 := Hid.mk K1
  have HS := Hid.mk (And.intro h (And.intro hb (And.intro hf (And.intro XB ok))))
  have ll : Hid ((m ++ l).length = m.length + l.length ∧ (m ++ l).length ≠ 0 ∧ m.length < a ∧ a ≤ 8) := ⟨List.length_append, by rw [List.length_append]; omega, ma, a8⟩
  obtain ⟨N, hN⟩ : ∃ N, m.length + l.length = N := ⟨_, rfl⟩
  have HNN := Hid.mk hN
  rw [hN] at CC
  generalize m.length = nm at *
  clear h hbt ht hl h0 ok okm hc hm0 hb hf XB K1 RD ma m0 hN
  subst ho1
  go_enter Tryz.func78, Tryz.ntmps78
  go_wp2
  go_region_held3 (fun w' => w'.cell? ⟨b, 4, none⟩ = some (ptr bt) ∧ w'.cell? ⟨b, 5, none⟩ = some (.slice gm nm cm)) (go_keep) (first
    | (go_at_call 103; refine CC.mono ?_; rintro r w8 ⟨g8, cap8, rfl, hc8, B8, hg8, gl8, T8⟩; have B9 : Below w.heap.size w w8 := HK1.out.drew.trans (Joins.below_le B8 HK1.out.size); have s4 : w8.cell? ⟨b, 4, none⟩ = some (ptr bt) := (B9.cell blt).trans k4; have s5 : w8.cell? ⟨b, 5, none⟩ = some (.slice gm nm cm) := (B9.cell blt).trans k5; have HC := Hid.mk (And.intro hc8 (And.intro B9 (And.intro hg8 (And.intro gl8 T8)))); clear hc8 B8 B9 hg8 gl8 T8))
  obtain ⟨hc8, B9, hg8, gl8, T8⟩ := HC.out
  obtain ⟨h, hb, hf, XB, ok⟩ := HS.out
  have hg9 : w.heap.size ≤ g8 := by have := HK1.out.size; simp at hg8; omega
  have fr : G g8 = none := h.rep.free hg9
  obtain ⟨L, hL⟩ : ∃ L, L = m ++ l := ⟨_, rfl⟩
  rw [← hL] at T8
  obtain ⟨G0, hG0⟩ : ∃ x, x = Lz.tag G g8 (.row L) := ⟨_, rfl⟩
  have le : Le G G0 := by rw [hG0]; exact le_tag fr _
  have F0 : Fx G G0 w w8 := by rw [hG0]; exact (Fx.of_below B9).more rfl rfl rfl (Nat.le_refl _) (fun _ _ => rfl) (le_tag fr _) (fun i hi q => by rw [tag_ne _ _ (by omega)]; exact q)
  have R0 : Rep w8 G0 s.th s.rows := by
    rw [hG0]
    exact (h.rep.below B9).tag fr ⟨gl8, fun j i hj => by obtain ⟨v, h1, h2⟩ := T8 j i hj; exact ⟨v, h1, pT.le (le_tag fr _) h2⟩⟩ (fun i => by simp) (fun j => by simp)
  have RW : Hid (Run w8 G0 rb mb mv s sh) := ⟨h.next F0 (fun x k hx => B9.block x (h.rep.lt hx)) R0⟩
  have FX := Hid.mk F0
  have LN : L.length = N := by rw [hL, ll.out.1]; exact HNN.out
  have PL : Hid (pRow G0 L (.slice (some ⟨g8, 0, none⟩) N cap8)) := ⟨⟨_, _, by rw [LN], by rw [LN]; exact hc8, fun _ => ⟨g8, 0, L, rfl, by rw [hG0]; exact tag_self _ _ _, fun j hj => by rw [Nat.zero_add]⟩⟩⟩
  obtain ⟨ga, hga⟩ : ∃ x : Option Addr, x = some ⟨g8, 0, none⟩ := ⟨_, rfl⟩
  obtain ⟨n, hn⟩ : ∃ x, x = N := ⟨_, rfl⟩
  obtain ⟨cap, hcp⟩ : ∃ x, x = cap8 := ⟨_, rfl⟩
  rw [← hga, ← hn, ← hcp] at PL
  have NL : Hid (n = L.length) := ⟨by rw [LN]; exact hn⟩
  have NC : Hid (n ≤ cap) := ⟨by rw [hn, hcp]; exact hc8⟩
  have HES : Hid (enterS s t l = enterF s f L) := ⟨by rw [hL]; exact HES0.out⟩
  obtain ⟨fb, nb, xb, XT, XF, hfb, hnb, hx⟩ := fn_cells R0 (le _ _ hb) hf
  have okf := ok _ _ hf
  have HFN := Hid.mk (And.intro hf (And.intro hfb (And.intro hx (And.intro hnb (And.intro (le _ _ hb) (And.intro okf.2.2.2.2 okf.1))))))
  have c0 := XT.cell 0
  have c2 := XT.cell 2
  have c3 := XT.cell 3
  have d0 := XF.cell 0
  have d1 := XF.cell 1
  have CEL : Hid (∀ W1 : World, w8.heap.size ≤ W1.heap.size → (∀ i ty, G0 i = some ty → (∀ k, ty ≠ .own k) → W1.heap[i]? = w8.heap[i]?) → W1.cell? ⟨bt, 2, none⟩ = some (ptr fb) ∧ W1.cell? ⟨bt, 3, none⟩ = some (ptr nb) ∧ W1.cell? ⟨fb, 1, none⟩ = some (ptr xb) ∧ bt < W1.heap.size ∧ fb < W1.heap.size) := ⟨fun W1 S1 O1 => by
    have b1 := O1 bt _ (le _ _ hb) (fun k => by simp)
    have b2 := O1 fb _ hfb (fun k => by simp)
    exact ⟨(World.cell?_of_block b1).trans c2, (World.cell?_of_block b1).trans c3, (World.cell?_of_block b2).trans d1, Nat.lt_of_lt_of_le (lt_of_block XT) S1, Nat.lt_of_lt_of_le (lt_of_block XF) S1⟩⟩
  have HNR : Hid (bt ≠ rb ∧ fb ≠ rb) := Hid.mk ⟨fun z => (by rw [z, h.rt] at hb; cases hb), fun z => by have := le _ _ h.rt; rw [← z, hfb] at this; cases this⟩
  have ap : 0 < a := okf.1
  have L0 : L.length ≠ 0 := by rw [hL]; exact ll.out.2.1
  rw [← hga, ← hn, ← hcp]
  clear h hb hf XB ok hc8 B9 hg8 gl8 T8 hg9 fr F0 R0 XT XF hfb hnb hx okf LN hL hga hn hcp hG0 le HC HS k0 k4 k5
  by_cases lt : L.length < a
  · have eq : enterF s f L = tellNew s (.part f L) := by unfold enterF; rw [thAt_some HFN.out.1]; simp only; rw [if_pos lt]
    have HQ := Hid.mk (HES.out.trans eq)
    have K := tellNew_out RW.out (t := .part f L) (c := thC 3 0 nilp nilp (ptr bt) (.slice ga n cap) nilm 0) ⟨_, _, pT.le (le_tag (RW.out.rep.free (Nat.le_refl _)) _) ⟨bt, rfl, HFN.out.2.2.2.2.1⟩, pRow.le (le_tag (RW.out.rep.free (Nat.le_refl _)) _) PL.out, rfl⟩
    have g1 : n < a := by rw [NL.out]; exact lt
    skip
    go_wp2_with (go_at_call 67; refine K.mono ?_; intro e w10 H9; have HE := Hid.mk (Out.from FX.out H9); obtain ⟨rfl, _⟩ := H9)
    go_end0
    rw [HQ.out]
    exact HE.out
  · have g1 : ¬ n < a := by rw [NL.out]; exact lt
    have sh9 : L.length = n := NL.out.symm
    have PT : Hid (pRow G0 (L.take a) (.slice ga a cap)) := ⟨PL.out.take (by omega)⟩
    by_cases gt : a < L.length
    · have eq : enterF s f L = { s with ws := .things (L.drop a) :: s.ws, md := .ev x (inE e (L.take a)) } := by unfold enterF; rw [thAt_some HFN.out.1]; simp only; rw [if_neg lt, if_pos gt]
      have HQ := Hid.mk (HES.out.trans eq)
      obtain ⟨gg, off, hga, PD0⟩ := PL.out.drop gt
      have PD := Hid.mk PD0
      subst hga
      have WA := wait_more RW.out (.things (L.drop a)) 1 0 none none none (some ⟨gg, off + a, none⟩) (n - a) (cap - a) ⟨_, PD.out, rfl⟩ hw
      have g2 : a < n := by rw [NL.out]; exact gt
      have ac2 : ¬ a = cap := by have := NC.out; omega
      have ac3 : ¬ cap - a = 0 := by have := NC.out; omega
      have ac : ¬ cap = a := by have := NC.out; omega
      have an : a ≤ n := by omega
      have ncp : n ≤ cap := NC.out
      have acap : a ≤ cap := by omega
      have SL1 : (L.take a).length = a := by rw [List.length_take]; omega
      clear lt gt eq PD0
      skip
      go_wp2_with (go_at_call 73; refine WA.mono ?_; rintro r w9 ⟨⟨rfl, G9, F9, R9⟩, O9⟩; obtain ⟨z2, z3, z4, zbt, zfb⟩ := CEL.out w9 F9.size O9; clear O9; have HR9 := Hid.mk R9.drew; have HFX9 := Hid.mk ((FX.out.trans F9).trans (Fx.drewL _ _)); have HG9 := Hid.mk F9.le; have WI := within_more R9.drew.rep (F9.le _ _ HFN.out.2.2.2.1) (pRow.le F9.le PT.out) HFN.out.2.2.2.2.2.1; clear F9 R9)
      go_region_held3 (fun w' => w'.cell? ⟨bt, 2, none⟩ = some (ptr fb) ∧ w'.cell? ⟨fb, 1, none⟩ = some (ptr xb) ∧ w'.cell? ⟨bt, 3, none⟩ = some (ptr nb)) (go_keep) (first
        | (go_at_call 100; refine WI.mono ?_; rintro r w8 ⟨u8, G8, rfl, ⟨b8, rfl, hb8⟩, F8, R8, B8⟩; have s0 : w8.cell? ⟨bt, 2, none⟩ = some (ptr fb) := (B8.cell zbt).trans z2; have s1 : w8.cell? ⟨fb, 1, none⟩ = some (ptr xb) := (B8.cell zfb).trans z4; have s2 : w8.cell? ⟨bt, 3, none⟩ = some (ptr nb) := (B8.cell zbt).trans z3; have K := evaluates_more (HR9.out.next F8 (fun x k hx => B8.block x (HR9.out.rep.lt hx)) R8) ⟨xb, rfl, F8.le _ _ (HG9.out _ _ HFN.out.2.2.1)⟩ ⟨b8, rfl, hb8⟩; have HF8 := Hid.mk F8; have HL8 : Hid (bt ≠ rb ∧ fb ≠ rb) := ⟨HNR.out⟩; clear B8 F8 R8)
        | (go_at_call 71; refine K.mono ?_; rintro e w10 ⟨H9, O9⟩; have t0 := (World.cell?_of_block (a := ⟨bt, 2, none⟩) (O9 bt HL8.out.1)).trans s0; have t1 := (World.cell?_of_block (a := ⟨fb, 1, none⟩) (O9 fb HL8.out.2)).trans s1; have t2 := (World.cell?_of_block (a := ⟨bt, 3, none⟩) (O9 bt HL8.out.1)).trans s2; have HE := Hid.mk (Out.from (HFX9.out.trans HF8.out) H9); obtain ⟨rfl, _⟩ := H9; clear O9))
      all_goals go_wp2
      all_goals go_end0
      all_goals (rw [HQ.out]; exact HE.out)
    · have eq : enterF s f L = { s with md := .ev x (inE e (L.take a)) } := by unfold enterF; rw [thAt_some HFN.out.1]; simp only; rw [if_neg lt, if_neg gt]
      have HQ := Hid.mk (HES.out.trans eq)
      have g2 : ¬ a < n := by rw [NL.out]; exact gt
      have an : a ≤ n := by omega
      have ncp : n ≤ cap := NC.out
      have acap : a ≤ cap := by omega
      have SL1 : (L.take a).length = a := by rw [List.length_take]; omega
      obtain ⟨z2, z3, z4, zbt, zfb⟩ := CEL.out _ (Nat.le_refl _) (fun _ _ _ _ => rfl)
      have HR9 := Hid.mk RW.out.drew
      have HFX9 := Hid.mk (FX.out.trans (Fx.drewL _ _))
      have HG9 := Hid.mk (Le.refl G0)
      have WI := within_more RW.out.drew.rep HFN.out.2.2.2.1 PT.out HFN.out.2.2.2.2.2.1
      clear lt gt eq
      skip
      go_wp2
      go_region_held3 (fun w' => w'.cell? ⟨bt, 2, none⟩ = some (ptr fb) ∧ w'.cell? ⟨fb, 1, none⟩ = some (ptr xb) ∧ w'.cell? ⟨bt, 3, none⟩ = some (ptr nb)) (go_keep) (first
        | (go_at_call 100; refine WI.mono ?_; rintro r w8 ⟨u8, G8, rfl, ⟨b8, rfl, hb8⟩, F8, R8, B8⟩; have s0 : w8.cell? ⟨bt, 2, none⟩ = some (ptr fb) := (B8.cell zbt).trans z2; have s1 : w8.cell? ⟨fb, 1, none⟩ = some (ptr xb) := (B8.cell zfb).trans z4; have s2 : w8.cell? ⟨bt, 3, none⟩ = some (ptr nb) := (B8.cell zbt).trans z3; have K := evaluates_more (HR9.out.next F8 (fun x k hx => B8.block x (HR9.out.rep.lt hx)) R8) ⟨xb, rfl, F8.le _ _ (HG9.out _ _ HFN.out.2.2.1)⟩ ⟨b8, rfl, hb8⟩; have HF8 := Hid.mk F8; have HL8 : Hid (bt ≠ rb ∧ fb ≠ rb) := ⟨HNR.out⟩; clear B8 F8 R8)
        | (go_at_call 71; refine K.mono ?_; rintro e w10 ⟨H9, O9⟩; have t0 := (World.cell?_of_block (a := ⟨bt, 2, none⟩) (O9 bt HL8.out.1)).trans s0; have t1 := (World.cell?_of_block (a := ⟨fb, 1, none⟩) (O9 fb HL8.out.2)).trans s1; have t2 := (World.cell?_of_block (a := ⟨bt, 3, none⟩) (O9 bt HL8.out.1)).trans s2; have HE := Hid.mk (Out.from (HFX9.out.trans HF8.out) H9); obtain ⟨rfl, _⟩ := H9; clear O9))
      all_goals go_wp2
      all_goals go_end0
      all_goals (rw [HQ.out]; exact HE.out)

theorem enter_any {ar : List Nat} (h : Run w G rb mb mv s sh) {b t : Nat} (hb : G b = some (.thing t)) {tv : T} (ht : s.th[t]? = some tv) {l : List Nat} {v : Value} (hl : pRow G l v) (h0 : l.length ≠ 0) (h8 : l.length ≤ 8) (ok : okAll ar s.th) (hw : s.ws.length + 1 ≤ 1000000000) :
    Calls Tryz.prog 78 #[ptr rb, ptr b, v] w (Out w G rb mb mv (enterS s t l) sh) := by
  obtain ⟨ga, cap, rfl, _⟩ := id hl
  by_cases c3 : isOf tv = 3
  · cases tv <;> simp [isOf] at c3
    exact enter_part h hb ht hl h0 h8 ok hw
  · by_cases c2 : isOf tv = 2
    · cases tv <;> simp [isOf] at c2
      exact enter_fn h hb ht hl h0 (by omega) ok hw
    · have e : enterS s t l = failS s 43 := by
        unfold enterS enterF
        rw [thAt_some ht]
        cases tv <;> first | rfl | exact absurd rfl c2 | exact absurd rfl c3
      rw [e]
      obtain ⟨tv', e', f, nm, o, ga2, gn, gc, it, wr, XB⟩ := h.rep.heads hb
      rw [ht] at e'
      cases e'
      have c0 := XB.cell 0
      have K := fails_any h 43 (by omega)
      obtain ⟨k, hk⟩ : ∃ k, isOf tv = k := ⟨_, rfl⟩
      rw [hk] at c0 c2 c3
      have g3 : ((k : Int) == 3) = false := beq_eq_false_iff_ne.2 (by omega)
      have g2 : ((k : Int) == 2) = false := beq_eq_false_iff_ne.2 (by omega)
      have g2' : ((k : Int) != 2) = true := by simp; omega
      generalize l.length = n at *
      clear h hb ht hl ok XB hk e
      go_enter Tryz.func78, Tryz.ntmps78
      go_wp2_with (go_at_call 75; refine K.mono ?_; intro e w10 H9; have HE := Hid.mk H9; obtain ⟨rfl, _⟩ := H9)
      go_end0
      exact HE.out

end
end Go.Proofs.YtbajpejnnfacbaaGreatDoor.Lz
