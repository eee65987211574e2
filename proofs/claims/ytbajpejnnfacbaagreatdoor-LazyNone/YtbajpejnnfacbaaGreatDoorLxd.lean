/- Package lazy: laying the one program that is laid at any rate: an atom, a teller, an expression. -/
import Derived.Test.YtbajpejnnfacbaaGreatDoorPrx
import Derived.Test.YtbajpejnnfacbaaGreatDoorLzo
import Derived.Test.YtbajpejnnfacbaaGreatDoorSch
import Derived.Deep.RegionHeld3
import Derived.Deep.Cut
import Derived.Laws.EntriesVeiled
namespace Go.Proofs.YtbajpejnnfacbaaGreatDoor.Lz
open Go.RowKit
set_option linter.unusedVariables false
set_option linter.unusedSimpArgs false

theorem info170 : (Tryz.prog.info? 170).map (fun i => (i.zero, i.size, i.bytes)) = some (some (.agg #[.bool false, .int .i64 0, .int .i64 0, .int .i64 0]), 4, 32) := by kernel_rfl
theorem RowS.open {w : World} {base size n cap : Nat} {e : TypeId} {ga : Option Addr} {xs : List Value} (h : RowS w base e size (.slice ga n cap) n xs) (hn : 0 < n) : ∃ g, ga = some ⟨g, 0, none⟩ ∧ base ≤ g ∧ g < w.heap.size ∧ n ≤ cap ∧ ∀ j u, xs[j]? = some u → w.cell? ⟨g, j, none⟩ = some u := by
  obtain ⟨ga', cap', e', hc⟩ := h.le
  cases e'
  rcases h with ⟨h0, _⟩ | h
  · omega
  · rcases h.2 with ⟨h1, h0⟩ | ⟨g, cap2, cur, e2, _⟩
    · omega
    · simp only [Value.slice.injEq] at e2
      obtain ⟨rfl, _⟩ := e2
      obtain ⟨a, b⟩ := h.lt g rfl
      exact ⟨g, rfl, a, b, hc, fun j u hu => by have := h.cells (g := g) rfl j u hu; cases j <;> simpa [Addr.add] using this⟩
abbrev amN (n : Int) : List Value := [.bool false, .int .i64 0, .int .i64 0, .int .i64 n]
set_option maxRecDepth 100000 in
set_option maxHeartbeats 2000000 in
theorem atoms_one {w : World} (l g off cap : Nat) (n : Int) (h0 : w.cell? ⟨g, off, none⟩ = some (.string ⟨#[]⟩)) (h1 : w.cell? ⟨g, off + 1, none⟩ = some (.int .i64 n)) :
    Calls Tryz.prog 61 #[ptr l, .slice (some ⟨g, off, none⟩) 1 cap] w fun e w' => ∃ q c, e = .returned (.slice (some ⟨q, 0, none⟩) 1 c) ∧ 1 ≤ c ∧ w.heap.size ≤ q ∧ q < w'.heap.size ∧ (∀ j u, (amN n)[j]? = some u → w'.cell? ⟨q, j, none⟩ = some u) ∧ Below w.heap.size w w' := by
  obtain ⟨i0, hi, hz0, hz1, hz2⟩ := info_parts info170
  go_enter Tryz.func61, Tryz.ntmps61
  go_wp2
  go_loopw [5, 10] (fun v c wr => (c = .int .i64 0 ∧ v = .slice none 0 0 ∧ wr = w) ∨ (c = .int .i64 1 ∧ ∃ q cap', v = .slice (some ⟨q, 0, none⟩) 1 cap' ∧ Hid (1 ≤ cap' ∧ w.heap.size ≤ q ∧ q < wr.heap.size ∧ (∀ j u, (amN n)[j]? = some u → wr.cell? ⟨q, j, none⟩ = some u) ∧ Below w.heap.size w wr))) (fun _ c _ => 1 - (intOf c).toNat)
  case atStart => exact .inl ⟨rfl, rfl, rfl⟩
  case round =>
    rcases hrel with ⟨rfl, rfl, rfl⟩ | ⟨rfl, q, c2, rfl, HH⟩
    · have hs : wr.heap.size ≤ ((wr.alloc (.cells #[.string ⟨#[]⟩, .int .i64 n] 68)).alloc (.cells #[.bool false, .int .i64 0, .int .i64 0, .int .i64 n] 170)).heap.size := by simp; omega
      go_wp2_with (at_builtin; refine wpList_append_T rfl (.tmp 17) (.tmp 21) 143 rfl wr.heap.size 170 i0 _ 4 32 Tryz.underlying143 hi hz0 hz1 hz2 rfl (by decide) (.slice none 0 0) 0 [] rfl (.inl ⟨rfl, rfl, none, rfl⟩) (some ⟨wr.heap.size + 1, 0, none⟩) 1 1 (amN n) rfl rfl (fun _ => ⟨_, rfl, by have := World.news_of_block (heap_alloc_new (wr.alloc (.cells #[.string ⟨#[]⟩, .int .i64 n] 68)) (.cells #[.bool false, .int .i64 0, .int .i64 0, .int .i64 n] 170)); simpa using this⟩) (by simp [amN, Value.oneCell']) 1 rfl (amN n) rfl (by unfold maxLen; omega) (by omega) hs ?_; intro g1 c1 w1 R1 B1; have HR1 := Hid.mk R1; have HB1 : Hid (Below wr.heap.size wr w1) := ⟨Below.trans (by go_grown) B1⟩; clear R1 B1)
      obtain ⟨gq, rfl, r1, r2, r3, r4⟩ := RowS.open HR1.out (by omega)
      exact ⟨.inr ⟨by go_num, gq, c1, rfl, ⟨r3, r1, r2, r4, HB1.out⟩⟩, by simp [intOf]⟩
    · obtain ⟨a, b, c, d, f⟩ := HH.out
      have HF := Hid.mk f
      clear f
      go_wp2
      go_ret
      exact ⟨_, _, rfl, a, b, c, d, HF.out⟩

theorem lOn {w a b : World} (h : Below w.heap.size w a) (k : Below a.heap.size a b) : Below w.heap.size w b := h.trans (Joins.below_le k h.size)
theorem cellL {w w' : World} (h : Below w.heap.size w w') {p o : Nat} {u : Value} (e : w.cell? ⟨p, o, none⟩ = some u) : w'.cell? ⟨p, o, none⟩ = some u :=
  (h.cell (p := ⟨p, o, none⟩) (World.block_lt_of_cell? _ _ e)).trans e
theorem cellN (w : World) (cs : Array Value) (t : TypeId) (o : Nat) (u : Value) (h : cs[o]? = some u) : (w.alloc (.cells cs t)).cell? ⟨w.heap.size, o, none⟩ = some u := by
  simp only [World.cell?, heap_alloc_new]
  exact h
abbrev emitS : ByteArray := ⟨#[35, 101, 109, 105, 116]⟩
theorem emit_name : str (tN (rowN 8)) = emitS := by decide
theorem emit_find : (prN [35, 101, 109, 105, 116] : Int) = 8 := by decide
set_option maxRecDepth 100000 in
theorem teller_emit (w : World) (T : Table w) : Calls Tryz.prog 64 #[.int .i64 8] w fun e w' => e = .returned (.func (.func 84) #[] #[]) ∧ Below w.heap.size w w' := by
  have C := name_any 8 w T
  rw [emit_name] at C
  go_enter Tryz.func64, Tryz.ntmps64
  go_wp2_with (go_at_call 83; refine C.mono ?_; rintro e w3 ⟨rfl, G3⟩)
  go_ret
  exact ⟨rfl, G3⟩
/-- an atom's block stays -/
theorem atb_set {w : World} {b q : Nat} {n : Int} (h : b ≤ q ∧ q < w.heap.size ∧ ∀ j u, (amN n)[j]? = some u → w.cell? ⟨q, j, none⟩ = some u) {p o : Nat} (hp : q ≠ p) (v : Value) : b ≤ q ∧ q < (w.setCell ⟨p, o, none⟩ v).heap.size ∧ ∀ j u, (amN n)[j]? = some u → (w.setCell ⟨p, o, none⟩ v).cell? ⟨q, j, none⟩ = some u :=
  ⟨h.1, by simp [World.setCell]; exact h.2.1, fun j u hu => (World.cell?_of_block (a := ⟨q, j, none⟩) (setCell_block w _ v q hp)).trans (h.2.2 j u hu)⟩
/-- an atom's block -/
def AtB (w : World) (b q : Nat) (n : Int) : Prop := b ≤ q ∧ q < w.heap.size ∧ ∀ j u, (amN n)[j]? = some u → w.cell? ⟨q, j, none⟩ = some u
theorem AtB.later {w w' : World} {b q : Nat} {n : Int} (h : AtB w b q n) (k : Below w.heap.size w w') : AtB w' b q n := ⟨h.1, Nat.lt_of_lt_of_le h.2.1 k.size, fun j u hu => cellL k (h.2.2 j u hu)⟩
abbrev emX (q c : Nat) : Array Value := xC 3 0 8 (.func (.func 84) #[] #[]) 0 0 (.slice (some ⟨q, 0, none⟩) 1 c) nils nilp nilm nilp
abbrev exB (g off cap : Nat) : Array Value := #[.int .i64 3, .int .i64 0, .string emitS, .int .i64 0, .slice (some ⟨g, off, none⟩) 1 cap, nils, nils, nils]
set_option maxRecDepth 100000 in
set_option maxHeartbeats 4000000 in
theorem exp_emit {w : World} (T : Table w) (l g off cap : Nat) (n : Int) (h0 : w.cell? ⟨g, off, none⟩ = some (.string ⟨#[]⟩)) (h1 : w.cell? ⟨g, off + 1, none⟩ = some (.int .i64 n)) :
    Calls Tryz.prog 48 #[ptr l, .agg (exB g off cap)] w fun e w' => ∃ p q c, e = .returned (ptr p) ∧ w.heap.size ≤ p ∧ p < q ∧ 1 ≤ c ∧ Bx w' p (emX q c) 147 ∧ AtB w' w.heap.size q n ∧ Below w.heap.size w w' := by
  obtain ⟨W2, hW2⟩ : ∃ W2, W2 = (w.alloc (.cells (exB g off cap) 53)).alloc (.cells (xC 3 0 0 .nilFunc 0 0 nils nils nilp nilm nilp) 147) := ⟨_, rfl⟩
  have B2 : Below w.heap.size w W2 := by subst hW2; go_grown
  have e2 : W2.cell? ⟨w.heap.size, 2, none⟩ = some (.string emitS) := by subst hW2; exact cellL (Joins.below_alloc1 _ _) (cellN _ _ _ _ _ rfl)
  have e4 : W2.cell? ⟨w.heap.size, 4, none⟩ = some (.slice (some ⟨g, off, none⟩) 1 cap) := by subst hW2; exact cellL (Joins.below_alloc1 _ _) (cellN _ _ _ _ _ rfl)
  have e0 : W2.cell? ⟨w.heap.size, 0, none⟩ = some (.int .i64 3) := by subst hW2; exact cellL (Joins.below_alloc1 _ _) (cellN _ _ _ _ _ rfl)
  have sz : W2.heap.size = w.heap.size + 2 := by subst hW2; simp
  have P2 : Hid (Bx W2 (w.heap.size + 1) (xC 3 0 0 .nilFunc 0 0 nils nils nilp nilm nilp) 147) := ⟨by
    subst hW2
    have := heap_alloc_new (w.alloc (.cells (exB g off cap) 53)) (.cells (xC 3 0 0 .nilFunc 0 0 nils nils nilp nilm nilp) 147)
    rw [World.size_alloc] at this
    exact this⟩
  have HB2 := Hid.mk B2
  have HSZ := Hid.mk sz
  have A63 : Hid (∀ W, Below W2.heap.size W2 W → Calls Tryz.prog 63 #[.string emitS] W fun e w' => e = .returned (.int .i64 8) ∧ Below W.heap.size W w') := ⟨fun W hW => by have := ppFind_any [35, 101, 109, 105, 116] W (T.later (lOn HB2.out hW)); rwa [emit_find] at this⟩
  have A61 : Hid (∀ W, Below W2.heap.size W2 W → Calls Tryz.prog 61 #[ptr l, .slice (some ⟨g, off, none⟩) 1 cap] W fun e w' => ∃ q c, e = .returned (.slice (some ⟨q, 0, none⟩) 1 c) ∧ 1 ≤ c ∧ AtB w' W.heap.size q n ∧ Below W.heap.size W w') := ⟨fun W hW => (atoms_one l g off cap n (cellL (lOn HB2.out hW) h0) (cellL (lOn HB2.out hW) h1)).mono fun e w' ⟨q, c, a, b, d, f, h, k⟩ => ⟨q, c, a, b, ⟨d, f, h⟩, k⟩⟩
  have A64 : Hid (∀ W, Below w.heap.size w W → Calls Tryz.prog 64 #[.int .i64 8] W fun e w' => e = .returned (.func (.func 84) #[] #[]) ∧ Below W.heap.size W w') := ⟨fun W hW => teller_emit W (T.later hW)⟩
  have PF : Hid (∀ W, Below W2.heap.size W2 W → (W.cell? ⟨w.heap.size + 1, 2, none⟩ = some (.int .i64 0) ∧ W.frozen? ⟨w.heap.size + 1, 2, none⟩ = false) ∧ (W.cell? ⟨w.heap.size + 1, 6, none⟩ = some nils ∧ W.frozen? ⟨w.heap.size + 1, 6, none⟩ = false)) := ⟨fun W hW => by
    have b := later' P2.out hW
    exact ⟨⟨Bx.cell b 2, Joins.unfrozen_of_block b 2⟩, ⟨Bx.cell b 6, Joins.unfrozen_of_block b 6⟩⟩⟩
  clear B2 h0 h1 sz T
  go_enter Tryz.func48, Tryz.ntmps48
  go_upto_region 10 with fail
  rw [← hW2]
  clear hW2
  go_region_held3 (fun w' => w'.cell? ⟨w.heap.size, 2, none⟩ = some (.string emitS) ∧ w'.cell? ⟨w.heap.size, 4, none⟩ = some (.slice (some ⟨g, off, none⟩) 1 cap)) (go_keep) (first
    | (go_at_call 63; have zz := K61; refine (A63.out _ K61.out).mono ?_; rintro e w9 ⟨rfl, G9⟩; have s2 := cellL G9 r2; have s4 := cellL G9 r4; have K9 := Hid.mk (lOn K61.out G9); obtain ⟨⟨f2, z2⟩, ⟨f6, z6⟩⟩ := PF.out _ K9.out; have KA := Hid.mk (AtB.later Q61.out G9); clear G9)
    | (go_at_call 61; have zz := K63; refine (A61.out _ K63.out).mono ?_; rintro e w9 ⟨q, cq, rfl, hc1, Q9, G9⟩; have s2 := cellL G9 r2; have s4 := cellL G9 r4; have K9 := Hid.mk (lOn K63.out G9); obtain ⟨⟨f2, z2⟩, ⟨f6, z6⟩⟩ := PF.out _ K9.out; have KA : Hid (AtB w9 W2.heap.size q n) := ⟨⟨Nat.le_trans K63.out.size Q9.1, Q9.2⟩⟩; have HC1 := Hid.mk hc1; clear G9 Q9 hc1)
    | (go_at_call 63; refine (A63.out _ (Below.refl _ _).drew).mono ?_; rintro e w8 ⟨rfl, G8⟩; have r2 := cellL (lOn (Below.refl _ _).drew G8) e2; have r4 := cellL (lOn (Below.refl _ _).drew G8) e4; have K63 := Hid.mk (lOn (Below.refl _ _).drew G8); clear G8)
    | (go_at_call 61; refine (A61.out _ (Below.refl _ _).drew).mono ?_; rintro e w8 ⟨q, cq, rfl, hc1, Q8, G8⟩; have r2 := cellL (lOn (Below.refl _ _).drew G8) e2; have r4 := cellL (lOn (Below.refl _ _).drew G8) e4; have K61 := Hid.mk (lOn (Below.refl _ _).drew G8); have Q61 : Hid (AtB w8 W2.heap.size q n) := ⟨Q8⟩; have HC1 := Hid.mk hc1; clear G8 Q8 hc1))
  all_goals go_upto_region 11 with fail
  all_goals
    obtain ⟨W4, hW4⟩ : ∃ W4, W4 = (w9.setCell ⟨w.heap.size + 1, 2, none⟩ (.int .i64 8)).setCell ⟨w.heap.size + 1, 6, none⟩ (.slice (some ⟨q, 0, none⟩) 1 cq) := ⟨_, rfl⟩
    have b9 : Bx w9 (w.heap.size + 1) (xC 3 0 0 .nilFunc 0 0 nils nils nilp nilm nilp) 147 := later' P2.out K9.out
    have b1 := Joins.block_setCell (i := 2) b9 (.int .i64 8)
    have b2 := Joins.block_setCell (i := 6) b1 (.slice (some ⟨q, 0, none⟩) 1 cq)
    have q0 : w.heap.size + 2 ≤ q := by have := KA.out.1; rw [HSZ.out] at this; exact this
    have HB4 : Hid (Below w.heap.size w W4) := ⟨by subst hW4; exact ((lOn HB2.out K9.out).setCell (by show w.heap.size ≤ w.heap.size + 1; omega) _).setCell (by show w.heap.size ≤ w.heap.size + 1; omega) _⟩
    have HA4 : Hid (AtB W4 w.heap.size q n) := ⟨by subst hW4; exact atb_set (atb_set ⟨by omega, KA.out.2⟩ (by omega) _) (by omega) _⟩
    have X4 : Hid (Bx W4 (w.heap.size + 1) (xC 3 0 8 .nilFunc 0 0 (.slice (some ⟨q, 0, none⟩) 1 cq) nils nilp nilm nilp) 147) := ⟨by subst hW4; exact b2⟩
    have y2 : W4.cell? ⟨w.heap.size + 1, 2, none⟩ = some (.int .i64 8) := X4.out.cell 2
    rw [← hW4]
    clear hW4 b9 b1 b2 s2 s4 f2 z2 f6 z6
    go_wp2_with (go_at_call 64; refine (A64.out _ HB4.out).mono ?_; rintro e w5 ⟨rfl, G5⟩; have HG5 := Hid.mk G5; have y3 := Bx.cell (later' X4.out G5) 3; have z3 := Joins.unfrozen_of_block (later' X4.out G5) 3; clear G5)
    go_ret
    exact ⟨w.heap.size + 1, q, cq, rfl, by omega, by omega, HC1.out, Joins.block_setCell (i := 3) (later' X4.out HG5.out) _, atb_set (AtB.later HA4.out HG5.out) (by omega) _, (lOn HB4.out HG5.out).setCell (by show w.heap.size ≤ w.heap.size + 1; omega) _⟩
end Go.Proofs.YtbajpejnnfacbaaGreatDoor.Lz

/- Package lazy: laying the one program that is laid at any rate: its form. -/
namespace Go.Proofs.YtbajpejnnfacbaaGreatDoor.Lz
open Go.RowKit
set_option linter.unusedVariables false
set_option linter.unusedSimpArgs false

set_option maxRecDepth 100000 in
set_option maxHeartbeats 4000000 in
theorem form1_emit {w : World} (T : Table w) (a b c f l g off cap : Nat) (n : Int) (h0 : w.cell? ⟨g, off, none⟩ = some (.string ⟨#[]⟩)) (h1 : w.cell? ⟨g, off + 1, none⟩ = some (.int .i64 n))
    (ha : w.cell? ⟨a, 0, none⟩ = some (ptr l)) (hc : w.cell? ⟨c, 0, none⟩ = some (ptr f)) (hf : Bx w f #[.int .i64 0, nilp] 119) (hb : ∀ j u, (exB g off cap)[j]? = some u → w.cell? ⟨b, j + 1, none⟩ = some u) (na : a ≠ f) (nc : c ≠ f) (nb : b ≠ f) :
    Calls Tryz.prog 47 #[ptr a, ptr b, ptr c] w fun e w' => e = done ∧ ∃ p q cq w1, w' = w1.setCell ⟨f, 1, none⟩ (ptr p) ∧ Below w.heap.size w w1 ∧ w.heap.size ≤ p ∧ p < q ∧ 1 ≤ cq ∧ Bx w1 p (emX q cq) 147 ∧ AtB w1 w.heap.size q n := by
  have b0 := hb 0 _ rfl
  have b1 := hb 1 _ rfl
  have b2 := hb 2 _ rfl
  have b3 := hb 3 _ rfl
  have b4 := hb 4 _ rfl
  have b5 := hb 5 _ rfl
  have b6 := hb 6 _ rfl
  have b7 := hb 7 _ rfl
  have HF := Hid.mk hf
  have C := exp_emit (T.later (Below.refl _ _).drew) l g off cap n (w := w.drew) h0 h1
  clear hb T hf
  go_enter Tryz.func47, Tryz.ntmps47
  go_wp2
  go_region_held3 (fun w' => w'.cell? ⟨c, 0, none⟩ = some (ptr f) ∧ w'.cell? ⟨a, 0, none⟩ = some (ptr l) ∧ w'.cell? ⟨b, 1, none⟩ = some (.int .i64 3) ∧ w'.cell? ⟨b, 2, none⟩ = some (.int .i64 0) ∧ w'.cell? ⟨b, 3, none⟩ = some (.string emitS) ∧ w'.cell? ⟨b, 4, none⟩ = some (.int .i64 0) ∧ w'.cell? ⟨b, 5, none⟩ = some (.slice (some ⟨g, off, none⟩) 1 cap) ∧ w'.cell? ⟨b, 6, none⟩ = some (nils) ∧ w'.cell? ⟨b, 7, none⟩ = some (nils) ∧ w'.cell? ⟨b, 8, none⟩ = some (nils)) (go_keep) (first | (go_at_call 48; refine C.mono ?_; rintro e w5 ⟨p, q, cq, rfl, k1, k2, k3, k4, k5, G5⟩; have D5 := lOn (Below.refl w.heap.size w).drew G5; have hc := cellL D5 hc; have ha := cellL D5 ha; have sk : ∀ {x o : Nat} {u : Value}, x ≠ f → w5.cell? ⟨x, o, none⟩ = some u → (w5.setCell ⟨f, 1, none⟩ (ptr p)).cell? ⟨x, o, none⟩ = some u := fun hx hu => (World.cell?_of_block (setCell_block w5 ⟨f, 1, none⟩ (ptr p) _ hx)).trans hu; have b0 := cellL D5 b0; have b1 := cellL D5 b1; have b2 := cellL D5 b2; have b3 := cellL D5 b3; have b4 := cellL D5 b4; have b5 := cellL D5 b5; have b6 := cellL D5 b6; have b7 := cellL D5 b7; have hc2 := sk nc hc; have ha2 := sk na ha; have d0 := sk nb b0; have d1 := sk nb b1; have d2 := sk nb b2; have d3 := sk nb b3; have d4 := sk nb b4; have d5 := sk nb b5; have d6 := sk nb b6; have d7 := sk nb b7; have f1 := Bx.cell (later' HF.out D5) 1; have z1 := Joins.unfrozen_of_block (later' HF.out D5) 1; have HK := Hid.mk (And.intro k1 (And.intro k2 (And.intro k3 (And.intro k4 (And.intro k5 D5))))); clear k1 k2 k3 k4 k5 G5 D5))
  all_goals go_wp2
  all_goals go_end0
  all_goals
    obtain ⟨k1, k2, k3, k4, k5, D5⟩ := HK.out
    exact ⟨rfl, p, q, cq, w5, rfl, D5, k1, k2, k3, k4, k5⟩
set_option maxRecDepth 100000 in
theorem inside_none {w : World} {u0 u1 u2 : Value} {l : Nat} {Q : World → Prop} (C : Calls Tryz.prog 47 #[u0, u1, u2] w fun e w' => e = done ∧ Q w') : Calls Tryz.prog 46 #[ptr l, nils, .func (.func 47) #[] #[u0, u1, u2]] w fun e w' => e = done ∧ Q w' := by
  go_enter Tryz.func46, Tryz.ntmps46
  go_wp2_with (go_at_call 47; refine C.mono ?_; rintro e w3 ⟨rfl, G3⟩)
  refine bodyPost_ret (results_none rfl _ _ _) rfl ?_
  exact ⟨rfl, G3⟩
abbrev foB (g off cap : Nat) : Array Value := #[nils, .int .i64 3, .int .i64 0, .string emitS, .int .i64 0, .slice (some ⟨g, off, none⟩) 1 cap, nils, nils, nils]
set_option maxRecDepth 100000 in
set_option maxHeartbeats 4000000 in
theorem form_emit {w : World} (T : Table w) (l g off cap : Nat) (n : Int) (h0 : w.cell? ⟨g, off, none⟩ = some (.string ⟨#[]⟩)) (h1 : w.cell? ⟨g, off + 1, none⟩ = some (.int .i64 n)) :
    Calls Tryz.prog 38 #[ptr l, .agg (foB g off cap)] w fun e w' => ∃ f p q cq, e = .returned (ptr f) ∧ w.heap.size ≤ f ∧ f < p ∧ p < q ∧ 1 ≤ cq ∧ Bx w' f #[.int .i64 0, ptr p] 119 ∧ Bx w' p (emX q cq) 147 ∧ AtB w' w.heap.size q n ∧ Below w.heap.size w w' := by
  obtain ⟨W2, hW2⟩ : ∃ W2, W2 = (((w.alloc (.cells #[ptr l] 129)).alloc (.cells (foB g off cap) 56)).alloc (.cells #[.int .i64 0, nilp] 119)).alloc (.cells #[ptr (w.heap.size + 2)] 88) := ⟨_, rfl⟩
  have HB2 : Hid (Below w.heap.size w W2) := ⟨by subst hW2; go_grown⟩
  have sz : W2.heap.size = w.heap.size + 4 := by subst hW2; simp
  have a0 : W2.cell? ⟨w.heap.size, 0, none⟩ = some (ptr l) := by subst hW2; exact cellL (Joins.below_alloc1 _ _) (cellL (Joins.below_alloc1 _ _) (cellL (Joins.below_alloc1 _ _) (cellN _ _ _ _ _ rfl)))
  have hb : ∀ j u, (foB g off cap)[j]? = some u → W2.cell? ⟨w.heap.size + 1, j, none⟩ = some u := fun j u hu => by
    subst hW2
    refine cellL (Joins.below_alloc1 _ _) (cellL (Joins.below_alloc1 _ _) ?_)
    have := cellN (w.alloc (.cells #[ptr l] 129)) (foB g off cap) 56 j u hu
    rw [World.size_alloc] at this
    exact this
  have X2 : Bx W2 (w.heap.size + 2) #[.int .i64 0, nilp] 119 := by
    subst hW2
    refine later' ?_ (Joins.below_alloc1 _ _)
    have := heap_alloc_new ((w.alloc (.cells #[ptr l] 129)).alloc (.cells (foB g off cap) 56)) (.cells #[.int .i64 0, nilp] 119)
    simp only [World.size_alloc] at this
    exact this
  have c0 : W2.cell? ⟨w.heap.size + 3, 0, none⟩ = some (ptr (w.heap.size + 2)) := by
    subst hW2
    have := cellN (((w.alloc (.cells #[ptr l] 129)).alloc (.cells (foB g off cap) 56)).alloc (.cells #[.int .i64 0, nilp] 119)) #[ptr (w.heap.size + 2)] 88 0 _ rfl
    simp only [World.size_alloc] at this
    exact this
  have b0 := hb 0 _ rfl
  have C := inside_none (l := l) (form1_emit (T.later HB2.out) w.heap.size (w.heap.size + 1) (w.heap.size + 3) (w.heap.size + 2) l g off cap n (cellL HB2.out h0) (cellL HB2.out h1) a0 c0 X2 (fun j u hu => hb (j + 1) u (by rcases j with _ | _ | _ | _ | _ | _ | _ | _ | j <;> simp_all)) (by omega) (by omega) (by omega))
  have HX2 := Hid.mk X2
  have HC0 := Hid.mk c0
  have HSZ := Hid.mk sz
  clear hb X2 T h0 h1 sz
  go_enter Tryz.func38, Tryz.ntmps38
  go_upto_region 2 with fail
  rw [← hW2]
  clear hW2
  go_wp2_with (go_at_call 46; refine C.mono ?_; rintro e w5 ⟨rfl, p, q, cq, w1, rfl, k1, k2, k3, k4, k5, k6⟩; have y0 : (w1.setCell ⟨w.heap.size + 2, 1, none⟩ (ptr p)).cell? ⟨w.heap.size + 3, 0, none⟩ = some (ptr (w.heap.size + 2)) := (World.cell?_of_block (a := ⟨w.heap.size + 3, 0, none⟩) (setCell_block w1 ⟨w.heap.size + 2, 1, none⟩ (ptr p) (w.heap.size + 3) (by simp))).trans (cellL k1 HC0.out); have HK := Hid.mk (And.intro k1 (And.intro k2 (And.intro k3 (And.intro k4 (And.intro k5 k6))))); clear k1 k2 k3 k4 k5 k6)
  go_ret
  obtain ⟨k1, k2, k3, k4, k5, k6⟩ := HK.out
  rw [HSZ.out] at k2 k6
  exact ⟨w.heap.size + 2, p, q, cq, rfl, by omega, by omega, k3, k4, Joins.block_setCell (i := 1) (later' HX2.out k1) (ptr p), (setCell_block _ _ _ _ (by show p ≠ w.heap.size + 2; omega)).trans k5, atb_set ⟨by have := k6.1; omega, k6.2⟩ (by have := k6.1; omega) _, (lOn HB2.out k1).setCell (by show w.heap.size ≤ w.heap.size + 2; omega) _⟩
end Go.Proofs.YtbajpejnnfacbaaGreatDoor.Lz
