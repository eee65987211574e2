/- The program's Norm and Short. -/
import Derived.Test.YtncimddgkgclpaaMtk
namespace Go.Proofs.Ytncimddgkgclpaa
open Go.RowKit
set_option linter.unusedVariables false
set_option linter.unusedSimpArgs false
set_option maxRecDepth 100000

theorem kn_plc (m : Nat) (n : Int) : -1 ≤ kn m n ∧ kn m n < m := by unfold kn; split <;> omega
set_option maxHeartbeats 2000000 in
theorem tnN {w : World} {gb m ca rl rc : Nat} {ro a : Option Addr} (hb : w.heap.size ≤ gb) : TnN w (fun _ => False) (fun W => Below w.heap.size w W ∧ W.heap[gb]? = some (.cells #[.slice ro rl rc, .slice a m ca] 25 (0, 0))) (kn m) gb := by
  refine ⟨fun W hW n => ?_, fun W W' hW K => ⟨hW.1.trans K.bel, K.keep _ _ _ _ hW.2 (by decide) id⟩, fun W hW => hW.1, fun W k i v c f hW h1 _ h3 => ⟨hW.1.setCell h3 _, (Below.heap_setCell _ _ _ _ (ne_kind hW.2 h1 (by decide))).trans hW.2⟩⟩
  have c1 : W.cell? ⟨gb, 1, none⟩ = some (.slice a m ca) := by rw [Joins.cell_of_block hW.2]; rfl
  have KN := known_any n m W
  have HW := Hid.mk hW
  clear hW
  go_enter Try.func22, Try.ntmps22
  go_wp2_with (go_at_call 23; refine KN.mono ?_; clear KN; rintro e w1 ⟨rfl, hw⟩; rw [hw]; clear hw)
  go_ret
  exact ⟨rfl, HW.out, Kx.refl _ _ _⟩
set_option maxHeartbeats 4000000 in
/-- the program's Norm -/
theorem norm11 (w : World) (g : Gr) (o a : Option Addr) (cr ca : Nat) (G : Gv w g o cr a ca) (sm : Sm g) :
    Calls Try.prog 11 #[gv g o cr a ca] w fun e w' => ∃ o1 c1 a1 ca1, e = .returned (gv (trG (kn g.nd.length) g) o1 c1 a1 ca1) ∧ Gb w' (trG (kn g.nd.length) g) o1 c1 a1 ca1 ∧ Below w.heap.size w w' := by
  have B2 : Below w.heap.size w ((w.alloc (.cells #[.slice o g.rs.length cr, .slice a g.nd.length ca] 25)).alloc (.cells #[.slice none 0 0, .slice none 0 0] 25)) := by go_grown
  have s2 : ((w.alloc (.cells #[.slice o g.rs.length cr, .slice a g.nd.length ca] 25)).alloc (.cells #[.slice none 0 0, .slice none 0 0] 25)).heap.size = w.heap.size + 2 := by simp
  have y0 : ((w.alloc (.cells #[.slice o g.rs.length cr, .slice a g.nd.length ca] 25)).alloc (.cells #[.slice none 0 0, .slice none 0 0] 25)).heap[w.heap.size]? = some (.cells #[.slice o g.rs.length cr, .slice a g.nd.length ca] 25 (0, 0)) := (Below.heap_alloc _ _ _ (by simp)).trans (heap_alloc_new _ _)
  have y1 : ((w.alloc (.cells #[.slice o g.rs.length cr, .slice a g.nd.length ca] 25)).alloc (.cells #[.slice none 0 0, .slice none 0 0] 25)).heap[w.heap.size + 1]? = some (.cells #[.slice none 0 0, .slice none 0 0] 25 (0, 0)) := by
    have := heap_alloc_new (w.alloc (.cells #[.slice o g.rs.length cr, .slice a g.nd.length ca] 25)) (.cells #[.slice none 0 0, .slice none 0 0] 25)
    simpa using this
  have CT := turned21N (tnN (w := w) (gb := w.heap.size) (m := g.nd.length) (ca := ca) (rl := g.rs.length) (rc := cr) (ro := o) (a := a) (Nat.le_refl _)) ⟨B2, y0⟩ g o a cr ca G sm (fun _ q => q.elim) (kn_plc _)
  generalize kn g.nd.length = tf at *
  unfold gv at *
  obtain ⟨n1, e1⟩ : ∃ n, g.rs.length = n := ⟨_, rfl⟩
  obtain ⟨n2, e2⟩ : ∃ n, g.nd.length = n := ⟨_, rfl⟩
  rw [e1, e2] at CT B2 y0 y1 s2 ⊢
  have HCT := Hid.mk CT
  have HY := Hid.mk (And.intro B2 (And.intro y1 s2))
  clear CT B2 s2 y0 y1 e1 e2 G sm
  go_enter Try.func11, Try.ntmps11
  go_wp2_with (go_at_call 21; refine HCT.out.mono ?_; clear HCT; rintro e w3 ⟨o1, c1, a1, ca1, rfl, G3, K3⟩; have y3 := K3.keep _ _ _ _ HY.out.2.1 (by decide) id; have H3 := Hid.mk (And.intro G3 (And.intro K3 y3)); have b0 : w3.cell? ⟨w.heap.size + 1, 0, none⟩ = some (.slice none 0 0) := (by rw [Joins.cell_of_block y3]; rfl); have b1 : w3.cell? ⟨w.heap.size + 1, 1, none⟩ = some (.slice none 0 0) := (by rw [Joins.cell_of_block y3]; rfl); have z0 := Joins.unfrozen_of_block y3 0; have z1 := Joins.unfrozen_of_block y3 1; clear G3 K3 y3)
  obtain ⟨G3, K3, y3⟩ := H3.out
  have f1 := Joins.block_setCell y3 (i := 0) (.slice o1 (trG tf g).rs.length c1)
  have f2 := Joins.block_setCell f1 (i := 1) (.slice a1 (trG tf g).nd.length ca1)
  have KS : Kt w.heap.size 25 w3 ((w3.setCell ⟨w.heap.size + 1, 0, none⟩ (.slice o1 (trG tf g).rs.length c1)).setCell ⟨w.heap.size + 1, 1, none⟩ (.slice a1 (trG tf g).nd.length ca1)) := (Kt.set y3 (by omega)).trans (Kt.set f1 (by omega))
  exact bodyPost_ret (results_cell_row Try.results11 _ _ (w.heap.size + 1) 25 _ (0, 0) _ rfl f2 Try.underlying25 rfl size25) rfl ⟨o1, c1, a1, ca1, rfl, G3.ky KS.ky (by decide) (by decide) (by decide), (HY.out.1.trans K3.bel).trans KS.bel⟩
theorem endI_plc (g : List Nd) (n : Int) : -1 ≤ endI g n ∧ endI g n < g.length := by
  unfold endI
  split
  · rename_i h
    cases he : endF g n.toNat with
    | none => simp [oI]; omega
    | some e =>
      have := endF_lt he (by omega)
      simp [oI]; omega
  · omega
theorem Wy.set3 {w0 w : World} {wb eb sb ca k i : Nat} {g : List Nd} {a : Option Addr} {E S : Nat → Int} {v u : Value} {P : List (Nat × Bool)} {c : Array Value} {f : Nat × Nat} (h : Wy w0 w wb eb sb g a ca E S v P) (h1 : w.heap[k]? = some (.cells c 3 f)) (hx : ¬ Xw wb eb sb k) (hk : w0.heap.size ≤ k) : Wy w0 (w.setCell ⟨k, i, none⟩ u) wb eb sb g a ca E S v P := by
  have far : ∀ q, q ≠ k → (w.setCell ⟨k, i, none⟩ u).heap[q]? = w.heap[q]? := fun q hq => Below.heap_setCell _ _ _ _ hq
  have h2 : wb ≠ k ∧ eb ≠ k ∧ sb ≠ k := ⟨fun e => hx (.inl e.symm), fun e => hx (.inr (.inl e.symm)), fun e => hx (.inr (.inr e.symm))⟩
  refine ⟨h.bel.setCell hk _, h.nds, (far _ h2.1).trans h.box, h.ends.block fun o e _ => (far _ h2.2.1).trans e, h.spots.block fun o e _ => (far _ h2.2.2).trans e, own_set h.path (fun e => ?_) _ _, h.lo, h.ne⟩
  rcases h.path.2 with ⟨q, _⟩ | ⟨pb, cap, cur, rfl, hb, hg, _⟩
  · subst q; simp [Value.ownBlock] at e
  · have e' : pb = k := Option.some.inj e
    subst e'
    exact ne_kind hg h1 (by decide) rfl
theorem tnS {w : World} {wb eb sb ca : Nat} {g : List Nd} {a : Option Addr} (hm : g.length ≤ 1000) (ok : ∀ x, x < g.length → OkN (nd0 g x)) : TnS w (Xw wb eb sb) (fun W => ∃ E S v, Wy w W wb eb sb g a ca E S v [] ∧ Iw g E S []) (endI g) wb := by
  refine ⟨fun W ⟨E, S, v, h, I⟩ n => ?_, fun W W' ⟨E, S, v, h, I⟩ K => ⟨E, S, v, h.ky K (by decide) (by decide) (by decide), I⟩, fun W ⟨E, S, v, h, I⟩ => h.bel, fun W k i u c f ⟨E, S, v, h, I⟩ h1 hx hk => ⟨E, S, v, h.set3 h1 hx hk, I⟩⟩
  refine (end27 h I n hm ok).mono ?_
  rintro e w' ⟨rfl, ⟨E', S', v', h', I'⟩, K⟩
  exact ⟨rfl, ⟨E', S', v', h', I'⟩, K⟩
set_option maxHeartbeats 4000000 in
/-- the program's Short -/
theorem short13 (w : World) (g : Gr) (o a : Option Addr) (cr ca : Nat) (G : Gv w g o cr a ca) (sm : Sm g) (ok : ∀ x, x < g.nd.length → OkN (nd0 g.nd x)) :
    Calls Try.prog 13 #[gv g o cr a ca] w fun e w' => ∃ o1 c1 a1 ca1, e = .returned (gv (trG (endI g.nd) g) o1 c1 a1 ca1) ∧ Gb w' (trG (endI g.nd) g) o1 c1 a1 ca1 ∧ Below w.heap.size w w' := by
  have B2 : Below w.heap.size w ((w.alloc (.cells #[.slice o g.rs.length cr, .slice a g.nd.length ca] 25)).alloc (.cells #[.slice none 0 0, .slice none 0 0] 25)) := by go_grown
  have s2 : ((w.alloc (.cells #[.slice o g.rs.length cr, .slice a g.nd.length ca] 25)).alloc (.cells #[.slice none 0 0, .slice none 0 0] 25)).heap.size = w.heap.size + 2 := by simp
  have y0 : ((w.alloc (.cells #[.slice o g.rs.length cr, .slice a g.nd.length ca] 25)).alloc (.cells #[.slice none 0 0, .slice none 0 0] 25)).heap[w.heap.size]? = some (.cells #[.slice o g.rs.length cr, .slice a g.nd.length ca] 25 (0, 0)) := (Below.heap_alloc _ _ _ (by simp)).trans (heap_alloc_new _ _)
  have y1 : ((w.alloc (.cells #[.slice o g.rs.length cr, .slice a g.nd.length ca] 25)).alloc (.cells #[.slice none 0 0, .slice none 0 0] 25)).heap[w.heap.size + 1]? = some (.cells #[.slice none 0 0, .slice none 0 0] 25 (0, 0)) := by
    have := heap_alloc_new (w.alloc (.cells #[.slice o g.rs.length cr, .slice a g.nd.length ca] 25)) (.cells #[.slice none 0 0, .slice none 0 0] 25)
    simpa using this
  have CW := fun (W : World) (B : Below w.heap.size w W) => newWay26 g.nd a ca W (Nds.later G.nd B) sm.nd
  have CT := fun (W0 W : World) (B : Below w.heap.size w W0) (wb eb sb : Nat) (h : Wy W0 W wb eb sb g.nd a ca (fun _ => -2) (fun _ => -1) (.slice none 0 0) []) =>
    turned21S (tnS (w := W0) (wb := wb) (eb := eb) (sb := sb) (ca := ca) (a := a) sm.nd ok) ⟨_, _, _, h, Iw.start _⟩ g o a cr ca (G.later B) sm (fun k q => by
      rcases q with rfl | rfl | rfl
      · exact h.ltm
      · exact h.ends.lt
      · exact h.spots.lt) (endI_plc _)
  generalize endI g.nd = tf at *
  unfold gv at *
  obtain ⟨n1, e1⟩ : ∃ n, g.rs.length = n := ⟨_, rfl⟩
  obtain ⟨n2, e2⟩ : ∃ n, g.nd.length = n := ⟨_, rfl⟩
  rw [e2] at CW
  rw [e1, e2] at CT B2 y0 y1 s2 ⊢
  have HCT := Hid.mk CT
  have HCW := Hid.mk CW
  have HY := Hid.mk (And.intro B2 (And.intro y1 s2))
  have d0 : ((w.alloc (.cells #[.slice o n1 cr, .slice a n2 ca] 25)).alloc (.cells #[.slice none 0 0, .slice none 0 0] 25)).cell? ⟨w.heap.size, 0, none⟩ = some (.slice o n1 cr) := by rw [Joins.cell_of_block y0]; rfl
  have d1 : ((w.alloc (.cells #[.slice o n1 cr, .slice a n2 ca] 25)).alloc (.cells #[.slice none 0 0, .slice none 0 0] 25)).cell? ⟨w.heap.size, 1, none⟩ = some (.slice a n2 ca) := by rw [Joins.cell_of_block y0]; rfl
  clear CT CW B2 s2 y0 y1 e1 e2 G sm ok
  go_enter Try.func13, Try.ntmps13
  go_wp2
  generalize (w.alloc (.cells #[.slice o n1 cr, .slice a n2 ca] 25)).alloc (.cells #[.slice none 0 0, .slice none 0 0] 25) = W at *
  have HX : Hid (Below W.heap.size W W.drew) := ⟨(Below.refl _ _).drew⟩
  have HD := Hid.mk (fun (W' : World) (b : Below W.heap.size W W') => And.intro (cellLater b d0) (cellLater b d1))
  have HBW : Hid (Below w.heap.size w W.drew) := ⟨HY.out.1.drew⟩
  have hsz : Hid (W.heap.size = w.heap.size + 2) := ⟨HY.out.2.2⟩
  have HE : Hid (∀ W', Below W.heap.size W W' → W'.heap[w.heap.size + 1]? = some (.cells #[.slice none 0 0, .slice none 0 0] 25 (0, 0))) := ⟨fun W' B => (B.block _ (Array.getElem?_eq_some_iff.1 HY.out.2.1).1).trans HY.out.2.1⟩
  go_region_held3 (fun W' => W'.cell? ⟨w.heap.size, 0, none⟩ = some (.slice o n1 cr) ∧ W'.cell? ⟨w.heap.size, 1, none⟩ = some (.slice a n2 ca)) (go_keep) (first
    | (go_at_call 26; refine (HCW.out _ HBW.out).mono ?_; rintro e w5 ⟨wb, eb, sb, rfl, H5⟩; have HH5 := Hid.mk H5; replace HX := Hid.mk (HX.out.trans H5.bel); obtain ⟨x0, x1⟩ := HD.out _ HX.out; clear H5)
    | (go_at_call 21; refine (HCT.out _ _ HBW.out _ _ _ HH5.out).mono ?_; rintro e w6 ⟨o1, c1, a1, ca1, rfl, G6, K6⟩; have HG6 := Hid.mk G6; replace HX := Hid.mk (HX.out.trans K6.bel); obtain ⟨x0, x1⟩ := HD.out _ HX.out; have y6 := HE.out _ HX.out; have b0 : w6.cell? ⟨w.heap.size + 1, 0, none⟩ = some (.slice none 0 0) := (by rw [Joins.cell_of_block y6]; rfl); have b1 : w6.cell? ⟨w.heap.size + 1, 1, none⟩ = some (.slice none 0 0) := (by rw [Joins.cell_of_block y6]; rfl); have z0 := Joins.unfrozen_of_block y6 0; have z1 := Joins.unfrozen_of_block y6 1; clear G6 K6 y6))
  go_wp2
  have y6 := HE.out _ HX.out
  have f1 := Joins.block_setCell y6 (i := 0) (.slice o1 (trG tf g).rs.length c1)
  have f2 := Joins.block_setCell f1 (i := 1) (.slice a1 (trG tf g).nd.length ca1)
  have KS : Kt w.heap.size 25 w6 ((w6.setCell ⟨w.heap.size + 1, 0, none⟩ (.slice o1 (trG tf g).rs.length c1)).setCell ⟨w.heap.size + 1, 1, none⟩ (.slice a1 (trG tf g).nd.length ca1)) := (Kt.set y6 (by omega)).trans (Kt.set f1 (by omega))
  exact bodyPost_ret (results_cell_row Try.results13 _ _ (w.heap.size + 1) 25 _ (0, 0) _ rfl f2 Try.underlying25 rfl size25) rfl ⟨o1, c1, a1, ca1, rfl, HG6.out.ky KS.ky (by decide) (by decide) (by decide), (HY.out.1.trans (HX.out.mono (by have := hsz.out; omega))).trans KS.bel⟩
end Go.Proofs.Ytncimddgkgclpaa
