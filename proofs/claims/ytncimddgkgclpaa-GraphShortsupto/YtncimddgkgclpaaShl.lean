/- GraphShorts: the walk. -/
import Derived.Test.YtncimddgkgclpaaSho
import Derived.Test.YtncimddgkgclpaaMtl
import Derived.Test.YtncimddgkgclpaaGrf
import Derived.Deep.RegionHeld3
import Derived.Deep.CutRange
namespace Go.Proofs.Ytncimddgkgclpaa
open Go.RowKit
set_option linter.unusedVariables false
set_option linter.unusedSimpArgs false
set_option maxRecDepth 100000

theorem fewG_ok {g : Gr} (ok : OkG g) (n : Nat) (hn : n < (fewG g).nd.length) : OkD (nd0 (fewG g).nd n) := by
  rw [nd0_get hn]
  have hx : (fewG g).nd[n] ∈ (g.nd.take 60).map fewD := List.getElem_mem hn
  obtain ⟨y, hy, e⟩ := List.mem_map.1 hx
  have := ok.nd y (List.mem_of_mem_take hy)
  rw [← e]
  exact ⟨this.k, this.i, this.ns, fun p hp => this.ks p (List.mem_of_mem_take hp)⟩
set_option maxHeartbeats 8000000 in
theorem shorts3 (g0 : Gr) (o1 : Option Addr) (c1 : Nat) (a1 : Option Addr) (d1 : Nat) (w : World) (G : Gv w g0 o1 c1 a1 d1) (ok : OkG g0) (hns : ∀ x, x ∈ g0.nd → x.ns.length ≤ 1048576) :
    Calls Try.prog 3 #[gv g0 o1 c1 a1 d1] w fun e w' => e = .returned (.bool true) ∧ Below w.heap.size w w' := by
  have CF := few8 g0 o1 a1 c1 d1
  obtain ⟨f1, f2, f3⟩ := fewG_few g0
  have f4 := fewG_words (Q := fun l => l.length ≤ 1048576) hns
  have f5 := fewG_words (Q := fun l => ∀ n ∈ l, 0 ≤ n ∧ n < 18446744073709551616) (fun x hx n hn => by have := (ok.nd x hx).ns n hn; unfold InU64 at this; omega)
  have f6 := fewG_ok ok
  generalize fewG g0 = g at *
  have sm := smOf f1 f2 f3 f4
  have okN : ∀ n, n < g.nd.length → OkN (nd0 g.nd n) := fun n hn => by rw [nd0_get hn]; exact f5 _ (List.getElem_mem hn)
  have C11 := fun (W : World) (o a : Option Addr) (c d : Nat) (H : Gv W g o c a d) => norm11 W g o a c d H sm
  have C12 := fun (W : World) (o a : Option Addr) (c d : Nat) (H : Gv W g o c a d) => norm12 g o a c d W H sm
  have C13 := fun (W : World) (o a : Option Addr) (c d : Nat) (H : Gv W g o c a d) => short13 W g o a c d H sm okN
  have C14 := fun (W : World) (o a : Option Addr) (c d : Nat) (H : Gv W g o c a d) => short14 g o a c d W H sm f6
  have l1 : (trG (kn g.nd.length) g).rs.length = g.rs.length := by simp [trG]
  have l2 : (trG (endI g.nd) g).rs.length = g.rs.length := by simp [trG]
  generalize trG (kn g.nd.length) g = s at *
  generalize trG (endI g.nd) g = t at *
  have CSM : ∀ (s : Gr) (W : World) (o a o' a' : Option Addr) (c d c' d' : Nat), Gv W s o c a d → Gv W s o' c' a' d' → Calls Try.prog 10 #[gv s o c a d, gv s o' c' a' d'] W fun e w' => e = .returned (.bool true) ∧ Below W.heap.size W w' := fun s W o a o' a' c d c' d' H H' =>
    (same10 s s o o' a a' c c' d d' W H H').mono fun e w' ⟨⟨x, e1, e2⟩, B⟩ => ⟨e1.trans (retBool (e2.2 (SameG.refl s))), B⟩
  have CS1 := CSM s
  have CS2 := CSM t
  have HAW := Hid.mk awake_any
  obtain ⟨n1, e1⟩ : ∃ n, g.rs.length = n := ⟨_, rfl⟩
  obtain ⟨n2, e2⟩ : ∃ n, g.nd.length = n := ⟨_, rfl⟩
  unfold gv at *
  rw [e1] at l1 l2
  rw [e1, e2] at CF
  rw [e1, e2, l1] at C11 C12
  rw [e1, e2, l2] at C13 C14
  rw [l1] at CS1
  rw [l2] at CS2
  generalize s.nd.length = k1 at *
  generalize t.nd.length = k2 at *
  have HF := Hid.mk CF
  have H11 := Hid.mk C11
  have H12 := Hid.mk C12
  have H13 := Hid.mk C13
  have H14 := Hid.mk C14
  have HS1 := Hid.mk CS1
  have HS2 := Hid.mk CS2
  clear CF C11 C12 C13 C14 CSM CS1 CS2 f1 f2 f3 f4 f5 f6 okN sm l1 l2 e1 e2 ok hns
  generalize g0.rs.length = m1 at *
  generalize g0.nd.length = m2 at *
  have B0 : Below w.heap.size w (w.alloc (.cells #[.slice o1 m1 c1, .slice a1 m2 d1] 25)) := by go_grown
  have y0 : (w.alloc (.cells #[.slice o1 m1 c1, .slice a1 m2 d1] 25)).heap[w.heap.size]? = some (.cells #[.slice o1 m1 c1, .slice a1 m2 d1] 25 (0, 0)) := heap_alloc_new _ _
  have G1 := G.later B0
  have HB0 := Hid.mk B0
  have HG1 := Hid.mk G1
  have HY : Hid (∀ W, Below (w.alloc (.cells #[.slice o1 m1 c1, .slice a1 m2 d1] 25)).heap.size (w.alloc (.cells #[.slice o1 m1 c1, .slice a1 m2 d1] 25)) W → W.heap[w.heap.size]? = some (.cells #[.slice o1 m1 c1, .slice a1 m2 d1] 25 (0, 0)) ∧ W.cell? ⟨w.heap.size, 0, none⟩ = some (.slice o1 m1 c1) ∧ W.cell? ⟨w.heap.size, 1, none⟩ = some (.slice a1 m2 d1) ∧ W.frozen? ⟨w.heap.size, 0, none⟩ = false ∧ W.frozen? ⟨w.heap.size, 1, none⟩ = false) := ⟨fun W B => by
    have y1 := (B.block w.heap.size (by simp)).trans y0
    exact ⟨y1, by rw [Joins.cell_of_block y1]; rfl, by rw [Joins.cell_of_block y1]; rfl, Joins.unfrozen_of_block y1 0, Joins.unfrozen_of_block y1 1⟩⟩
  clear B0 G1 G y0
  go_enter Try.func3, Try.ntmps3
  go_upto_region 2 with (go_at_call 8; with_reducible refine (HF.out _ HG1.out).mono ?_; rintro e w1 ⟨a2, d2, rfl, G2, B2⟩; have HG2 := Hid.mk G2; obtain ⟨y1, xc0, xc1, xf0, xf1⟩ := HY.out _ B2; have HY1 := Hid.mk y1; have HB2 := Hid.mk (belowOn HB0.out B2); clear G2 B2 y1)
  have B3 : Below w.heap.size w ((w1.setCell ⟨w.heap.size, 0, none⟩ (.slice o1 n1 c1)).setCell ⟨w.heap.size, 1, none⟩ (.slice a2 n2 d2)) := (HB2.out.setCell (Nat.le_refl _) _).setCell (Nat.le_refl _) _
  have z3 : ((w1.setCell ⟨w.heap.size, 0, none⟩ (.slice o1 n1 c1)).setCell ⟨w.heap.size, 1, none⟩ (.slice a2 n2 d2)).heap[w.heap.size]? = some (.cells #[.slice o1 n1 c1, .slice a2 n2 d2] 25 (0, 0)) := Joins.block_setCell (Joins.block_setCell HY1.out (i := 0) (.slice o1 n1 c1)) (i := 1) (.slice a2 n2 d2)
  have G3 := HG2.out.box HY1.out (.slice o1 n1 c1) (.slice a2 n2 d2)
  generalize (w1.setCell ⟨w.heap.size, 0, none⟩ (.slice o1 n1 c1)).setCell ⟨w.heap.size, 1, none⟩ (.slice a2 n2 d2) = W3 at *
  have y0 : W3.cell? ⟨w.heap.size, 0, none⟩ = some (.slice o1 n1 c1) := by rw [Joins.cell_of_block z3]; rfl
  have y1 : W3.cell? ⟨w.heap.size, 1, none⟩ = some (.slice a2 n2 d2) := by rw [Joins.cell_of_block z3]; rfl
  have HC := Hid.mk (fun (W : World) (b : Below W3.heap.size W3 W) => And.intro (cellLater b y0) (cellLater b y1))
  have HGS := Hid.mk (fun (W : World) (b : Below W3.heap.size W3 W) => G3.later b)
  have HX : Hid (Below W3.heap.size W3 W3.drew) := ⟨(Below.refl _ _).drew⟩
  have HB3 := Hid.mk B3
  clear B3 z3 G3 xc0 xc1 xf0 xf1 HY1 HG2 HB2 HY HB0 HG1 HF
  go_region_held3 (fun W' => W'.cell? ⟨w.heap.size, 0, none⟩ = some (.slice o1 n1 c1) ∧ W'.cell? ⟨w.heap.size, 1, none⟩ = some (.slice a2 n2 d2)) (go_keep) (first
    | (go_at_call 9; with_reducible refine (HAW.out _).mono ?_; clear HAW; rintro e w4 ⟨rfl, BA⟩; replace BA := (BA : Below W3.drew.heap.size W3.drew w4); replace HX := Hid.mk (belowOn HX.out BA); obtain ⟨x0, x1⟩ := HC.out _ HX.out; clear BA)
    | (go_at_call 11; with_reducible refine (H11.out _ _ _ _ _ (HGS.out _ HX.out)).mono ?_; clear H11; rintro e w5 ⟨o5, c5, a5, d5, rfl, G5, BA⟩; have HG5 := Hid.mk G5.gv; clear G5; replace HX := Hid.mk (belowOn HX.out BA); obtain ⟨x0, x1⟩ := HC.out _ HX.out; clear BA)
    | (go_at_call 12; with_reducible refine (H12.out _ _ _ _ _ (HGS.out _ HX.out)).mono ?_; clear H12; rintro e w6 ⟨o6, c6, a6, d6, rfl, G6, BA⟩; have HG6 := Hid.mk G6; clear G6; replace HG5 := Hid.mk (HG5.out.later BA); replace HX := Hid.mk (belowOn HX.out BA); obtain ⟨x0, x1⟩ := HC.out _ HX.out; clear BA)
    | (go_at_call 10; with_reducible refine (HS1.out _ _ _ _ _ _ _ _ _ HG5.out HG6.out).mono ?_; clear HS1 HG5 HG6; rintro e w7 ⟨rfl, BA⟩; replace HX := Hid.mk (belowOn HX.out BA); obtain ⟨x0, x1⟩ := HC.out _ HX.out; clear BA)
    | (go_at_call 13; with_reducible refine (H13.out _ _ _ _ _ (HGS.out _ HX.out)).mono ?_; clear H13; rintro e w8 ⟨o8, c8, a8, d8, rfl, G8, BA⟩; have HG8 := Hid.mk G8.gv; clear G8; replace HX := Hid.mk (belowOn HX.out BA); obtain ⟨x0, x1⟩ := HC.out _ HX.out; clear BA)
    | (go_at_call 14; with_reducible refine (H14.out _ _ _ _ _ (HGS.out _ HX.out)).mono ?_; clear H14; rintro e w9 ⟨o9, c9, a9, d9, rfl, G9, BA⟩; have HG9 := Hid.mk G9; clear G9; replace HG8 := Hid.mk (HG8.out.later BA); replace HX := Hid.mk (belowOn HX.out BA); obtain ⟨x0, x1⟩ := HC.out _ HX.out; clear BA)
    | (go_at_call 10; with_reducible refine (HS2.out _ _ _ _ _ _ _ _ _ HG8.out HG9.out).mono ?_; clear HS2 HG8 HG9; rintro e w10 ⟨rfl, BA⟩; replace HX := Hid.mk (belowOn HX.out BA); obtain ⟨x0, x1⟩ := HC.out _ HX.out; clear BA))
  go_wp2
  go_ret
  exact ⟨rfl, belowOn HB3.out HX.out⟩
end Go.Proofs.Ytncimddgkgclpaa
