/- GraphNumbers: the walk. -/
import Derived.Test.YtncimddgkgclpaaRnm
import Derived.Test.YtncimddgkgclpaaNug
import Derived.Test.YtncimddgkgclpaaTwp
import Derived.Test.YtncimddgkgclpaaGrc
import Derived.Deep.RegionHeld3
import Derived.Deep.CutRange
namespace Go.Proofs.Ytncimddgkgclpaa
open Go.RowKit
set_option linter.unusedVariables false
set_option linter.unusedSimpArgs false
set_option maxRecDepth 100000

/-- what is not a number's cell plays no part in a graph -/
theorem PS.far {kd : IntKind} {w w' : World} {z cap : Nat} {o : Option Addr} {l : List Int} (h : PS kd w o cap l) (hz : ∀ off k n, w.cell? ⟨z, off, none⟩ ≠ some (.int k n)) (hk : ∀ k off v, k ≠ z → w.cell? ⟨k, off, none⟩ = some v → w'.cell? ⟨k, off, none⟩ = some v) : PS kd w' o cap l :=
  ⟨h.cap, h.len, fun hn => by
    obtain ⟨g, off, rfl, hx⟩ := h.num hn
    exact ⟨g, off, rfl, fun i hi => hk g _ _ (fun e => hz (off + i) kd _ (by rw [← e]; exact hx i hi)) (hx i hi)⟩⟩
theorem Gv.far {w w' : World} {z c d : Nat} {g : Gr} {o a : Option Addr} (G : Gv w g o c a d) (hz : ∀ off k n, w.cell? ⟨z, off, none⟩ ≠ some (.int k n)) (hk : ∀ k off v, k ≠ z → w.cell? ⟨k, off, none⟩ = some v → w'.cell? ⟨k, off, none⟩ = some v) : Gv w' g o c a d := by
  refine ⟨G.rs.far hz hk, ?_⟩
  obtain ⟨ga, cap, e, hc, hx⟩ := G.nd
  refine ⟨ga, cap, e, hc, fun hn => ?_⟩
  obtain ⟨q, off, rfl, hy⟩ := hx hn
  refine ⟨q, off, rfl, fun i x hi => ?_⟩
  obtain ⟨cs, ⟨o1, c1, o2, c2, rfl, p1, p2⟩, h4⟩ := hy i x hi
  have h0 := h4 0 _ rfl
  have hq : q ≠ z := fun e => hz (off + i * 4 + 0) .i64 x.k (by rw [← e]; exact h0)
  exact ⟨_, ⟨o1, c1, o2, c2, rfl, p1.far hz hk, p2.far hz hk⟩, fun j u hj => hk q _ _ hq (h4 j u hj)⟩
/-- the graph in the making -/
structure Nst (W wx : World) (p pn n : Nat) (o : Option Addr) (n1 c : Nat) (l : List Int) : Prop where
  bel : Below W.heap.size W wx
  lo : W.heap.size ≤ p
  box : wx.heap[p]? = some (.cells #[.slice o n1 c, .slice (some ⟨pn, 0, none⟩) n n] 25 (0, 0))
  row : ∃ cs, wx.ownsRow W.heap.size 34 4 (.slice (some ⟨pn, 0, none⟩) n n) n cs
  rs : Fs W.heap.size (fun _ => False) wx .i64 3 o c l
theorem made34 (n : Nat) (hn : n ≤ 1000) : ∃ CS : Array Value, CS.size = n * 4 ∧ ∀ W : World, (Instr.makeSlice 23 (.int .i64 (n : Int)) (.int .i64 (n : Int))).run Try.prog W = .ok (.slice (some ⟨W.heap.size, 0, none⟩) n n) (W.alloc (.cells CS 34)) := by
  obtain ⟨i0, hi0, hz0, hz1, hz2⟩ := info_parts info34
  refine ⟨madeCells (Value.agg #[.int .i64 0, .int .i64 0, .slice none 0 0, .slice none 0 0]).cells (n * 4), size_madeCells _ _, fun W => ?_⟩
  have := run_make (P := Try.prog) W 23 34 i0 _ Try.underlying23 hi0 hz0 .i64 .i64 (n : Int) (n : Int) (by omega) (Int.le_refl _) (by rw [hz2]; omega) (by omega)
  rw [hz1] at this
  simpa using this
theorem own_setFar {w : World} {base n b i : Nat} {p : Nat} {cap : Nat} {cs : List Value} {u : Value} (h : w.ownsRow base 34 4 (.slice (some ⟨p, 0, none⟩) n cap) n cs) (hp : p ≠ b) : (w.setCell ⟨b, i, none⟩ u).ownsRow base 34 4 (.slice (some ⟨p, 0, none⟩) n cap) n cs := by
  obtain ⟨hl, ⟨q, _⟩ | ⟨g', cap', cur, q, h1, h2, h3, h4, h5, h6⟩⟩ := h
  · cases q
  · have e : p = g' := by simp only [Value.slice.injEq, Option.some.injEq] at q; exact congrArg Addr.block q.1
    exact ⟨hl, .inr ⟨g', cap', cur, q, h1, (Below.heap_setCell _ _ _ _ (by rw [← e]; exact hp)).trans h2, h3, h4, h5, h6⟩⟩
theorem Fs.low {lo lo' t cap : Nat} {X : Nat → Prop} {w : World} {kd : IntKind} {o : Option Addr} {l : List Int} (h : Fs lo X w kd t o cap l) (hl : lo' ≤ lo) : Fs lo' X w kd t o cap l :=
  ⟨h.1, h.2.1, fun hn => by
    obtain ⟨q, off, c, e, h0, hx, h1, h2⟩ := h.2.2 hn
    exact ⟨q, off, c, e, Nat.le_trans hl h0, hx, h1, h2⟩⟩
theorem nst_put {W X : World} {pb pn n n1 c : Nat} {o : Option Addr} {l : List Int} {CS : Array Value} (B : Below W.heap.size W X) (b : X.heap[pb]? = some (.cells #[.slice none 0 0, .slice none 0 0] 25 (0, 0))) (lo : W.heap.size ≤ pb) (hn : W.heap.size ≤ pn ∧ X.heap[pn]? = some (.cells CS 34 (0, 0))) (hc : CS.size = n * 4)
    (F : Fs W.heap.size (fun _ => False) X .i64 3 o c l) (hl : l.length = n1) (hn60 : n ≤ 1000) :
    ∃ p pn' o' c', Value.pointer (some ⟨pb, 0, none⟩) = .pointer (some ⟨p, 0, none⟩) ∧ Nst W ((X.setCell ⟨pb, 0, none⟩ (.slice o n1 c)).setCell ⟨pb, 1, none⟩ (.slice (some ⟨pn, 0, none⟩) n n)) p pn' n o' n1 c' l := by
  have b1 := Joins.block_setCell b (i := 0) (.slice o n1 c)
  have b2 := Joins.block_setCell b1 (i := 1) (.slice (some ⟨pn, 0, none⟩) n n)
  have K : Kt W.heap.size 25 X ((X.setCell ⟨pb, 0, none⟩ (.slice o n1 c)).setCell ⟨pb, 1, none⟩ (.slice (some ⟨pn, 0, none⟩) n n)) := (Kt.set b lo).trans (Kt.set b1 lo)
  refine ⟨pb, pn, o, c, rfl, B.trans K.bel, lo, b2, ⟨CS.toList, ?_⟩, F.ky K.ky (by decide)⟩
  have h2 := K.keep _ _ hn.2 (fun c f e => by cases e)
  refine ⟨by simp [hc], .inr ⟨pn, n, CS, rfl, hn.1, h2, Nat.le_refl _, by unfold Go.maxLen; omega, hc, ?_⟩⟩
  rw [List.take_of_length_le (by simp [hc])]
set_option maxHeartbeats 8000000 in
theorem numbers5 (g0 : Gr) (o1 : Option Addr) (c1 : Nat) (a1 : Option Addr) (d1 : Nat) (x : Int) (w : World) (G : Gv w g0 o1 c1 a1 d1) (ok : OkG g0) (hns : ∀ x, x ∈ g0.nd → x.ns.length ≤ 1048576) (hx0 : 0 ≤ x) (hx1 : x ≤ 255) :
    Calls Try.prog 5 #[gv g0 o1 c1 a1 d1, .int .u8 x] w fun e w' => e = .returned (.bool true) ∧ Below w.heap.size w w' := by
  have CF := few8 g0 o1 a1 c1 d1
  obtain ⟨f1, f2, f3⟩ := fewG_few g0
  have f4 := fewG_words (Q := fun l => l.length ≤ 1048576) hns
  have f5 := fewG_words (Q := fun l => ∀ n ∈ l, 0 ≤ n ∧ n < 18446744073709551616) (fun x hx n hn => by have := (ok.nd x hx).ns n hn; unfold InU64 at this; omega)
  generalize fewG g0 = g at *
  have HK : Hid (g.nd.length ≤ 60 ∧ g.rs.length ≤ 60 ∧ (∀ x, x ∈ g.nd → x.ks.length ≤ 20) ∧ (∀ x, x ∈ g.nd → x.ns.length ≤ 1048576) ∧ (∀ x, x ∈ g.nd → ∀ n ∈ x.ns, 0 ≤ n ∧ n < 18446744073709551616)) := ⟨⟨f1, f2, f3, f4, f5⟩⟩
  have HAW := Hid.mk awake_any
  have hl1 : g.rs.length ≤ 60 := f2
  have hl2 : g.nd.length ≤ 60 := f1
  obtain ⟨n1, e1⟩ : ∃ n, g.rs.length = n := ⟨_, rfl⟩
  obtain ⟨n2, e2⟩ : ∃ n, g.nd.length = n := ⟨_, rfl⟩
  have HN1 := Hid.mk e1
  have HN2 := Hid.mk e2
  unfold gv at *
  rw [e1, e2] at CF
  rw [e1] at hl1
  rw [e2] at hl2
  have HF := Hid.mk CF
  clear CF f1 f2 f3 f4 f5 e1 e2 ok hns
  generalize g0.rs.length = m1 at *
  generalize g0.nd.length = m2 at *
  have B0 : Below w.heap.size w (w.alloc (.cells #[.slice o1 m1 c1, .slice a1 m2 d1] 25)) := by go_grown
  have y0 : (w.alloc (.cells #[.slice o1 m1 c1, .slice a1 m2 d1] 25)).heap[w.heap.size]? = some (.cells #[.slice o1 m1 c1, .slice a1 m2 d1] 25 (0, 0)) := heap_alloc_new _ _
  have G1 := G.later B0
  have HB0 := Hid.mk B0
  have HG1 := Hid.mk G1
  have HY : Hid (∀ W, Below (w.alloc (.cells #[.slice o1 m1 c1, .slice a1 m2 d1] 25)).heap.size (w.alloc (.cells #[.slice o1 m1 c1, .slice a1 m2 d1] 25)) W → W.heap[w.heap.size]? = some (.cells #[.slice o1 m1 c1, .slice a1 m2 d1] 25 (0, 0)) ∧ W.cell? ⟨w.heap.size, 0, none⟩ = some (.slice o1 m1 c1) ∧ W.cell? ⟨w.heap.size, 1, none⟩ = some (.slice a1 m2 d1) ∧ W.frozen? ⟨w.heap.size, 0, none⟩ = false ∧ W.frozen? ⟨w.heap.size, 1, none⟩ = false) := ⟨fun W B => by
    have y1 := (B.block w.heap.size (by simp)).trans y0
    exact ⟨y1, by rw [Joins.cell_of_block y1]; rfl, by rw [Joins.cell_of_block y1]; rfl, Joins.unfrozen_of_block y1 0, Joins.unfrozen_of_block y1 1⟩⟩
  clear B0 G1 G y0
  by_cases hn0 : n2 = 0
  case pos =>
    subst hn0
    go_enter Try.func5, Try.ntmps5
    go_wp2_with (first
      | (go_at_call 8; with_reducible refine (HF.out _ HG1.out).mono ?_; rintro e w1 ⟨a2, d2, rfl, G2, B2⟩; have HG2 := Hid.mk G2; obtain ⟨y1, xc0, xc1, xf0, xf1⟩ := HY.out _ B2; have HY1 := Hid.mk y1; have HB2 := Hid.mk (belowOn HB0.out B2); clear G2 B2 y1)
      | (go_at_call 9; with_reducible refine (HAW.out _).mono ?_; rintro e w4 ⟨rfl, BA⟩; have HBA := Hid.mk BA; clear BA))
    go_ret
    exact ⟨rfl, (((HB2.out.setCell (Nat.le_refl _) _).setCell (Nat.le_refl _) _).alloc (by simpa using HB2.out.size) _).trans (HBA.out.mono (by simp; have := HB2.out.size; omega))⟩
  case neg =>
  have hn1 : 0 < n2 := by omega
  have hn3 : ((n2 : Int) == 0) = false := by simp; omega
  go_enter Try.func5, Try.ntmps5
  go_upto_region 3 with (go_at_call 8; with_reducible refine (HF.out _ HG1.out).mono ?_; rintro e w1 ⟨a2, d2, rfl, G2, B2⟩; have HG2 := Hid.mk G2; obtain ⟨y1, xc0, xc1, xf0, xf1⟩ := HY.out _ B2; have HY1 := Hid.mk y1; have HB2 := Hid.mk (belowOn HB0.out B2); clear G2 B2 y1)
  have B3 : Below w.heap.size w (((w1.setCell ⟨w.heap.size, 0, none⟩ (.slice o1 n1 c1)).setCell ⟨w.heap.size, 1, none⟩ (.slice a2 n2 d2)).alloc (.cells #[.int .i64 n2] 3)) := ((HB2.out.setCell (Nat.le_refl _) _).setCell (Nat.le_refl _) _).alloc (by simpa using HB2.out.size) _
  have z1 : ((w1.setCell ⟨w.heap.size, 0, none⟩ (.slice o1 n1 c1)).setCell ⟨w.heap.size, 1, none⟩ (.slice a2 n2 d2)).heap[w.heap.size]? = some (.cells #[.slice o1 n1 c1, .slice a2 n2 d2] 25 (0, 0)) := Joins.block_setCell (Joins.block_setCell HY1.out (i := 0) (.slice o1 n1 c1)) (i := 1) (.slice a2 n2 d2)
  have z3 : (((w1.setCell ⟨w.heap.size, 0, none⟩ (.slice o1 n1 c1)).setCell ⟨w.heap.size, 1, none⟩ (.slice a2 n2 d2)).alloc (.cells #[.int .i64 n2] 3)).heap[w.heap.size]? = some (.cells #[.slice o1 n1 c1, .slice a2 n2 d2] 25 (0, 0)) := (Below.heap_alloc _ _ _ (by simp; have := (Array.getElem?_eq_some_iff.1 HY1.out).1; omega)).trans z1
  have p3 : (((w1.setCell ⟨w.heap.size, 0, none⟩ (.slice o1 n1 c1)).setCell ⟨w.heap.size, 1, none⟩ (.slice a2 n2 d2)).alloc (.cells #[.int .i64 n2] 3)).heap[w1.heap.size]? = some (.cells #[.int .i64 n2] 3 (0, 0)) := by
    have := heap_alloc_new ((w1.setCell ⟨w.heap.size, 0, none⟩ (.slice o1 n1 c1)).setCell ⟨w.heap.size, 1, none⟩ (.slice a2 n2 d2)) (.cells #[.int .i64 n2] 3)
    simpa using this
  have G3 : Gv (((w1.setCell ⟨w.heap.size, 0, none⟩ (.slice o1 n1 c1)).setCell ⟨w.heap.size, 1, none⟩ (.slice a2 n2 d2)).alloc (.cells #[.int .i64 n2] 3)) g o1 c1 a2 d2 := HG2.out.far (z := w.heap.size) (fun off k n => by
    rw [Joins.cell_of_block HY1.out]
    match off with
    | 0 => simp
    | 1 => simp
    | _ + 2 => simp) (fun k off v hk hv => cellLater (by go_grown) ((World.cell?_setCell_far _ _ _ _ (Ne.symm hk)).trans ((World.cell?_setCell_far _ _ _ _ (Ne.symm hk)).trans hv)))
  generalize ((w1.setCell ⟨w.heap.size, 0, none⟩ (.slice o1 n1 c1)).setCell ⟨w.heap.size, 1, none⟩ (.slice a2 n2 d2)).alloc (.cells #[.int .i64 n2] 3) = W3 at *
  generalize w1.heap.size = p5 at *
  have hp5 : p5 ≠ w.heap.size := fun e => by rw [e, z3] at p3; cases p3
  have HHP := Hid.mk hp5
  have x5 : W3.cell? ⟨p5, 0, none⟩ = some (.int .i64 n2) := by rw [Joins.cell_of_block p3]; rfl
  have H3 := Hid.mk (And.intro B3 (And.intro z3 (And.intro p3 G3)))
  clear B3 z1 z3 p3 G3 xc0 xc1 xf0 xf1 HB2 HY1 HY HG2 HG1 HB0 HF hp5
  obtain ⟨r, hr⟩ : ∃ r : Nat, x.tmod (n2 : Int) = r := ⟨(x.tmod n2).toNat, by rw [Int.tmod_eq_emod_of_nonneg hx0]; have := Int.emod_nonneg x (b := (n2 : Int)) (by omega); omega⟩
  have hrl : r < n2 := by rw [Int.tmod_eq_emod_of_nonneg hx0] at hr; have := Int.emod_lt_of_pos x (b := (n2 : Int)) (by omega); omega
  have hwx : IntKind.i64.wrap x = x := by rw [IntKind.wrap_i64]; omega
  have hn2 : ¬ n2 = 0 := hn0
  have hn4 : ¬ (n2 : Int) = 0 := by omega
  go_upto_region 7 with (go_at_call 9; with_reducible refine (HAW.out _).mono ?_; rintro e w4 ⟨rfl, BA⟩; have x54 := cellLater BA x5; have HBA := Hid.mk BA; clear BA)
  have B5 : Below W3.heap.size W3 (w4.alloc (.cells #[.int .i64 r] 3)) := HBA.out.alloc HBA.out.size _
  have p6 : (w4.alloc (.cells #[.int .i64 r] 3)).heap[w4.heap.size]? = some (.cells #[.int .i64 r] 3 (0, 0)) := heap_alloc_new _ _
  have z5 := (B5.block _ (Array.getElem?_eq_some_iff.1 H3.out.2.1).1).trans H3.out.2.1
  have q5 := (B5.block _ (Array.getElem?_eq_some_iff.1 H3.out.2.2.1).1).trans H3.out.2.2.1
  have G5 := H3.out.2.2.2.later B5
  have BW := belowOn H3.out.1 B5
  have hpp : w4.heap.size ≠ p5 := fun e => by have h1 := (Array.getElem?_eq_some_iff.1 H3.out.2.2.1).1; have h2 := HBA.out.size; omega
  generalize w4.alloc (.cells #[.int .i64 r] 3) = W5 at *
  generalize w4.heap.size = p6' at *
  have c0 : W5.cell? ⟨w.heap.size, 0, none⟩ = some (.slice o1 n1 c1) := by rw [Joins.cell_of_block z5]; rfl
  have c1' : W5.cell? ⟨w.heap.size, 1, none⟩ = some (.slice a2 n2 d2) := by rw [Joins.cell_of_block z5]; rfl
  have c2 : W5.cell? ⟨p5, 0, none⟩ = some (.int .i64 n2) := by rw [Joins.cell_of_block q5]; rfl
  have c3 : W5.cell? ⟨p6', 0, none⟩ = some (.int .i64 r) := by rw [Joins.cell_of_block p6]; rfl
  have HBW := Hid.mk BW
  have HBL := Hid.mk (And.intro z5 (And.intro q5 p6))
  have HG5 := Hid.mk G5
  have HS := Hid.mk (fun (W : World) (b : Below W5.heap.size W5 W) => And.intro (cellLater b c0) (And.intro (cellLater b c1') (And.intro (cellLater b c2) (cellLater b c3))))
  have C18 : ∀ (l : List Int) (m : Nat) (o : Option Addr) (c : Nat) (W : World), l.length = m → m ≤ 1000000 → PS .i64 W o c l → Below W5.heap.size W5 W → Calls Try.prog 18 #[.slice o m c, .pointer (some ⟨p5, 0, none⟩), .pointer (some ⟨p6', 0, none⟩)] W fun e w' => ∃ ga ca, e = .returned (.slice ga m ca) ∧ Fs W.heap.size (fun _ => False) w' .i64 3 ga ca (l.map (rnI n2 r)) ∧ Below W.heap.size W w' := fun l m o c W hm hm2 P B => by
    obtain ⟨s0, s1, s2, s3⟩ := HS.out W B
    have := renum18 n2 r l o c p5 p6' W P s2 s3 (by omega) hrl (by omega)
    rw [hm] at this
    refine this.mono ?_
    rintro e w' ⟨v, rfl, R, B'⟩
    obtain ⟨ga, ca, rfl⟩ := row_sl R
    exact ⟨ga, ca, rfl, own_fs R (by rw [List.length_map]; exact hm), B'⟩
  have HCK := Hid.mk C18
  replace C18 := fun (W : World) (B : Below W5.heap.size W5 W) => C18 g.rs n1 o1 c1 W HN1.out (by omega) (HG5.out.rs.later B) B
  obtain ⟨LR, hLR⟩ : ∃ l, g.rs.map (rnI n2 r) = l := ⟨_, rfl⟩
  rw [hLR] at C18
  have HLR := Hid.mk hLR
  have HC18 := Hid.mk C18
  obtain ⟨CS, hCS, hmk⟩ := made34 n2 (by omega)
  have HCS := Hid.mk hCS
  have HP := Hid.mk hpp
  clear C18 hLR B5 p6 z5 q5 G5 BW H3 HBA x5 x54 hCS hpp hr hwx
  go_cut [8] from 28 to 34 (fun u wx => ∃ p pn o c, u = .pointer (some ⟨p, 0, none⟩) ∧ Nst W5 wx p pn n2 o n1 c LR)
  case first =>
    have HB : Hid (Below W5.heap.size W5 W5.drew) := ⟨(Below.refl _ _).drew⟩
    obtain ⟨s0, s1, s2, s3⟩ := HS.out _ HB.out
    refine wp_region_held_drew (S := (fun W' => W'.cell? ⟨w.heap.size, 0, none⟩ = some (.slice o1 n1 c1) ∧ W'.cell? ⟨p5, 0, none⟩ = some (.int .i64 n2))) (by kernel_rfl) ?_ (fun hHeld => ?_)
    · exact ⟨s0, s2⟩
    generalize W5.drew = X0 at *
    refine wpAnyH_take (i := 0) (v := ?_) rfl (by kernel_rfl) (by kernel_rfl) (by kernel_rfl) (fun _ _ _ h => h) (Or.inl ⟨by rfl, ?_⟩) (by assumption) ?_
    rotate_left
    · intro w' hSw
      try dsimp only at hSw
      go_simp
      try with_reducible rfl
    try simp only [Act.put, List.getElem_toArray, List.getElem_cons_zero, List.getElem_cons_succ, List.setIfInBounds_toArray, List.set_cons_zero, List.set_cons_succ]
    refine wpAnyH_take (i := 1) (v := ?_) rfl (by kernel_rfl) (by kernel_rfl) (by kernel_rfl) (fun _ _ _ h => h) (Or.inl ⟨by rfl, ?_⟩) (by assumption) ?_
    rotate_left
    · intro w' hSw
      try dsimp only at hSw
      go_simp
      try with_reducible rfl
    try simp only [Act.put, List.getElem_toArray, List.getElem_cons_zero, List.getElem_cons_succ, List.setIfInBounds_toArray, List.set_cons_zero, List.set_cons_succ]
    refine wpAnyH_take (i := 2) (v := ?_) rfl (by kernel_rfl) (by kernel_rfl) (by kernel_rfl) (fun _ _ _ h => h) (Or.inl ⟨by rfl, ?_⟩) (by assumption) ?_
    rotate_left
    · intro w' hSw
      try dsimp only at hSw
      go_simp
      try with_reducible rfl
    try simp only [Act.put, List.getElem_toArray, List.getElem_cons_zero, List.getElem_cons_succ, List.setIfInBounds_toArray, List.set_cons_zero, List.set_cons_succ]
    refine wpAnyH_take (i := 4) (v := ?_) rfl (by kernel_rfl) (by kernel_rfl) (by kernel_rfl) (fun _ _ _ h => h) (Or.inl ⟨by rfl, ?_⟩) (by assumption) ?_
    rotate_left
    · intro w' hSw
      try dsimp only at hSw
      go_simp
      try with_reducible rfl
    try simp only [Act.put, List.getElem_toArray, List.getElem_cons_zero, List.getElem_cons_succ, List.setIfInBounds_toArray, List.set_cons_zero, List.set_cons_succ]
    refine wpAnyH_ready (rs := [3, 5, 7]) (by kernel_rfl) (by simp) ?_
    refine AllReadyH.cons rfl (fun K' hK => ?_) (AllReadyH.cons rfl (fun K' hK => ?_) (AllReadyH.cons rfl (fun K' hK => ?_) AllReadyH.nil))
    · go_simp
      go_at_call 18
      with_reducible refine (HC18.out _ HB.out).mono ?_
      rintro e X1 ⟨ga, ca, rfl, F6, B6⟩
      have HF6 := Hid.mk (F6.low HB.out.size)
      replace HB := Hid.mk (belowOn HB.out B6)
      clear B6 F6
      obtain ⟨s0, s1, s2, s3⟩ := HS.out _ HB.out
      refine hK.out _ _ ?_ (fun hHeld => ?_)
      · exact ⟨s0, s2⟩
      clear hK K'
      try simp only [Act.put, List.getElem_toArray, List.getElem_cons_zero, List.getElem_cons_succ, List.setIfInBounds_toArray, List.set_cons_zero, List.set_cons_succ]
      refine wpAnyH_ready (rs := [5, 7]) (by kernel_rfl) (by simp) ?_
      refine AllReadyH.cons rfl (fun K' hK => ?_) (AllReadyH.cons rfl (fun K' hK => ?_) AllReadyH.nil)
      · go_simp
        have B6 : Below X1.heap.size X1 (X1.alloc (.cells CS 34)) := by go_grown
        have n6 : (X1.alloc (.cells CS 34)).heap[X1.heap.size]? = some (.cells CS 34 (0, 0)) := heap_alloc_new _ _
        have l6 := HB.out.size
        generalize X1.alloc (.cells CS 34) = X2 at *
        have HPN := Hid.mk (And.intro l6 n6)
        replace HF6 := Hid.mk (HF6.out.later B6)
        replace HB := Hid.mk (belowOn HB.out B6)
        clear B6 n6 l6
        obtain ⟨s0, s1, s2, s3⟩ := HS.out _ HB.out
        refine hK.out _ _ ?_ (fun hHeld => ?_)
        · exact ⟨s0, s2⟩
        clear hK K'
        try simp only [Act.put, List.getElem_toArray, List.getElem_cons_zero, List.getElem_cons_succ, List.setIfInBounds_toArray, List.set_cons_zero, List.set_cons_succ]
        refine wpAnyH_take (i := 6) (v := ?_) rfl (by kernel_rfl) (by kernel_rfl) (by kernel_rfl) (fun _ _ _ h => h) (Or.inl ⟨by rfl, ?_⟩) (by assumption) ?_
        rotate_left
        · intro w' hSw
          try dsimp only at hSw
          go_simp
          try with_reducible rfl
        try simp only [Act.put, List.getElem_toArray, List.getElem_cons_zero, List.getElem_cons_succ, List.setIfInBounds_toArray, List.set_cons_zero, List.set_cons_succ]
        refine wpAnyH_ready (rs := [7]) (by kernel_rfl) (by simp) ?_
        refine AllReadyH.cons rfl (fun K' hK => ?_) AllReadyH.nil
        · go_simp
          have B6 : Below X2.heap.size X2 (X2.alloc (.cells #[.slice none 0 0, .slice none 0 0] 25)) := by go_grown
          have n6 : (X2.alloc (.cells #[.slice none 0 0, .slice none 0 0] 25)).heap[X2.heap.size]? = some (.cells #[.slice none 0 0, .slice none 0 0] 25 (0, 0)) := heap_alloc_new _ _
          have l6 := HB.out.size
          generalize X2.alloc (.cells #[.slice none 0 0, .slice none 0 0] 25) = X3 at *
          have HPB := Hid.mk n6
          have HLO := Hid.mk l6
          obtain ⟨pb, hpb⟩ : ∃ p, X2.heap.size = p := ⟨_, rfl⟩
          rw [hpb] at HPB HLO ⊢
          clear hpb
          replace HF6 := Hid.mk (HF6.out.later B6)
          replace HPN := Hid.mk (And.intro HPN.out.1 ((B6.block _ (Array.getElem?_eq_some_iff.1 HPN.out.2).1).trans HPN.out.2))
          replace HB := Hid.mk (belowOn HB.out B6)
          clear B6 n6 l6
          obtain ⟨s0, s1, s2, s3⟩ := HS.out _ HB.out
          refine hK.out _ _ ?_ (fun hHeld => ?_)
          · exact ⟨s0, s2⟩
          clear hK K'
          try simp only [Act.put, List.getElem_toArray, List.getElem_cons_zero, List.getElem_cons_succ, List.setIfInBounds_toArray, List.set_cons_zero, List.set_cons_succ]
          have t0 : X3.cell? ⟨pb, 0, none⟩ = some (.slice none 0 0) := by rw [Joins.cell_of_block HPB.out]; rfl
          have t1 : X3.cell? ⟨pb, 1, none⟩ = some (.slice none 0 0) := by rw [Joins.cell_of_block HPB.out]; rfl
          have t2 := Joins.unfrozen_of_block HPB.out 0
          have t3 := Joins.unfrozen_of_block HPB.out 1
          have HNS := Hid.mk (nst_put HB.out HPB.out HLO.out HPN.out HCS.out HF6.out (n1 := n1) (by rw [← HLR.out, List.length_map, HN1.out]) (by omega))
          refine wpAnyH_ready (rs := [8]) (by kernel_rfl) (by simp) ?_
          refine AllReadyH.cons rfl (fun K' hK => ?_) AllReadyH.nil
          go_simp
          refine hK.out _ _ (by obtain ⟨_, _, _, _, _, NN⟩ := HNS.out; exact ⟨(HS.out _ NN.bel).1, (HS.out _ NN.bel).2.2.1⟩) (fun hHeld => ?_)
          clear hK K'
          try simp only [Act.put, List.getElem_toArray, List.getElem_cons_zero, List.getElem_cons_succ, List.setIfInBounds_toArray, List.set_cons_zero, List.set_cons_succ]
          refine wpAnyH_done (by kernel_rfl) ?_ _
          go_wp2
          go_meet
          exact HNS.out
      · go_simp
        have B6 : Below X1.heap.size X1 (X1.alloc (.cells #[.slice none 0 0, .slice none 0 0] 25)) := by go_grown
        have n6 : (X1.alloc (.cells #[.slice none 0 0, .slice none 0 0] 25)).heap[X1.heap.size]? = some (.cells #[.slice none 0 0, .slice none 0 0] 25 (0, 0)) := heap_alloc_new _ _
        have l6 := HB.out.size
        generalize X1.alloc (.cells #[.slice none 0 0, .slice none 0 0] 25) = X2 at *
        have HPB := Hid.mk n6
        have HLO := Hid.mk l6
        obtain ⟨pb, hpb⟩ : ∃ p, X1.heap.size = p := ⟨_, rfl⟩
        rw [hpb] at HPB HLO ⊢
        clear hpb
        replace HF6 := Hid.mk (HF6.out.later B6)
        replace HB := Hid.mk (belowOn HB.out B6)
        clear B6 n6 l6
        obtain ⟨s0, s1, s2, s3⟩ := HS.out _ HB.out
        refine hK.out _ _ ?_ (fun hHeld => ?_)
        · exact ⟨s0, s2⟩
        clear hK K'
        try simp only [Act.put, List.getElem_toArray, List.getElem_cons_zero, List.getElem_cons_succ, List.setIfInBounds_toArray, List.set_cons_zero, List.set_cons_succ]
        refine wpAnyH_ready (rs := [5]) (by kernel_rfl) (by simp) ?_
        refine AllReadyH.cons rfl (fun K' hK => ?_) AllReadyH.nil
        · go_simp
          have B6 : Below X2.heap.size X2 (X2.alloc (.cells CS 34)) := by go_grown
          have n6 : (X2.alloc (.cells CS 34)).heap[X2.heap.size]? = some (.cells CS 34 (0, 0)) := heap_alloc_new _ _
          have l6 := HB.out.size
          generalize X2.alloc (.cells CS 34) = X3 at *
          have HPN := Hid.mk (And.intro l6 n6)
          replace HF6 := Hid.mk (HF6.out.later B6)
          replace HPB := Hid.mk ((B6.block _ (Array.getElem?_eq_some_iff.1 HPB.out).1).trans HPB.out)
          replace HB := Hid.mk (belowOn HB.out B6)
          clear B6 n6 l6
          obtain ⟨s0, s1, s2, s3⟩ := HS.out _ HB.out
          refine hK.out _ _ ?_ (fun hHeld => ?_)
          · exact ⟨s0, s2⟩
          clear hK K'
          try simp only [Act.put, List.getElem_toArray, List.getElem_cons_zero, List.getElem_cons_succ, List.setIfInBounds_toArray, List.set_cons_zero, List.set_cons_succ]
          refine wpAnyH_take (i := 6) (v := ?_) rfl (by kernel_rfl) (by kernel_rfl) (by kernel_rfl) (fun _ _ _ h => h) (Or.inl ⟨by rfl, ?_⟩) (by assumption) ?_
          rotate_left
          · intro w' hSw
            try dsimp only at hSw
            go_simp
            try with_reducible rfl
          try simp only [Act.put, List.getElem_toArray, List.getElem_cons_zero, List.getElem_cons_succ, List.setIfInBounds_toArray, List.set_cons_zero, List.set_cons_succ]
          have t0 : X3.cell? ⟨pb, 0, none⟩ = some (.slice none 0 0) := by rw [Joins.cell_of_block HPB.out]; rfl
          have t1 : X3.cell? ⟨pb, 1, none⟩ = some (.slice none 0 0) := by rw [Joins.cell_of_block HPB.out]; rfl
          have t2 := Joins.unfrozen_of_block HPB.out 0
          have t3 := Joins.unfrozen_of_block HPB.out 1
          have HNS := Hid.mk (nst_put HB.out HPB.out HLO.out HPN.out HCS.out HF6.out (n1 := n1) (by rw [← HLR.out, List.length_map, HN1.out]) (by omega))
          refine wpAnyH_ready (rs := [8]) (by kernel_rfl) (by simp) ?_
          refine AllReadyH.cons rfl (fun K' hK => ?_) AllReadyH.nil
          go_simp
          refine hK.out _ _ (by obtain ⟨_, _, _, _, _, NN⟩ := HNS.out; exact ⟨(HS.out _ NN.bel).1, (HS.out _ NN.bel).2.2.1⟩) (fun hHeld => ?_)
          clear hK K'
          try simp only [Act.put, List.getElem_toArray, List.getElem_cons_zero, List.getElem_cons_succ, List.setIfInBounds_toArray, List.set_cons_zero, List.set_cons_succ]
          refine wpAnyH_done (by kernel_rfl) ?_ _
          go_wp2
          go_meet
          exact HNS.out
    · go_simp
      have B6 : Below X0.heap.size X0 (X0.alloc (.cells CS 34)) := by go_grown
      have n6 : (X0.alloc (.cells CS 34)).heap[X0.heap.size]? = some (.cells CS 34 (0, 0)) := heap_alloc_new _ _
      have l6 := HB.out.size
      generalize X0.alloc (.cells CS 34) = X1 at *
      have HPN := Hid.mk (And.intro l6 n6)
      replace HB := Hid.mk (belowOn HB.out B6)
      clear B6 n6 l6
      obtain ⟨s0, s1, s2, s3⟩ := HS.out _ HB.out
      refine hK.out _ _ ?_ (fun hHeld => ?_)
      · exact ⟨s0, s2⟩
      clear hK K'
      try simp only [Act.put, List.getElem_toArray, List.getElem_cons_zero, List.getElem_cons_succ, List.setIfInBounds_toArray, List.set_cons_zero, List.set_cons_succ]
      refine wpAnyH_ready (rs := [3, 7]) (by kernel_rfl) (by simp) ?_
      refine AllReadyH.cons rfl (fun K' hK => ?_) (AllReadyH.cons rfl (fun K' hK => ?_) AllReadyH.nil)
      · go_simp
        go_at_call 18
        with_reducible refine (HC18.out _ HB.out).mono ?_
        rintro e X2 ⟨ga, ca, rfl, F6, B6⟩
        have HF6 := Hid.mk (F6.low HB.out.size)
        replace HPN := Hid.mk (And.intro HPN.out.1 ((B6.block _ (Array.getElem?_eq_some_iff.1 HPN.out.2).1).trans HPN.out.2))
        replace HB := Hid.mk (belowOn HB.out B6)
        clear B6 F6
        obtain ⟨s0, s1, s2, s3⟩ := HS.out _ HB.out
        refine hK.out _ _ ?_ (fun hHeld => ?_)
        · exact ⟨s0, s2⟩
        clear hK K'
        try simp only [Act.put, List.getElem_toArray, List.getElem_cons_zero, List.getElem_cons_succ, List.setIfInBounds_toArray, List.set_cons_zero, List.set_cons_succ]
        refine wpAnyH_take (i := 6) (v := ?_) rfl (by kernel_rfl) (by kernel_rfl) (by kernel_rfl) (fun _ _ _ h => h) (Or.inl ⟨by rfl, ?_⟩) (by assumption) ?_
        rotate_left
        · intro w' hSw
          try dsimp only at hSw
          go_simp
          try with_reducible rfl
        try simp only [Act.put, List.getElem_toArray, List.getElem_cons_zero, List.getElem_cons_succ, List.setIfInBounds_toArray, List.set_cons_zero, List.set_cons_succ]
        refine wpAnyH_ready (rs := [7]) (by kernel_rfl) (by simp) ?_
        refine AllReadyH.cons rfl (fun K' hK => ?_) AllReadyH.nil
        · go_simp
          have B6 : Below X2.heap.size X2 (X2.alloc (.cells #[.slice none 0 0, .slice none 0 0] 25)) := by go_grown
          have n6 : (X2.alloc (.cells #[.slice none 0 0, .slice none 0 0] 25)).heap[X2.heap.size]? = some (.cells #[.slice none 0 0, .slice none 0 0] 25 (0, 0)) := heap_alloc_new _ _
          have l6 := HB.out.size
          generalize X2.alloc (.cells #[.slice none 0 0, .slice none 0 0] 25) = X3 at *
          have HPB := Hid.mk n6
          have HLO := Hid.mk l6
          obtain ⟨pb, hpb⟩ : ∃ p, X2.heap.size = p := ⟨_, rfl⟩
          rw [hpb] at HPB HLO ⊢
          clear hpb
          replace HF6 := Hid.mk (HF6.out.later B6)
          replace HPN := Hid.mk (And.intro HPN.out.1 ((B6.block _ (Array.getElem?_eq_some_iff.1 HPN.out.2).1).trans HPN.out.2))
          replace HB := Hid.mk (belowOn HB.out B6)
          clear B6 n6 l6
          obtain ⟨s0, s1, s2, s3⟩ := HS.out _ HB.out
          refine hK.out _ _ ?_ (fun hHeld => ?_)
          · exact ⟨s0, s2⟩
          clear hK K'
          try simp only [Act.put, List.getElem_toArray, List.getElem_cons_zero, List.getElem_cons_succ, List.setIfInBounds_toArray, List.set_cons_zero, List.set_cons_succ]
          have t0 : X3.cell? ⟨pb, 0, none⟩ = some (.slice none 0 0) := by rw [Joins.cell_of_block HPB.out]; rfl
          have t1 : X3.cell? ⟨pb, 1, none⟩ = some (.slice none 0 0) := by rw [Joins.cell_of_block HPB.out]; rfl
          have t2 := Joins.unfrozen_of_block HPB.out 0
          have t3 := Joins.unfrozen_of_block HPB.out 1
          have HNS := Hid.mk (nst_put HB.out HPB.out HLO.out HPN.out HCS.out HF6.out (n1 := n1) (by rw [← HLR.out, List.length_map, HN1.out]) (by omega))
          refine wpAnyH_ready (rs := [8]) (by kernel_rfl) (by simp) ?_
          refine AllReadyH.cons rfl (fun K' hK => ?_) AllReadyH.nil
          go_simp
          refine hK.out _ _ (by obtain ⟨_, _, _, _, _, NN⟩ := HNS.out; exact ⟨(HS.out _ NN.bel).1, (HS.out _ NN.bel).2.2.1⟩) (fun hHeld => ?_)
          clear hK K'
          try simp only [Act.put, List.getElem_toArray, List.getElem_cons_zero, List.getElem_cons_succ, List.setIfInBounds_toArray, List.set_cons_zero, List.set_cons_succ]
          refine wpAnyH_done (by kernel_rfl) ?_ _
          go_wp2
          go_meet
          exact HNS.out
      · go_simp
        have B6 : Below X1.heap.size X1 (X1.alloc (.cells #[.slice none 0 0, .slice none 0 0] 25)) := by go_grown
        have n6 : (X1.alloc (.cells #[.slice none 0 0, .slice none 0 0] 25)).heap[X1.heap.size]? = some (.cells #[.slice none 0 0, .slice none 0 0] 25 (0, 0)) := heap_alloc_new _ _
        have l6 := HB.out.size
        generalize X1.alloc (.cells #[.slice none 0 0, .slice none 0 0] 25) = X2 at *
        have HPB := Hid.mk n6
        have HLO := Hid.mk l6
        obtain ⟨pb, hpb⟩ : ∃ p, X1.heap.size = p := ⟨_, rfl⟩
        rw [hpb] at HPB HLO ⊢
        clear hpb
        replace HPN := Hid.mk (And.intro HPN.out.1 ((B6.block _ (Array.getElem?_eq_some_iff.1 HPN.out.2).1).trans HPN.out.2))
        replace HB := Hid.mk (belowOn HB.out B6)
        clear B6 n6 l6
        obtain ⟨s0, s1, s2, s3⟩ := HS.out _ HB.out
        refine hK.out _ _ ?_ (fun hHeld => ?_)
        · exact ⟨s0, s2⟩
        clear hK K'
        try simp only [Act.put, List.getElem_toArray, List.getElem_cons_zero, List.getElem_cons_succ, List.setIfInBounds_toArray, List.set_cons_zero, List.set_cons_succ]
        refine wpAnyH_ready (rs := [3]) (by kernel_rfl) (by simp) ?_
        refine AllReadyH.cons rfl (fun K' hK => ?_) AllReadyH.nil
        · go_simp
          go_at_call 18
          with_reducible refine (HC18.out _ HB.out).mono ?_
          rintro e X3 ⟨ga, ca, rfl, F6, B6⟩
          have HF6 := Hid.mk (F6.low HB.out.size)
          replace HPN := Hid.mk (And.intro HPN.out.1 ((B6.block _ (Array.getElem?_eq_some_iff.1 HPN.out.2).1).trans HPN.out.2))
          replace HPB := Hid.mk ((B6.block _ (Array.getElem?_eq_some_iff.1 HPB.out).1).trans HPB.out)
          replace HB := Hid.mk (belowOn HB.out B6)
          clear B6 F6
          obtain ⟨s0, s1, s2, s3⟩ := HS.out _ HB.out
          refine hK.out _ _ ?_ (fun hHeld => ?_)
          · exact ⟨s0, s2⟩
          clear hK K'
          try simp only [Act.put, List.getElem_toArray, List.getElem_cons_zero, List.getElem_cons_succ, List.setIfInBounds_toArray, List.set_cons_zero, List.set_cons_succ]
          refine wpAnyH_take (i := 6) (v := ?_) rfl (by kernel_rfl) (by kernel_rfl) (by kernel_rfl) (fun _ _ _ h => h) (Or.inl ⟨by rfl, ?_⟩) (by assumption) ?_
          rotate_left
          · intro w' hSw
            try dsimp only at hSw
            go_simp
            try with_reducible rfl
          try simp only [Act.put, List.getElem_toArray, List.getElem_cons_zero, List.getElem_cons_succ, List.setIfInBounds_toArray, List.set_cons_zero, List.set_cons_succ]
          have t0 : X3.cell? ⟨pb, 0, none⟩ = some (.slice none 0 0) := by rw [Joins.cell_of_block HPB.out]; rfl
          have t1 : X3.cell? ⟨pb, 1, none⟩ = some (.slice none 0 0) := by rw [Joins.cell_of_block HPB.out]; rfl
          have t2 := Joins.unfrozen_of_block HPB.out 0
          have t3 := Joins.unfrozen_of_block HPB.out 1
          have HNS := Hid.mk (nst_put HB.out HPB.out HLO.out HPN.out HCS.out HF6.out (n1 := n1) (by rw [← HLR.out, List.length_map, HN1.out]) (by omega))
          refine wpAnyH_ready (rs := [8]) (by kernel_rfl) (by simp) ?_
          refine AllReadyH.cons rfl (fun K' hK => ?_) AllReadyH.nil
          go_simp
          refine hK.out _ _ (by obtain ⟨_, _, _, _, _, NN⟩ := HNS.out; exact ⟨(HS.out _ NN.bel).1, (HS.out _ NN.bel).2.2.1⟩) (fun hHeld => ?_)
          clear hK K'
          try simp only [Act.put, List.getElem_toArray, List.getElem_cons_zero, List.getElem_cons_succ, List.setIfInBounds_toArray, List.set_cons_zero, List.set_cons_succ]
          refine wpAnyH_done (by kernel_rfl) ?_ _
          go_wp2
          go_meet
          exact HNS.out
    · go_simp
      have B6 : Below X0.heap.size X0 (X0.alloc (.cells #[.slice none 0 0, .slice none 0 0] 25)) := by go_grown
      have n6 : (X0.alloc (.cells #[.slice none 0 0, .slice none 0 0] 25)).heap[X0.heap.size]? = some (.cells #[.slice none 0 0, .slice none 0 0] 25 (0, 0)) := heap_alloc_new _ _
      have l6 := HB.out.size
      generalize X0.alloc (.cells #[.slice none 0 0, .slice none 0 0] 25) = X1 at *
      have HPB := Hid.mk n6
      have HLO := Hid.mk l6
      obtain ⟨pb, hpb⟩ : ∃ p, X0.heap.size = p := ⟨_, rfl⟩
      rw [hpb] at HPB HLO ⊢
      clear hpb
      replace HB := Hid.mk (belowOn HB.out B6)
      clear B6 n6 l6
      obtain ⟨s0, s1, s2, s3⟩ := HS.out _ HB.out
      refine hK.out _ _ ?_ (fun hHeld => ?_)
      · exact ⟨s0, s2⟩
      clear hK K'
      try simp only [Act.put, List.getElem_toArray, List.getElem_cons_zero, List.getElem_cons_succ, List.setIfInBounds_toArray, List.set_cons_zero, List.set_cons_succ]
      refine wpAnyH_ready (rs := [3, 5]) (by kernel_rfl) (by simp) ?_
      refine AllReadyH.cons rfl (fun K' hK => ?_) (AllReadyH.cons rfl (fun K' hK => ?_) AllReadyH.nil)
      · go_simp
        go_at_call 18
        with_reducible refine (HC18.out _ HB.out).mono ?_
        rintro e X2 ⟨ga, ca, rfl, F6, B6⟩
        have HF6 := Hid.mk (F6.low HB.out.size)
        replace HPB := Hid.mk ((B6.block _ (Array.getElem?_eq_some_iff.1 HPB.out).1).trans HPB.out)
        replace HB := Hid.mk (belowOn HB.out B6)
        clear B6 F6
        obtain ⟨s0, s1, s2, s3⟩ := HS.out _ HB.out
        refine hK.out _ _ ?_ (fun hHeld => ?_)
        · exact ⟨s0, s2⟩
        clear hK K'
        try simp only [Act.put, List.getElem_toArray, List.getElem_cons_zero, List.getElem_cons_succ, List.setIfInBounds_toArray, List.set_cons_zero, List.set_cons_succ]
        refine wpAnyH_ready (rs := [5]) (by kernel_rfl) (by simp) ?_
        refine AllReadyH.cons rfl (fun K' hK => ?_) AllReadyH.nil
        · go_simp
          have B6 : Below X2.heap.size X2 (X2.alloc (.cells CS 34)) := by go_grown
          have n6 : (X2.alloc (.cells CS 34)).heap[X2.heap.size]? = some (.cells CS 34 (0, 0)) := heap_alloc_new _ _
          have l6 := HB.out.size
          generalize X2.alloc (.cells CS 34) = X3 at *
          have HPN := Hid.mk (And.intro l6 n6)
          replace HF6 := Hid.mk (HF6.out.later B6)
          replace HPB := Hid.mk ((B6.block _ (Array.getElem?_eq_some_iff.1 HPB.out).1).trans HPB.out)
          replace HB := Hid.mk (belowOn HB.out B6)
          clear B6 n6 l6
          obtain ⟨s0, s1, s2, s3⟩ := HS.out _ HB.out
          refine hK.out _ _ ?_ (fun hHeld => ?_)
          · exact ⟨s0, s2⟩
          clear hK K'
          try simp only [Act.put, List.getElem_toArray, List.getElem_cons_zero, List.getElem_cons_succ, List.setIfInBounds_toArray, List.set_cons_zero, List.set_cons_succ]
          refine wpAnyH_take (i := 6) (v := ?_) rfl (by kernel_rfl) (by kernel_rfl) (by kernel_rfl) (fun _ _ _ h => h) (Or.inl ⟨by rfl, ?_⟩) (by assumption) ?_
          rotate_left
          · intro w' hSw
            try dsimp only at hSw
            go_simp
            try with_reducible rfl
          try simp only [Act.put, List.getElem_toArray, List.getElem_cons_zero, List.getElem_cons_succ, List.setIfInBounds_toArray, List.set_cons_zero, List.set_cons_succ]
          have t0 : X3.cell? ⟨pb, 0, none⟩ = some (.slice none 0 0) := by rw [Joins.cell_of_block HPB.out]; rfl
          have t1 : X3.cell? ⟨pb, 1, none⟩ = some (.slice none 0 0) := by rw [Joins.cell_of_block HPB.out]; rfl
          have t2 := Joins.unfrozen_of_block HPB.out 0
          have t3 := Joins.unfrozen_of_block HPB.out 1
          have HNS := Hid.mk (nst_put HB.out HPB.out HLO.out HPN.out HCS.out HF6.out (n1 := n1) (by rw [← HLR.out, List.length_map, HN1.out]) (by omega))
          refine wpAnyH_ready (rs := [8]) (by kernel_rfl) (by simp) ?_
          refine AllReadyH.cons rfl (fun K' hK => ?_) AllReadyH.nil
          go_simp
          refine hK.out _ _ (by obtain ⟨_, _, _, _, _, NN⟩ := HNS.out; exact ⟨(HS.out _ NN.bel).1, (HS.out _ NN.bel).2.2.1⟩) (fun hHeld => ?_)
          clear hK K'
          try simp only [Act.put, List.getElem_toArray, List.getElem_cons_zero, List.getElem_cons_succ, List.setIfInBounds_toArray, List.set_cons_zero, List.set_cons_succ]
          refine wpAnyH_done (by kernel_rfl) ?_ _
          go_wp2
          go_meet
          exact HNS.out
      · go_simp
        have B6 : Below X1.heap.size X1 (X1.alloc (.cells CS 34)) := by go_grown
        have n6 : (X1.alloc (.cells CS 34)).heap[X1.heap.size]? = some (.cells CS 34 (0, 0)) := heap_alloc_new _ _
        have l6 := HB.out.size
        generalize X1.alloc (.cells CS 34) = X2 at *
        have HPN := Hid.mk (And.intro l6 n6)
        replace HPB := Hid.mk ((B6.block _ (Array.getElem?_eq_some_iff.1 HPB.out).1).trans HPB.out)
        replace HB := Hid.mk (belowOn HB.out B6)
        clear B6 n6 l6
        obtain ⟨s0, s1, s2, s3⟩ := HS.out _ HB.out
        refine hK.out _ _ ?_ (fun hHeld => ?_)
        · exact ⟨s0, s2⟩
        clear hK K'
        try simp only [Act.put, List.getElem_toArray, List.getElem_cons_zero, List.getElem_cons_succ, List.setIfInBounds_toArray, List.set_cons_zero, List.set_cons_succ]
        refine wpAnyH_ready (rs := [3]) (by kernel_rfl) (by simp) ?_
        refine AllReadyH.cons rfl (fun K' hK => ?_) AllReadyH.nil
        · go_simp
          go_at_call 18
          with_reducible refine (HC18.out _ HB.out).mono ?_
          rintro e X3 ⟨ga, ca, rfl, F6, B6⟩
          have HF6 := Hid.mk (F6.low HB.out.size)
          replace HPN := Hid.mk (And.intro HPN.out.1 ((B6.block _ (Array.getElem?_eq_some_iff.1 HPN.out.2).1).trans HPN.out.2))
          replace HPB := Hid.mk ((B6.block _ (Array.getElem?_eq_some_iff.1 HPB.out).1).trans HPB.out)
          replace HB := Hid.mk (belowOn HB.out B6)
          clear B6 F6
          obtain ⟨s0, s1, s2, s3⟩ := HS.out _ HB.out
          refine hK.out _ _ ?_ (fun hHeld => ?_)
          · exact ⟨s0, s2⟩
          clear hK K'
          try simp only [Act.put, List.getElem_toArray, List.getElem_cons_zero, List.getElem_cons_succ, List.setIfInBounds_toArray, List.set_cons_zero, List.set_cons_succ]
          refine wpAnyH_take (i := 6) (v := ?_) rfl (by kernel_rfl) (by kernel_rfl) (by kernel_rfl) (fun _ _ _ h => h) (Or.inl ⟨by rfl, ?_⟩) (by assumption) ?_
          rotate_left
          · intro w' hSw
            try dsimp only at hSw
            go_simp
            try with_reducible rfl
          try simp only [Act.put, List.getElem_toArray, List.getElem_cons_zero, List.getElem_cons_succ, List.setIfInBounds_toArray, List.set_cons_zero, List.set_cons_succ]
          have t0 : X3.cell? ⟨pb, 0, none⟩ = some (.slice none 0 0) := by rw [Joins.cell_of_block HPB.out]; rfl
          have t1 : X3.cell? ⟨pb, 1, none⟩ = some (.slice none 0 0) := by rw [Joins.cell_of_block HPB.out]; rfl
          have t2 := Joins.unfrozen_of_block HPB.out 0
          have t3 := Joins.unfrozen_of_block HPB.out 1
          have HNS := Hid.mk (nst_put HB.out HPB.out HLO.out HPN.out HCS.out HF6.out (n1 := n1) (by rw [← HLR.out, List.length_map, HN1.out]) (by omega))
          refine wpAnyH_ready (rs := [8]) (by kernel_rfl) (by simp) ?_
          refine AllReadyH.cons rfl (fun K' hK => ?_) AllReadyH.nil
          go_simp
          refine hK.out _ _ (by obtain ⟨_, _, _, _, _, NN⟩ := HNS.out; exact ⟨(HS.out _ NN.bel).1, (HS.out _ NN.bel).2.2.1⟩) (fun hHeld => ?_)
          clear hK K'
          try simp only [Act.put, List.getElem_toArray, List.getElem_cons_zero, List.getElem_cons_succ, List.setIfInBounds_toArray, List.set_cons_zero, List.set_cons_succ]
          refine wpAnyH_done (by kernel_rfl) ?_ _
          go_wp2
          go_meet
          exact HNS.out
  case rest =>
    obtain ⟨pb, pn, o, c, rfl, NN⟩ := hcut
    have HNN := Hid.mk NN
    have HB7 := Hid.mk NN.bel
    have hr' : Hid (r < n2) := ⟨hrl⟩
    have HPB : Hid (∀ W, Ky W5.heap.size (fun _ => False) [34] wc W → Below W5.heap.size W5 W ∧ W.heap[pb]? = some (.cells #[.slice o n1 c, .slice (some ⟨pn, 0, none⟩) n2 n2] 25 (0, 0))) := ⟨fun W K => ⟨HNN.out.bel.trans K.bel, K.keep _ _ _ _ HNN.out.box (by decide) id⟩⟩
    have HSW : Hid (∀ W, Ky W5.heap.size (fun _ => False) [34] wc W → W.cell? ⟨w.heap.size, 0, none⟩ = some (.slice o1 n1 c1) ∧ W.cell? ⟨w.heap.size, 1, none⟩ = some (.slice a2 n2 d2) ∧ W.cell? ⟨p5, 0, none⟩ = some (.int .i64 n2) ∧ W.cell? ⟨p6', 0, none⟩ = some (.int .i64 r) ∧ W.cell? ⟨pb, 0, none⟩ = some (.slice o n1 c) ∧ W.cell? ⟨pb, 1, none⟩ = some (.slice (some ⟨pn, 0, none⟩) n2 n2)) := ⟨fun W K => by
      obtain ⟨b1, b2⟩ := HPB.out W K
      obtain ⟨s0, s1, s2, s3⟩ := HS.out W b1
      exact ⟨s0, s1, s2, s3, by rw [Joins.cell_of_block b2]; rfl, by rw [Joins.cell_of_block b2]; rfl⟩⟩
    have HST : Hid (∃ cs, wc.ownsRow W5.heap.size 34 4 (.slice (some ⟨pn, 0, none⟩) n2 n2) n2 cs ∧ NumR W5 wc (fun n => nd0 g.nd n) n2 r 0 cs) := ⟨by
      obtain ⟨cs, h⟩ := NN.row
      exact ⟨cs, h, fun j hj => absurd hj (Nat.not_lt_zero _)⟩⟩
    have HKN : Hid (∀ n, n < n2 → (nd0 g.nd n).ks.length ≤ 20) := ⟨fun n hn => by
      have hn' : n < g.nd.length := by rw [HN2.out]; exact hn
      rw [nd0_get hn']
      exact HK.out.2.2.1 _ (List.getElem_mem hn')⟩
    clear NN HCS hmk hrl
    go_wp2
    go_loopw [9, 10] (fun cv _ wr => ∃ i : Nat, cv = .int .i64 i ∧ i ≤ n2 ∧ Hid (Ky W5.heap.size (fun _ => False) [34] wc wr ∧ ∃ cs, wr.ownsRow W5.heap.size 34 4 (.slice (some ⟨pn, 0, none⟩) n2 n2) n2 cs ∧ NumR W5 wr (fun n => nd0 g.nd n) n2 r i cs)) (fun cv _ _ => n2 - (intOf cv).toNat)
    case atStart => exact ⟨0, rfl, Nat.zero_le _, ⟨Ky.refl _ _ _ _, HST.out⟩⟩
    case round =>
      obtain ⟨i, rfl, hi, HI⟩ := hrel
      obtain ⟨t0, t1, t2, t3, t4, t5⟩ := HSW.out _ HI.out.1
      by_cases hlt : i < n2
      case neg =>
        obtain rfl : n2 = i := by omega
        have BR := (HPB.out _ HI.out.1).1
        obtain ⟨N, hN⟩ : ∃ N, trG (kn g.nd.length) g = N := ⟨_, rfl⟩
        obtain ⟨S, hS⟩ : ∃ S, trG (endI g.nd) g = S := ⟨_, rfl⟩
        have hrg : r < g.nd.length := by rw [HN2.out]; exact hr'.out
        have NG := numGr_num g r hrg
        have smG := smOf HK.out.1 HK.out.2.1 HK.out.2.2.1 HK.out.2.2.2.1
        have few' := numGr_few hrg (c := 20) (Q := fun l => l.length ≤ 1048576 ∧ ∀ n ∈ l, 0 ≤ n ∧ n < 18446744073709551616) HK.out.2.2.1 (fun x hx => ⟨HK.out.2.2.2.1 x hx, HK.out.2.2.2.2 x hx⟩)
        have smN : Sm (numGr g r) := smOf (by rw [numGr_len]; exact HK.out.1) (by simp [numGr]; exact HK.out.2.1) (fun x hx => (few' x hx).1) (fun x hx => (few' x hx).2.1)
        have okG : ∀ n, n < g.nd.length → OkN (nd0 g.nd n) := fun n hn => by rw [nd0_get hn]; exact HK.out.2.2.2.2 _ (List.getElem_mem hn)
        have okN : ∀ n, n < (numGr g r).nd.length → OkN (nd0 (numGr g r).nd n) := fun n hn => by rw [nd0_get hn]; exact (few' _ (List.getElem_mem hn)).2.2
        have hlr : (numGr g r).rs.length = n1 := by simp [numGr, HN1.out]
        have hln : (numGr g r).nd.length = n2 := by rw [numGr_len, HN2.out]
        have GN : Gv wr (numGr g r) o c (some ⟨pn, 0, none⟩) n2 := by
          obtain ⟨cs, R, NR⟩ := HI.out.2
          rw [← HN2.out] at R NR
          refine ⟨?_, ?_⟩
          · have := (HNN.out.rs.ky HI.out.1 (by decide)).ps
            rw [← HLR.out, ← HN2.out] at this
            exact this
          · have := NR.nds BR hrg (by have := HK.out.1; omega) R
            rw [HN2.out] at this
            exact this
        have C1 := fun (W : World) (H : Gv W g o1 c1 a2 d2) => norm11 W g o1 a2 c1 d2 H smG
        have C2 := fun (W : World) (H : Gv W (numGr g r) o c (some ⟨pn, 0, none⟩) n2) => norm11 W (numGr g r) o _ c n2 H smN
        have C3 := fun (W : World) (H : Gv W g o1 c1 a2 d2) => short13 W g o1 a2 c1 d2 H smG okG
        have C4 := fun (W : World) (H : Gv W (numGr g r) o c (some ⟨pn, 0, none⟩) n2) => short13 W (numGr g r) o _ c n2 H smN okN
        rw [hN] at C1
        rw [hS] at C3
        rw [NG.norm, hN] at C2
        rw [NG.short, hS] at C4
        unfold gv at C1 C2 C3 C4
        rw [HN1.out, HN2.out] at C1 C3
        rw [hlr, hln] at C2 C4
        have CS : ∀ (s : Gr) (W : World) (o a o' a' : Option Addr) (c d c' d' : Nat), Gv W s o c a d → Gv W s o' c' a' d' → Calls Try.prog 15 #[.agg #[.slice o s.rs.length c, .slice a s.nd.length d], .agg #[.slice o' s.rs.length c', .slice a' s.nd.length d']] W fun e w' => e = .returned (.bool true) ∧ Below W.heap.size W w' := fun s W o a o' a' c d c' d' H H' =>
          (same15 s s o o' a a' c c' d d' W H H').mono fun e w' ⟨⟨x, e1, e2⟩, B⟩ => ⟨e1.trans (retBool (e2.2 (SameG.refl s))), B⟩
        have H1 := Hid.mk C1
        have H2 := Hid.mk C2
        have H3 := Hid.mk C3
        have H4 := Hid.mk C4
        have HSM := Hid.mk CS
        have HGA := Hid.mk (fun (W : World) (b : Below wr.heap.size wr W) => (HG5.out.later BR).later b)
        have HGB := Hid.mk (fun (W : World) (b : Below wr.heap.size wr W) => GN.later b)
        have HC := Hid.mk (fun (W : World) (b : Below wr.heap.size wr W) => And.intro (cellLater b t0) (And.intro (cellLater b t1) (And.intro (cellLater b t4) (cellLater b t5))))
        have HXX : Hid (Below wr.heap.size wr wr.drew) := ⟨(Below.refl _ wr).drew⟩
        have HBF := Hid.mk (HBW.out.trans (BR.mono HBW.out.size))
        clear C1 C2 C3 C4 CS NG few' smG smN okG okN hlr hln GN hN hS hrg BR
        go_wp2
        go_region_held3 (fun W' => W'.cell? ⟨w.heap.size, 0, none⟩ = some (.slice o1 n1 c1) ∧ W'.cell? ⟨w.heap.size, 1, none⟩ = some (.slice a2 n2 d2) ∧ W'.cell? ⟨pb, 0, none⟩ = some (.slice o n1 c) ∧ W'.cell? ⟨pb, 1, none⟩ = some (.slice (some ⟨pn, 0, none⟩) n2 n2)) (go_keep) (first
          | (go_at_call 11; with_reducible refine (H1.out _ (HGA.out _ HXX.out)).mono ?_; rintro e w7 ⟨o7, c7, a7, d7, rfl, G7, BA⟩; have HG7 := Hid.mk G7.gv; clear H1; replace HXX := Hid.mk (belowOn HXX.out BA); obtain ⟨x0, x1, x2, x3⟩ := HC.out _ HXX.out; clear BA G7)
          | (go_at_call 11; with_reducible refine (H2.out _ (HGB.out _ HXX.out)).mono ?_; rintro e w8 ⟨o8, c8, a8, d8, rfl, G8, BA⟩; have HG8 := Hid.mk G8.gv; replace HG7 := Hid.mk (HG7.out.later BA); clear H2; replace HXX := Hid.mk (belowOn HXX.out BA); obtain ⟨x0, x1, x2, x3⟩ := HC.out _ HXX.out; clear BA G8)
          | (go_at_call 15; with_reducible refine (HSM.out N _ _ _ _ _ _ _ _ _ HG7.out HG8.out).mono ?_; rintro e w9 ⟨rfl, BA⟩; clear HG7 HG8; replace HXX := Hid.mk (belowOn HXX.out BA); obtain ⟨x0, x1, x2, x3⟩ := HC.out _ HXX.out; clear BA)
          | (go_at_call 13; with_reducible refine (H3.out _ (HGA.out _ HXX.out)).mono ?_; rintro e w10 ⟨o9, c9, a9, d9, rfl, G9, BA⟩; have HG9 := Hid.mk G9.gv; clear H3; replace HXX := Hid.mk (belowOn HXX.out BA); obtain ⟨x0, x1, x2, x3⟩ := HC.out _ HXX.out; clear BA G9)
          | (go_at_call 13; with_reducible refine (H4.out _ (HGB.out _ HXX.out)).mono ?_; rintro e w11 ⟨o10, c10, a10, d10, rfl, G10, BA⟩; have HG10 := Hid.mk G10.gv; replace HG9 := Hid.mk (HG9.out.later BA); clear H4; replace HXX := Hid.mk (belowOn HXX.out BA); obtain ⟨x0, x1, x2, x3⟩ := HC.out _ HXX.out; clear BA G10)
          | (go_at_call 15; with_reducible refine (HSM.out S _ _ _ _ _ _ _ _ _ HG9.out HG10.out).mono ?_; rintro e w12 ⟨rfl, BA⟩; replace HXX := Hid.mk (belowOn HXX.out BA); obtain ⟨x0, x1, x2, x3⟩ := HC.out _ HXX.out; clear BA))
        go_wp2
        go_ret
        exact ⟨rfl, HBF.out.trans (HXX.out.mono HBF.out.size)⟩
      case pos =>
      skip
      have hlt' : (i : Int) < n2 := by omega
      have hin : i < g.nd.length := by rw [HN2.out]; exact hlt
      obtain ⟨q, off, u1, k1, u2, k2, rfl, hca, _, P1, P2, a0, a1', a2', a3'⟩ := HG5.out.nd.nd hin
      have hkl := HKN.out i hlt
      rw [HN2.out] at hca
      have HX : Hid ((fun n => nd0 g.nd n) i = nd0 g.nd i) := ⟨rfl⟩
      generalize nd0 g.nd i = x at *
      obtain ⟨xk, xi, xns, xks⟩ := x
      dsimp only at *
      obtain ⟨l1, h1⟩ : ∃ n, xns.length = n := ⟨_, rfl⟩
      obtain ⟨l2, h2⟩ : ∃ n, xks.length = n := ⟨_, rfl⟩
      have HL1 := Hid.mk h1
      have HL2 := Hid.mk h2
      rw [h1] at a2'
      rw [h2] at a3' hkl
      have BR := (HPB.out _ HI.out.1).1
      have r0 := cellLater BR a0
      have r1 := cellLater BR a1'
      have r2 := cellLater BR a2'
      have r3 := cellLater BR a3'
      have HP1 := Hid.mk P1
      have BA : Below wr.heap.size wr (wr.alloc (.cells #[.int .i64 xk, .int .i64 xi, .slice u1 l1 k1, .slice u2 l2 k2] 34)) := by go_grown
      have hsz := BR.size
      have szc : wc.heap.size ≤ wr.heap.size := HI.out.1.bel.size
      have CX := HCK.out xks l2 u2 k2 _ h2 (by omega) (P2.later (belowOn BR BA)) (belowOn BR BA)
      have HCX := Hid.mk CX
      have HYB : Hid (∀ W, Below (wr.alloc (.cells #[.int .i64 xk, .int .i64 xi, .slice u1 l1 k1, .slice u2 l2 k2] 34)).heap.size (wr.alloc (.cells #[.int .i64 xk, .int .i64 xi, .slice u1 l1 k1, .slice u2 l2 k2] 34)) W → Below wr.heap.size wr W ∧ W.heap[wr.heap.size]? = some (.cells #[.int .i64 xk, .int .i64 xi, .slice u1 l1 k1, .slice u2 l2 k2] 34 (0, 0)) ∧ W.cell? ⟨wr.heap.size, 3, none⟩ = some (.slice u2 l2 k2) ∧ W.frozen? ⟨wr.heap.size, 3, none⟩ = false) := ⟨fun W B => by
        have y1 := (B.block wr.heap.size (by simp)).trans (heap_alloc_new wr (.cells #[.int .i64 xk, .int .i64 xi, .slice u1 l1 k1, .slice u2 l2 k2] 34))
        exact ⟨belowOn BA B, y1, by rw [Joins.cell_of_block y1]; rfl, Joins.unfrozen_of_block y1 3⟩⟩
      clear CX BA P1 P2 a0 a1' a2' a3' h1 h2
      go_upto_region 13 with (go_at_call 18; with_reducible refine HCX.out.mono ?_; rintro e w6 ⟨ga, ca, rfl, F6, B6⟩; obtain ⟨y6, y61, y62, y63⟩ := HYB.out _ B6; have HF6 := Hid.mk F6; have HY6 := Hid.mk (And.intro y6 y61); have s6 := (HSW.out _ (HI.out.1.trans (Ky.later hsz y6))); obtain ⟨s60, s61, s62, s63, s64, s65⟩ := s6; clear F6 B6 y6 y61)
      have HPN : Hid (pn < wr.heap.size) := ⟨by obtain ⟨cs, h, _⟩ := HI.out.2; exact (own4 h).2.1⟩
      have y10 := Joins.block_setCell HY6.out.2 (i := 3) (.slice ga l2 ca)
      have K13 : Ky W5.heap.size (fun _ => False) [34] wr (w6.setCell ⟨wr.heap.size, 3, none⟩ (.slice ga l2 ca)) := (Ky.later hsz HY6.out.1).trans (Ky.set HY6.out.2 (by simp) hsz)
      have HF13 : Hid (Fs 0 (fun _ => False) (w6.setCell ⟨wr.heap.size, 3, none⟩ (.slice ga l2 ca)) .i64 3 ga ca (xks.map (rnI n2 r))) := ⟨(HF6.out.low (Nat.zero_le _)).ky (Ky.set (base := W5.heap.size) (X := fun _ => False) (T := [34]) HY6.out.2 (by simp) hsz) (by decide)⟩
      have R13 : Hid (∃ cs, (w6.setCell ⟨wr.heap.size, 3, none⟩ (.slice ga l2 ca)).ownsRow W5.heap.size 34 4 (.slice (some ⟨pn, 0, none⟩) n2 n2) n2 cs ∧ NumR W5 (w6.setCell ⟨wr.heap.size, 3, none⟩ (.slice ga l2 ca)) (fun n => nd0 g.nd n) n2 r i cs) := ⟨by
        obtain ⟨cs, h, hn⟩ := HI.out.2
        exact ⟨cs, own_setFar (own_later h HY6.out.1) (by have := HPN.out; omega), hn.ky K13 (by decide)⟩⟩
      have y3 : (w6.setCell ⟨wr.heap.size, 3, none⟩ (.slice ga l2 ca)).heap[wr.heap.size]? = some (.cells #[.int .i64 xk, .int .i64 xi, .slice u1 l1 k1, .slice ga l2 ca] 34 (0, 0)) := y10
      obtain ⟨v0, v1, v2, v3, v4, v5⟩ := HSW.out _ (HI.out.1.trans K13)
      have HK13 := Hid.mk K13
      have HY3 := Hid.mk y3
      generalize w6.setCell ⟨wr.heap.size, 3, none⟩ (.slice ga l2 ca) = W13 at *
      clear K13 y3 y10 y62 y63 s60 s61 s62 s63 s64 s65 HF6 HY6
      have d0 : W13.cell? ⟨wr.heap.size, 0, none⟩ = some (.int .i64 xk) := by rw [Joins.cell_of_block HY3.out]; rfl
      have d1 : W13.cell? ⟨wr.heap.size, 1, none⟩ = some (.int .i64 xi) := by rw [Joins.cell_of_block HY3.out]; rfl
      have d2' : W13.cell? ⟨wr.heap.size, 2, none⟩ = some (.slice u1 l1 k1) := by rw [Joins.cell_of_block HY3.out]; rfl
      have d3 : W13.cell? ⟨wr.heap.size, 3, none⟩ = some (.slice ga l2 ca) := by rw [Joins.cell_of_block HY3.out]; rfl
      obtain ⟨cs, hrow, hnum⟩ := R13.out
      have HRW := Hid.mk hrow
      have HNU := Hid.mk hnum
      obtain ⟨ph, hph⟩ : ∃ p, phi n2 r i = p := ⟨_, rfl⟩
      have hphl : ph < n2 := by rw [← hph]; exact phi_lt hlt
      have hmod : ((i : Int) + (r : Int)).tmod (n2 : Int) = (ph : Int) := by rw [Int.tmod_eq_emod_of_nonneg (by omega), ← hph]; unfold phi; rw [Int.natCast_emod, Int.natCast_add]
      have hrl' := hr'.out
      have hwr : IntKind.i64.wrap ((i : Int) + (r : Int)) = (i : Int) + r := by rw [IntKind.wrap_i64]; omega
      have hphi : (ph : Int) < n2 := by omega
      have HPH := Hid.mk hph
      obtain ⟨_, _, _, _, _, h6, _⟩ := own4 hrow
      have hcl : cs.length = n2 * 4 := hrow.1
      have e0 : ∃ v, W13.cell? ⟨pn, ph * 4, none⟩ = some v := ⟨_, (h6 (ph * 4) (by omega)).1.trans (List.getElem?_eq_getElem (by omega))⟩
      have e1 : ∃ v, W13.cell? ⟨pn, ph * 4 + 1, none⟩ = some v := ⟨_, (h6 (ph * 4 + 1) (by omega)).1.trans (List.getElem?_eq_getElem (by omega))⟩
      have e2 : ∃ v, W13.cell? ⟨pn, ph * 4 + 2, none⟩ = some v := ⟨_, (h6 (ph * 4 + 2) (by omega)).1.trans (List.getElem?_eq_getElem (by omega))⟩
      have e3 : ∃ v, W13.cell? ⟨pn, ph * 4 + 3, none⟩ = some v := ⟨_, (h6 (ph * 4 + 3) (by omega)).1.trans (List.getElem?_eq_getElem (by omega))⟩
      obtain ⟨z0, e0⟩ := e0
      obtain ⟨z1, e1⟩ := e1
      obtain ⟨z2, e2⟩ := e2
      obtain ⟨z3, e3⟩ := e3
      have j0 := (h6 (ph * 4) (by omega)).2
      have j1 := (h6 (ph * 4 + 1) (by omega)).2
      have j2 := (h6 (ph * 4 + 2) (by omega)).2
      have j3 := (h6 (ph * 4 + 3) (by omega)).2
      have HCL := Hid.mk hcl
      have KP : Ky W5.heap.size (fun _ => False) [34] W13 ((((W13.setCell ⟨pn, ph * 4, none⟩ (.int .i64 xk)).setCell ⟨pn, ph * 4 + 1, none⟩ (.int .i64 xi)).setCell ⟨pn, ph * 4 + 2, none⟩ (.slice u1 l1 k1)).setCell ⟨pn, ph * 4 + 3, none⟩ (.slice ga l2 ca)) := ky_put4 hrow (by omega) _ _ _ _
      have far : ∀ k v, W13.cell? ⟨wr.heap.size, k, none⟩ = some v → ((((W13.setCell ⟨pn, ph * 4, none⟩ (.int .i64 xk)).setCell ⟨pn, ph * 4 + 1, none⟩ (.int .i64 xi)).setCell ⟨pn, ph * 4 + 2, none⟩ (.slice u1 l1 k1)).setCell ⟨pn, ph * 4 + 3, none⟩ (.slice ga l2 ca)).drew.cell? ⟨wr.heap.size, k, none⟩ = some v := fun k v h => by
        have ne : pn ≠ wr.heap.size := by have := HPN.out; omega
        exact (World.cell?_setCell_far _ _ _ _ ne).trans ((World.cell?_setCell_far _ _ _ _ ne).trans ((World.cell?_setCell_far _ _ _ _ ne).trans ((World.cell?_setCell_far _ _ _ _ ne).trans h)))
      have HKP := Hid.mk ((HI.out.1.trans HK13.out).trans KP)
      have HSF : Hid (((((W13.setCell ⟨pn, ph * 4, none⟩ (.int .i64 xk)).setCell ⟨pn, ph * 4 + 1, none⟩ (.int .i64 xi)).setCell ⟨pn, ph * 4 + 2, none⟩ (.slice u1 l1 k1)).setCell ⟨pn, ph * 4 + 3, none⟩ (.slice ga l2 ca)).drew.cell? ⟨pb, 1, none⟩ = some (.slice (some ⟨pn, 0, none⟩) n2 n2) ∧ ((((W13.setCell ⟨pn, ph * 4, none⟩ (.int .i64 xk)).setCell ⟨pn, ph * 4 + 1, none⟩ (.int .i64 xi)).setCell ⟨pn, ph * 4 + 2, none⟩ (.slice u1 l1 k1)).setCell ⟨pn, ph * 4 + 3, none⟩ (.slice ga l2 ca)).drew.cell? ⟨p6', 0, none⟩ = some (.int .i64 r) ∧ ((((W13.setCell ⟨pn, ph * 4, none⟩ (.int .i64 xk)).setCell ⟨pn, ph * 4 + 1, none⟩ (.int .i64 xi)).setCell ⟨pn, ph * 4 + 2, none⟩ (.slice u1 l1 k1)).setCell ⟨pn, ph * 4 + 3, none⟩ (.slice ga l2 ca)).drew.cell? ⟨p5, 0, none⟩ = some (.int .i64 n2) ∧ ((((W13.setCell ⟨pn, ph * 4, none⟩ (.int .i64 xk)).setCell ⟨pn, ph * 4 + 1, none⟩ (.int .i64 xi)).setCell ⟨pn, ph * 4 + 2, none⟩ (.slice u1 l1 k1)).setCell ⟨pn, ph * 4 + 3, none⟩ (.slice ga l2 ca)).drew.cell? ⟨wr.heap.size, 0, none⟩ = some (.int .i64 xk) ∧ ((((W13.setCell ⟨pn, ph * 4, none⟩ (.int .i64 xk)).setCell ⟨pn, ph * 4 + 1, none⟩ (.int .i64 xi)).setCell ⟨pn, ph * 4 + 2, none⟩ (.slice u1 l1 k1)).setCell ⟨pn, ph * 4 + 3, none⟩ (.slice ga l2 ca)).drew.cell? ⟨wr.heap.size, 1, none⟩ = some (.int .i64 xi) ∧ ((((W13.setCell ⟨pn, ph * 4, none⟩ (.int .i64 xk)).setCell ⟨pn, ph * 4 + 1, none⟩ (.int .i64 xi)).setCell ⟨pn, ph * 4 + 2, none⟩ (.slice u1 l1 k1)).setCell ⟨pn, ph * 4 + 3, none⟩ (.slice ga l2 ca)).drew.cell? ⟨wr.heap.size, 2, none⟩ = some (.slice u1 l1 k1) ∧ ((((W13.setCell ⟨pn, ph * 4, none⟩ (.int .i64 xk)).setCell ⟨pn, ph * 4 + 1, none⟩ (.int .i64 xi)).setCell ⟨pn, ph * 4 + 2, none⟩ (.slice u1 l1 k1)).setCell ⟨pn, ph * 4 + 3, none⟩ (.slice ga l2 ca)).drew.cell? ⟨wr.heap.size, 3, none⟩ = some (.slice ga l2 ca)) := ⟨by
        obtain ⟨_, _, f2, f3, _, f5⟩ := HSW.out _ HKP.out
        exact ⟨f5, f3, f2, far _ _ d0, far _ _ d1, far _ _ d2', far _ _ d3⟩⟩
      have HFP := Hid.mk (HF13.out.ky KP (by decide))
      have HNP := Hid.mk (hnum.ky KP (by decide))
      have HOP := Hid.mk (own_put4 hrow (by omega : ph * 4 + 3 < n2 * 4) (.int .i64 xk) (.int .i64 xi) (.slice u1 l1 k1) (.slice ga l2 ca))
      clear far KP h6 hcl hrow hnum hph R13 t0 t1 t2 t3 t4 t5 r0 r1 r2 r3
      go_region_held3 (fun W' => W'.cell? ⟨pb, 1, none⟩ = some (.slice (some ⟨pn, 0, none⟩) n2 n2) ∧ W'.cell? ⟨p6', 0, none⟩ = some (.int .i64 r) ∧ W'.cell? ⟨p5, 0, none⟩ = some (.int .i64 n2) ∧ W'.cell? ⟨wr.heap.size, 0, none⟩ = some (.int .i64 xk) ∧ W'.cell? ⟨wr.heap.size, 1, none⟩ = some (.int .i64 xi) ∧ W'.cell? ⟨wr.heap.size, 2, none⟩ = some (.slice u1 l1 k1) ∧ W'.cell? ⟨wr.heap.size, 3, none⟩ = some (.slice ga l2 ca)) (first | exact HSF.out | go_keep) (fail)
      go_wp2
      go_roundw
      case rel =>
        refine ⟨i + 1, by go_num, by omega, ⟨HKP.out.trans ⟨Below.drew (Below.refl _ _), fun _ _ _ _ h _ _ => h⟩, _, HOP.out, ?_⟩⟩
        have := HNP.out.put hr'.out hlt HCL.out (o1 := u1) (c1 := k1) (o2 := ga) (c2 := ca) (by rw [HX.out]; exact HP1.out) (by rw [HX.out]; exact HFP.out)
        rw [HX.out, HPH.out] at this
        dsimp only at this
        rw [HL1.out, HL2.out] at this
        exact this
      case measure => simp [intOf]; omega
end Go.Proofs.Ytncimddgkgclpaa
