/- GraphSteps: the walk. -/
import Derived.Test.YtncimddgkgclpaaStm
import Derived.Test.YtncimddgkgclpaaMtl
import Derived.Test.YtncimddgkgclpaaGrc
import Derived.Test.YtncimddgkgclpaaTwp
import Derived.Deep.RegionHeld3
import Derived.Deep.CutRange
import Derived.BigQuiet
namespace Go.Proofs.Ytncimddgkgclpaa
open Go.RowKit
set_option linter.unusedVariables false
set_option linter.unusedSimpArgs false
set_option maxRecDepth 100000

theorem fewG_okd {g : Gr} (ok : OkG g) (n : Nat) (hn : n < (fewG g).nd.length) : OkD (nd0 (fewG g).nd n) := by
  rw [nd0_get hn]
  have hx : (fewG g).nd[n] ∈ (g.nd.take 60).map fewD := List.getElem_mem hn
  obtain ⟨y, hy, e⟩ := List.mem_map.1 hx
  have := ok.nd y (List.mem_of_mem_take hy)
  rw [← e]
  exact ⟨this.k, this.i, this.ns, fun p hp => this.ks p (List.mem_of_mem_take hp)⟩
set_option maxHeartbeats 16000000 in
theorem steps7 (g0 : Gr) (o1 : Option Addr) (c1 : Nat) (a1 : Option Addr) (d1 : Nat) (L : List Int) (oL : Option Addr) (cL : Nat) (w : World) (G : Gv w g0 o1 c1 a1 d1) (ok : OkG g0) (hns : ∀ x, x ∈ g0.nd → x.ns.length ≤ 1048576) (PL : PS .u16 w oL cL L) (hL : ∀ n ∈ L, 0 ≤ n ∧ n ≤ 65535) :
    Calls Try.prog 7 #[gv g0 o1 c1 a1 d1, .slice oL L.length cL] w fun e w' => e = .returned (.bool true) ∧ Below w.heap.size w w' := by
  have CF := few8 g0 o1 a1 c1 d1
  obtain ⟨f1, f2, f3⟩ := fewG_few g0
  have f4 := fewG_words (Q := fun l => l.length ≤ 1048576) hns
  have f6 := fewG_okd ok
  have hgr0 : ∀ n ∈ (fewG g0).rs, In64 n := fun n hn => ok.rs n (List.mem_of_mem_take hn)
  generalize fewG g0 = g at *
  have okN : ∀ n, n < g.nd.length → OkN (nd0 g.nd n) := fun n hn => fun j hj => by have := (f6 n hn).ns j hj; unfold InU64 at this; omega
  have C13 := fun (W : World) (o a : Option Addr) (c d : Nat) (H : Gv W g o c a d) => short13 W g o a c d H (smOf f1 f2 f3 f4) okN
  have HG0 : Hid (Sm g ∧ (∀ n, n < g.nd.length → OkD (nd0 g.nd n)) ∧ (∀ n ∈ g.rs, In64 n) ∧ (∀ x, x ∈ g.nd → x.ks.length ≤ 20) ∧ (∀ x, x ∈ g.nd → x.ns.length ≤ 1048576)) := ⟨⟨smOf f1 f2 f3 f4, f6, hgr0, f3, f4⟩⟩
  have hl1 : g.rs.length ≤ 60 := f2
  have hl2 : g.nd.length ≤ 60 := f1
  have hsl : (trG (endI g.nd) g).rs.length = g.rs.length := by simp [trG]
  obtain ⟨s, hs⟩ : ∃ s, trG (endI g.nd) g = s := ⟨_, rfl⟩
  have HSG := Hid.mk hs
  rw [hs] at C13 hsl
  have HAW := Hid.mk awake_any
  obtain ⟨n1, e1⟩ : ∃ n, g.rs.length = n := ⟨_, rfl⟩
  obtain ⟨m, e2⟩ : ∃ n, g.nd.length = n := ⟨_, rfl⟩
  obtain ⟨ks, e3⟩ : ∃ n, s.nd.length = n := ⟨_, rfl⟩
  obtain ⟨nL, e4⟩ : ∃ n, L.length = n := ⟨_, rfl⟩
  have HN1 := Hid.mk e1
  have HN2 := Hid.mk e2
  have HN3 := Hid.mk (And.intro hsl e3)
  have HN4 := Hid.mk e4
  have hcL := PL.cap
  have hmL := PL.len
  unfold maxLen at hmL
  unfold gv at *
  rw [e1] at hsl
  rw [e1, e2] at CF
  rw [e1, e2, hsl, e3] at C13
  rw [e1] at hl1
  rw [e2] at hl2
  rw [e4] at hcL hmL ⊢
  have HF := Hid.mk CF
  have H13 := Hid.mk C13
  have HPL := Hid.mk PL
  have HLL := Hid.mk hL
  clear CF C13 f1 f2 f3 f4 f6 hs hgr0 okN e1 e2 e3 e4 ok hns PL hL hsl
  generalize g0.rs.length = m1 at *
  generalize g0.nd.length = m2 at *
  have B0 : Below w.heap.size w (w.alloc (.cells #[.slice o1 m1 c1, .slice a1 m2 d1] 25)) := by go_grown
  have y0 : (w.alloc (.cells #[.slice o1 m1 c1, .slice a1 m2 d1] 25)).heap[w.heap.size]? = some (.cells #[.slice o1 m1 c1, .slice a1 m2 d1] 25 (0, 0)) := heap_alloc_new _ _
  have G1 := G.later B0
  have HB0 := Hid.mk B0
  have HG1 := Hid.mk G1
  have HY : Hid (∀ W, Below (w.alloc (.cells #[.slice o1 m1 c1, .slice a1 m2 d1] 25)).heap.size (w.alloc (.cells #[.slice o1 m1 c1, .slice a1 m2 d1] 25)) W → W.heap[w.heap.size]? = some (.cells #[.slice o1 m1 c1, .slice a1 m2 d1] 25 (0, 0)) ∧ W.cell? ⟨w.heap.size, 0, none⟩ = some (.slice o1 m1 c1) ∧ W.cell? ⟨w.heap.size, 1, none⟩ = some (.slice a1 m2 d1) ∧ W.frozen? ⟨w.heap.size, 0, none⟩ = false ∧ W.frozen? ⟨w.heap.size, 1, none⟩ = false) := ⟨fun W B => by
    have y1 := (B.block w.heap.size (by simp)).trans y0
    exact ⟨y1, by rw [Joins.cell_of_block y1]; rfl, by rw [Joins.cell_of_block y1]; rfl, Joins.unfrozen_of_block y1 0, Joins.unfrozen_of_block y1 1⟩⟩
  clear B0 G1 G y0
  go_enter Try.func7, Try.ntmps7
  go_upto_region 2 with (go_at_call 8; with_reducible refine (HF.out _ HG1.out).mono ?_; rintro e w1 ⟨a2, d2, rfl, G2, B2⟩; have HG2 := Hid.mk G2; obtain ⟨y1, xc0, xc1, xf0, xf1⟩ := HY.out _ B2; have HY1 := Hid.mk y1; have HB2 := Hid.mk (belowOn HB0.out B2); clear G2 B2 y1)
  have B3 : Below w.heap.size w ((w1.setCell ⟨w.heap.size, 0, none⟩ (.slice o1 n1 c1)).setCell ⟨w.heap.size, 1, none⟩ (.slice a2 m d2)) := (HB2.out.setCell (Nat.le_refl _) _).setCell (Nat.le_refl _) _
  have z3 : ((w1.setCell ⟨w.heap.size, 0, none⟩ (.slice o1 n1 c1)).setCell ⟨w.heap.size, 1, none⟩ (.slice a2 m d2)).heap[w.heap.size]? = some (.cells #[.slice o1 n1 c1, .slice a2 m d2] 25 (0, 0)) := Joins.block_setCell (Joins.block_setCell HY1.out (i := 0) (.slice o1 n1 c1)) (i := 1) (.slice a2 m d2)
  have G3 := HG2.out.box HY1.out (.slice o1 n1 c1) (.slice a2 m d2)
  generalize (w1.setCell ⟨w.heap.size, 0, none⟩ (.slice o1 n1 c1)).setCell ⟨w.heap.size, 1, none⟩ (.slice a2 m d2) = W2 at *
  have q0 : W2.cell? ⟨w.heap.size, 0, none⟩ = some (.slice o1 n1 c1) := by rw [Joins.cell_of_block z3]; rfl
  have q1 : W2.cell? ⟨w.heap.size, 1, none⟩ = some (.slice a2 m d2) := by rw [Joins.cell_of_block z3]; rfl
  have HB3 := Hid.mk B3
  have HG3 := Hid.mk G3
  have HZ3 := Hid.mk z3
  clear B3 z3 G3 xc0 xc1 xf0 xf1 HY1 HG2 HB2 HY HB0 HG1 HF
  go_upto_region 3 with (go_at_call 13; with_reducible refine (H13.out _ _ _ _ _ HG3.out).mono ?_; clear H13; rintro e w2 ⟨oS, cS, aS, dS, rfl, GS, BS⟩; have HGS := Hid.mk GS.gv; have HBS := Hid.mk BS; clear GS BS)
  have B4 : Below w2.heap.size w2 (w2.alloc (.cells #[.slice oS n1 cS, .slice aS ks dS] 25)) := by go_grown
  have z4 : (w2.alloc (.cells #[.slice oS n1 cS, .slice aS ks dS] 25)).heap[w2.heap.size]? = some (.cells #[.slice oS n1 cS, .slice aS ks dS] 25 (0, 0)) := heap_alloc_new _ _
  have GS4 := HGS.out.later B4
  have BB := belowOn HBS.out B4
  have G4 := HG3.out.later BB
  have z5 := (BB.block _ (Array.getElem?_eq_some_iff.1 HZ3.out).1).trans HZ3.out
  have B5 := belowOn HB3.out BB
  generalize w2.alloc (.cells #[.slice oS n1 cS, .slice aS ks dS] 25) = W3 at *
  generalize w2.heap.size = pS at *
  clear q0 q1
  have x0 : W3.cell? ⟨w.heap.size, 0, none⟩ = some (.slice o1 n1 c1) := by rw [Joins.cell_of_block z5]; rfl
  have x1 : W3.cell? ⟨w.heap.size, 1, none⟩ = some (.slice a2 m d2) := by rw [Joins.cell_of_block z5]; rfl
  have x2 : W3.cell? ⟨pS, 0, none⟩ = some (.slice oS n1 cS) := by rw [Joins.cell_of_block z4]; rfl
  have x3 : W3.cell? ⟨pS, 1, none⟩ = some (.slice aS ks dS) := by rw [Joins.cell_of_block z4]; rfl
  have HS : Hid (∀ W, Below W3.heap.size W3 W → W.cell? ⟨w.heap.size, 0, none⟩ = some (.slice o1 n1 c1) ∧ W.cell? ⟨w.heap.size, 1, none⟩ = some (.slice a2 m d2) ∧ W.cell? ⟨pS, 0, none⟩ = some (.slice oS n1 cS) ∧ W.cell? ⟨pS, 1, none⟩ = some (.slice aS ks dS)) := ⟨fun W B => ⟨cellLater B x0, cellLater B x1, cellLater B x2, cellLater B x3⟩⟩
  have HGW := Hid.mk (fun (W : World) (b : Below W3.heap.size W3 W) => And.intro (G4.later b) (GS4.later b))
  have HBW := Hid.mk B5
  clear B4 z4 GS4 BB G4 z5 B5 HZ3 HG3 HGS HBS HB3 x0 x2 x3
  by_cases hm0 : m = 0
  case pos =>
    subst hm0
    go_wp2_with (go_at_call 9; with_reducible refine (HAW.out _).mono ?_; rintro e w4 ⟨rfl, BA⟩; first | (have HBA := Hid.mk BA; have x1 := (HS.out _ BA).2.1; clear BA) | (have HBC := Hid.mk (belowOn HBA.out BA); clear BA))
    go_ret
    exact ⟨rfl, belowOn HBW.out HBC.out⟩
  case neg =>
  have hn3 : ((m : Int) == 0) = false := by simp; omega
  have hmp : 0 < m := by omega
  go_upto_region 5 with (go_at_call 9; with_reducible refine (HAW.out _).mono ?_; rintro e w4 ⟨rfl, BA⟩; have HBA := Hid.mk BA; have x1 := (HS.out _ BA).2.1; clear BA)
  obtain ⟨i0, hi0, hz0, hz1, hz2⟩ := info_parts info3
  obtain ⟨i34, hi34, hy0, hy1, hy2⟩ := info_parts info34
  have x0 := (HS.out _ HBA.out).1
  have BS : Below w4.heap.size w4 (w4.alloc (.cells #[] 3)) := by go_grown
  have hbs : W3.heap.size ≤ (w4.alloc (.cells #[] 3)).heap.size := Nat.le_trans HBA.out.size BS.size
  have hbs2 : w4.heap.size ≤ (w4.alloc (.cells #[] 3)).heap.size := BS.size
  have HRS : Hid ((0 < n1 → ∃ a, o1 = some a ∧ ∀ j u, (its g.rs)[j]? = some u → (w4.alloc (.cells #[] 3)).cell? (a.add j) = some u) ∧ (its g.rs).length = n1 * 1) := ⟨ps_newz ((HGW.out _ HBA.out).1.rs.later BS) HN1.out, by simp [its, HN1.out]⟩
  have t0 := cellLater BS x0
  have HBS := Hid.mk BS
  clear BS
  go_upto_region 6 with (at_builtin; go_loud (refine wpList_append_T rfl (.tmp 27) (.tmp 29) 22 rfl W3.heap.size 3 i0 _ 1 8 Try.underlying22 hi0 hz0 hz1 hz2 rfl (by decide) (.slice (some ⟨w4.heap.size, 0, none⟩) 0 0) 0 [] rfl (.inl ⟨rfl, rfl, _, rfl⟩) o1 n1 c1 (its g.rs) rfl HRS.out.2 HRS.out.1 (fun u hu => by obtain ⟨x, _, rfl⟩ := List.mem_map.1 hu; rfl) n1 (Nat.zero_add n1) (its g.rs) rfl (by unfold Go.maxLen; omega) (by omega) hbs ?_; intro g9 c9 w9 R9 BB9; have HR9 := Hid.mk R9; have HBB := Hid.mk (app_below BB9 hbs2 (fun h => absurd h (Nat.lt_irrefl _))); clear R9 BB9))
  have H1 : Hid (St1 W3 (w9.alloc (.cells #[.slice g9 n1 c9, .slice none 0 0] 25)) w9.heap.size g n1 m 0 (fun _ => g9) (fun _ => c9)) := ⟨by
    obtain ⟨b, ra⟩ := rows_at HR9.out HN1.out
    exact St1.start HN2.out (belowOn HBA.out (HBS.out.trans HBB.out)) ra⟩
  clear HRS t0 HBS HR9 HBB hbs hbs2 x0 x1 HBA
  generalize w9.alloc (.cells #[.slice g9 n1 c9, .slice none 0 0] 25) = W5 at *
  generalize w9.heap.size = ob at *
  go_wp2
  go_loopw [7] (fun cv wr => ∃ (i : Nat) (GF : Nat → Option Addr) (CF : Nat → Nat), cv = .int .i64 i ∧ i ≤ m ∧ Hid (St1 W3 wr ob g n1 m i GF CF)) (fun cv _ => m - (intOf cv).toNat)
  case atStart => exact ⟨0, _, _, rfl, Nat.zero_le _, H1⟩
  case round =>
    clear H1
    obtain ⟨i, GF, CF, rfl, him, HI⟩ := hrel
    obtain ⟨x0, x1, x2, x3⟩ := HS.out _ HI.out.bel
    obtain ⟨gn, cn, hb, cs, hr, hc⟩ := HI.out.out
    have hsz := HI.out.bel.size
    by_cases hlt : i < m
    case neg =>
      obtain rfl : m = i := by omega
      rename World => wb
      have H2 : Hid (St2 W3 wb ob g n1 m GF CF gn cn cs (P0 g)) := ⟨St2.start HI.out hb hr hc⟩
      clear hb hr hc HI
      go_wp2
      go_loopw [9] (fun cv wr => ∃ (i : Nat) (P : Nat → List Int), cv = .int .i64 i ∧ i ≤ 60 ∧ Hid (St2 W3 wr ob g n1 m GF CF gn cn cs P)) (fun cv _ => 60 - (intOf cv).toNat)
      case atStart => exact ⟨0, P0 g, rfl, Nat.zero_le _, H2⟩
      case round =>
        clear H2 x0 x1 x2 x3
        obtain ⟨i, P, rfl, hi, HJ⟩ := hrel
        have t0 : wr.cell? ⟨ob, 0, none⟩ = some (.slice (GF m) n1 (CF m)) := by rw [Joins.cell_of_block HJ.out.box]; rfl
        have t1 : wr.cell? ⟨ob, 1, none⟩ = some (.slice gn m cn) := by rw [Joins.cell_of_block HJ.out.box]; rfl
        by_cases h1 : i < nL
        case neg =>
          have hlx : (P m).length = n1 := by
            have := HJ.out.rd.len m (by rw [HN2.out]; exact Nat.le_refl _)
            rw [← HN2.out, P0_rs, HN2.out] at this
            rw [this]; exact HN1.out
          have C13 := fun (W : World) (B : Below wr.heap.size wr W) => short13 W (xg g P) (GF m) gn (CF m) cn ((HJ.out.later B).gv HN2.out (by omega)) (HJ.out.rd.sm HG0.out.1) (fun n hn j hj => by have := (HJ.out.rd.okd HG0.out.2.1 (by rw [HN2.out]; omega) n hn).ns j hj; unfold InU64 at this; omega)
          have hsx := HJ.out.rd.rds.short
          rw [HSG.out] at hsx
          rw [hsx] at C13
          have hl1x : (xg g P).rs.length = n1 := by show (P g.nd.length).length = n1; rw [HN2.out]; exact hlx
          have hl2x : (xg g P).nd.length = m := by rw [xg_len]; exact HN2.out
          have CSM : ∀ (W : World) (o a o' a' : Option Addr) (c d c' d' : Nat), Gv W s o c a d → Gv W s o' c' a' d' → Calls Try.prog 15 #[gv s o c a d, gv s o' c' a' d'] W fun e w' => e = .returned (.bool true) ∧ Below W.heap.size W w' := fun W o a o' a' c d c' d' H H' =>
            (same15 s s o o' a a' c c' d d' W H H').mono fun e w' ⟨⟨x, e1, e2⟩, B⟩ => ⟨e1.trans (retBool (e2.2 (SameG.refl s))), B⟩
          unfold gv at C13 CSM
          rw [hl1x, hl2x, HN3.out.1, HN1.out, HN3.out.2] at C13
          rw [HN3.out.1, HN1.out, HN3.out.2] at CSM
          have HC13 := Hid.mk C13
          have HCSM := Hid.mk CSM
          have HE : Hid (∀ W, Below wr.heap.size wr W → Below W3.heap.size W3 W ∧ W.cell? ⟨ob, 0, none⟩ = some (.slice (GF m) n1 (CF m)) ∧ W.cell? ⟨ob, 1, none⟩ = some (.slice gn m cn) ∧ W.cell? ⟨pS, 0, none⟩ = some (.slice oS n1 cS) ∧ W.cell? ⟨pS, 1, none⟩ = some (.slice aS ks dS)) := ⟨fun W B => by
            have BA := HJ.out.bel.trans (B.mono HJ.out.bel.size)
            obtain ⟨_, _, s2, s3⟩ := HS.out _ BA
            exact ⟨BA, cellLater B t0, cellLater B t1, s2, s3⟩⟩
          have HX : Hid (Below wr.heap.size wr wr.drew) := ⟨(Below.refl _ _).drew⟩
          obtain ⟨_, _, x2, x3⟩ := HS.out _ HJ.out.bel
          clear C13 CSM hlx hsx hl1x hl2x
          go_wp2
          go_region_held3 (fun W' => W'.cell? ⟨ob, 0, none⟩ = some (.slice (GF m) n1 (CF m)) ∧ W'.cell? ⟨ob, 1, none⟩ = some (.slice gn m cn) ∧ W'.cell? ⟨pS, 0, none⟩ = some (.slice oS n1 cS) ∧ W'.cell? ⟨pS, 1, none⟩ = some (.slice aS ks dS)) (go_keep) (first
            | (go_at_call 13; with_reducible refine (HC13.out _ HX.out).mono ?_; clear HC13; rintro e w5 ⟨o5, c5, a5, d5, rfl, G5, BA⟩; have HG5 := Hid.mk G5.gv; clear G5; replace HX := Hid.mk (belowOn HX.out BA); obtain ⟨_, s0, s1, s2, s3⟩ := HE.out _ HX.out; clear BA)
            | (go_at_call 15; with_reducible refine (HCSM.out _ _ _ _ _ _ _ _ _ HG5.out (HGW.out _ (HE.out _ HX.out).1).2).mono ?_; clear HCSM HG5; rintro e w6 ⟨rfl, BA⟩; replace HX := Hid.mk (belowOn HX.out BA); obtain ⟨_, s0, s1, s2, s3⟩ := HE.out _ HX.out; clear BA))
          go_wp2
          go_ret
          exact ⟨rfl, HBW.out.trans ((HE.out _ HX.out).1.mono HBW.out.size)⟩
        case pos =>
        by_cases h2 : i < 60
        case neg =>
          have h1' : (i : Int) < nL := by omega
          have hlx : (P m).length = n1 := by
            have := HJ.out.rd.len m (by rw [HN2.out]; exact Nat.le_refl _)
            rw [← HN2.out, P0_rs, HN2.out] at this
            rw [this]; exact HN1.out
          have C13 := fun (W : World) (B : Below wr.heap.size wr W) => short13 W (xg g P) (GF m) gn (CF m) cn ((HJ.out.later B).gv HN2.out (by omega)) (HJ.out.rd.sm HG0.out.1) (fun n hn j hj => by have := (HJ.out.rd.okd HG0.out.2.1 (by rw [HN2.out]; omega) n hn).ns j hj; unfold InU64 at this; omega)
          have hsx := HJ.out.rd.rds.short
          rw [HSG.out] at hsx
          rw [hsx] at C13
          have hl1x : (xg g P).rs.length = n1 := by show (P g.nd.length).length = n1; rw [HN2.out]; exact hlx
          have hl2x : (xg g P).nd.length = m := by rw [xg_len]; exact HN2.out
          have CSM : ∀ (W : World) (o a o' a' : Option Addr) (c d c' d' : Nat), Gv W s o c a d → Gv W s o' c' a' d' → Calls Try.prog 15 #[gv s o c a d, gv s o' c' a' d'] W fun e w' => e = .returned (.bool true) ∧ Below W.heap.size W w' := fun W o a o' a' c d c' d' H H' =>
            (same15 s s o o' a a' c c' d d' W H H').mono fun e w' ⟨⟨x, e1, e2⟩, B⟩ => ⟨e1.trans (retBool (e2.2 (SameG.refl s))), B⟩
          unfold gv at C13 CSM
          rw [hl1x, hl2x, HN3.out.1, HN1.out, HN3.out.2] at C13
          rw [HN3.out.1, HN1.out, HN3.out.2] at CSM
          have HC13 := Hid.mk C13
          have HCSM := Hid.mk CSM
          have HE : Hid (∀ W, Below wr.heap.size wr W → Below W3.heap.size W3 W ∧ W.cell? ⟨ob, 0, none⟩ = some (.slice (GF m) n1 (CF m)) ∧ W.cell? ⟨ob, 1, none⟩ = some (.slice gn m cn) ∧ W.cell? ⟨pS, 0, none⟩ = some (.slice oS n1 cS) ∧ W.cell? ⟨pS, 1, none⟩ = some (.slice aS ks dS)) := ⟨fun W B => by
            have BA := HJ.out.bel.trans (B.mono HJ.out.bel.size)
            obtain ⟨_, _, s2, s3⟩ := HS.out _ BA
            exact ⟨BA, cellLater B t0, cellLater B t1, s2, s3⟩⟩
          have HX : Hid (Below wr.heap.size wr wr.drew) := ⟨(Below.refl _ _).drew⟩
          obtain ⟨_, _, x2, x3⟩ := HS.out _ HJ.out.bel
          clear C13 CSM hlx hsx hl1x hl2x
          go_wp2
          go_region_held3 (fun W' => W'.cell? ⟨ob, 0, none⟩ = some (.slice (GF m) n1 (CF m)) ∧ W'.cell? ⟨ob, 1, none⟩ = some (.slice gn m cn) ∧ W'.cell? ⟨pS, 0, none⟩ = some (.slice oS n1 cS) ∧ W'.cell? ⟨pS, 1, none⟩ = some (.slice aS ks dS)) (go_keep) (first
            | (go_at_call 13; with_reducible refine (HC13.out _ HX.out).mono ?_; clear HC13; rintro e w5 ⟨o5, c5, a5, d5, rfl, G5, BA⟩; have HG5 := Hid.mk G5.gv; clear G5; replace HX := Hid.mk (belowOn HX.out BA); obtain ⟨_, s0, s1, s2, s3⟩ := HE.out _ HX.out; clear BA)
            | (go_at_call 15; with_reducible refine (HCSM.out _ _ _ _ _ _ _ _ _ HG5.out (HGW.out _ (HE.out _ HX.out).1).2).mono ?_; clear HCSM HG5; rintro e w6 ⟨rfl, BA⟩; replace HX := Hid.mk (belowOn HX.out BA); obtain ⟨_, s0, s1, s2, s3⟩ := HE.out _ HX.out; clear BA))
          go_wp2
          go_ret
          exact ⟨rfl, HBW.out.trans ((HE.out _ HX.out).1.mono HBW.out.size)⟩
        case pos =>
        have h1' : (i : Int) < nL := by omega
        have h2' : (i : Int) < 60 := by omega
        have kl : i < L.length := by rw [HN4.out]; exact h1
        obtain ⟨gq, fq, rfl, v0⟩ := HPL.out.get i kl
        have v1 := cellLater (HBW.out.trans (HJ.out.bel.mono HBW.out.size)) v0
        have hv := HLL.out _ (List.getElem_mem kl)
        generalize L[i] = v at *
        have hwm : IntKind.i64.wrap ((m : Int) + 1) = (m : Int) + 1 := by rw [IntKind.wrap_i64]; omega
        have hwv : IntKind.i64.wrap v = v := by rw [IntKind.wrap_i64]; omega
        obtain ⟨k, hk⟩ : ∃ k : Nat, v % ((m : Int) + 1) = (k : Int) := ⟨(v % ((m : Int) + 1)).toNat, by have := Int.emod_nonneg v (b := (m : Int) + 1) (by omega); omega⟩
        have hkM : k ≤ m := by have := Int.emod_lt_of_pos v (b := (m : Int) + 1) (by omega); omega
        obtain ⟨d, hd⟩ : ∃ d : Nat, v / ((m : Int) + 1) = (d : Int) := ⟨(v / ((m : Int) + 1)).toNat, by have := Int.ediv_nonneg hv.1 (show (0 : Int) ≤ (m : Int) + 1 by omega); omega⟩
        have hM0 : ¬ ((m : Int) + 1 = 0) := by omega
        go_wp2
        go_quiet (fail)
        have HJ2 := Hid.mk (HJ.out.later (below_drewN (Below.refl wr.heap.size wr) nq))
        have v2 : (wr.drewN nq).cell? ⟨gq, fq + i, none⟩ = some (.int .u16 v) := cellLater (below_drewN (Below.refl wr.heap.size wr) nq) v1
        clear t0 t1 v1 HJ
        generalize wr.drewN nq = wd at *
        have t0 : wd.cell? ⟨ob, 0, none⟩ = some (.slice (GF m) n1 (CF m)) := by rw [Joins.cell_of_block HJ2.out.box]; rfl
        have t1 : wd.cell? ⟨ob, 1, none⟩ = some (.slice gn m cn) := by rw [Joins.cell_of_block HJ2.out.box]; rfl
        rw [hk]
        have hlm : (P m).length = n1 := by
          have := HJ2.out.rd.len m (by rw [HN2.out]; exact Nat.le_refl _)
          rw [← HN2.out, P0_rs, HN2.out] at this
          rw [this]; exact HN1.out
        have hlk20 : (P k).length ≤ 60 := by
          have h0 := HJ2.out.rd.len k (by rw [HN2.out]; exact hkM)
          rcases Nat.lt_or_ge k m with q | q
          · rw [P0_at g (by rw [HN2.out]; exact q), nd0_get (by rw [HN2.out]; exact q)] at h0
            have := HG0.out.2.2.2.1 _ (List.getElem_mem (show k < g.nd.length by rw [HN2.out]; exact q))
            omega
          · obtain rfl : m = k := by omega
            omega
        by_cases hkm : k < m
        case pos =>
          have hkm' : (k : Int) < m := by omega
          obtain ⟨pN, rfl, hc1, hc2, r3⟩ := HJ2.out.row_k HN2.out hkm
          unfold maxLen at hc2
          obtain ⟨lk, hlk⟩ : ∃ n, (P k).length = n := ⟨_, rfl⟩
          have HLK := Hid.mk hlk
          rw [hlk] at r3 hlk20
          clear hlk
          have HKM : Hid (k ≤ m) := ⟨hkM⟩
          by_cases hl0 : lk = 0
          case pos =>
            subst hl0
            go_wp2
            go_roundw
            case rel => exact ⟨i + 1, P, by go_num, by omega, HJ2⟩
            case measure => simp [intOf]; omega
          case neg =>
            have hl0' : ((lk : Int) == 0) = false := by simp; omega
            have hl1' : ¬ ((lk : Int) = 0) := by omega
            go_wp2
            go_quiet (fail)
            have BQ2 := below_drewN (Below.refl wd.heap.size wd) nq
            have HJ3 := Hid.mk (HJ2.out.later BQ2)
            clear t0 t1 v2 HJ2
            generalize wd.drewN nq = we at *
            obtain ⟨j, hj⟩ : ∃ j : Nat, (d : Int) % (lk : Int) = (j : Int) := ⟨((d : Int) % (lk : Int)).toNat, by have := Int.emod_nonneg (d : Int) (b := (lk : Int)) (by omega); omega⟩
            have hjl : j < lk := by have := Int.emod_lt_of_pos (d : Int) (b := (lk : Int)) (by omega); omega
            rw [hj]
            have hjl' : (j : Int) < lk := by omega
            have t0 : we.cell? ⟨ob, 0, none⟩ = some (.slice (GF m) n1 (CF m)) := by rw [Joins.cell_of_block HJ3.out.box]; rfl
            have t1 : we.cell? ⟨ob, 1, none⟩ = some (.slice (some ⟨pN, 0, none⟩) m cn) := by rw [Joins.cell_of_block HJ3.out.box]; rfl
            obtain ⟨b, eg, _, cz, fz, _, hcap, _⟩ := HJ3.out.rows.at HKM.out (show j < (P k).length by rw [HLK.out]; exact hjl)
            rw [HLK.out] at hcap
            obtain ⟨z, hz⟩ : ∃ z, (P k)[j]'(by rw [HLK.out]; exact hjl) = z := ⟨_, rfl⟩
            rw [hz] at cz
            have HZZ := Hid.mk hz
            have HEG := Hid.mk eg
            rw [eg]
            clear hz eg
            have NXT : ∀ W, Below we.heap.size we W → Hid (St2 W3 W ob g n1 m GF CF (some ⟨pN, 0, none⟩) cn cs P) := fun W B => ⟨HJ3.out.later B⟩
            have HNX := Hid.mk NXT
            clear NXT
            by_cases hz1 : z < 0
            case pos =>
              have hza : decide (z ≥ 0) = false := decide_eq_false (by omega)
              have hzb : decide (0 ≤ z) = false := decide_eq_false (by omega)
              have hzc : ¬ 0 ≤ z := by omega
              go_wp2
              go_quiet (fail)
              go_wp2
              go_roundw
              case rel => exact ⟨i + 1, P, by go_num, by omega, HNX.out _ (below_drewN (Below.refl _ _) _)⟩
              case measure => simp [intOf]; omega
            case neg =>
            have hzc : 0 ≤ z := by omega
            have hzd : z ≥ 0 := hzc
            by_cases hz2 : z < m
            case neg =>
              have hza : decide (z < (m : Int)) = false := decide_eq_false hz2
              go_wp2
              go_quiet (fail)
              go_wp2
              go_roundw
              case rel => exact ⟨i + 1, P, by go_num, by omega, HNX.out _ (below_drewN (Below.refl _ _) _)⟩
              case measure => simp [intOf]; omega
            case pos =>
            obtain ⟨n, rfl⟩ : ∃ n : Nat, z = n := ⟨z.toNat, by omega⟩
            have hnm : n < m := by omega
            go_wp2
            go_quiet (fail)
            have BQ3 := below_drewN (Below.refl we.heap.size we) nq
            have HJ4 := HNX.out _ BQ3
            have c4 := cellLater BQ3 cz
            have s0 := cellLater BQ3 t0
            have s1 := cellLater BQ3 t1
            clear t0 t1 cz HNX HJ3 BQ2 BQ3
            generalize we.drewN nq = wf at *
            have okx := HJ4.out.rd.okd HG0.out.2.1 (by rw [HN2.out]; omega)
            have hnx : n < (xg g P).nd.length := by rw [xg_len, HN2.out]; exact hnm
            have C19 := leads19 (xg g P) n (GF m) (some ⟨pN, 0, none⟩) (CF m) cn wf.drew ((HJ4.out.later (Below.drew (Below.refl wf.heap.size wf))).gv HN2.out (by omega)) hnx (okx n hnx)
            have hl1x : (xg g P).rs.length = n1 := by show (P g.nd.length).length = n1; rw [HN2.out]; exact hlm
            have hl2x : (xg g P).nd.length = m := by rw [xg_len]; exact HN2.out
            unfold gv at C19
            rw [hl1x, hl2x] at C19
            obtain ⟨t, ht⟩ : ∃ t, ldI (xg g P).nd n = t := ⟨_, rfl⟩
            rw [ht] at C19
            have HT := Hid.mk ht
            have HC19 := Hid.mk C19
            have HL : Hid (∀ W, Below wf.heap.size wf W → W.cell? ⟨ob, 0, none⟩ = some (.slice (GF m) n1 (CF m)) ∧ W.cell? ⟨ob, 1, none⟩ = some (.slice (some ⟨pN, 0, none⟩) m cn) ∧ W.cell? ⟨b, j, none⟩ = some (.int .i64 n)) := ⟨fun W B => ⟨cellLater B s0, cellLater B s1, cellLater B c4⟩⟩
            clear C19 ht okx hnx hl1x hl2x
            go_wp2
            go_region_held3 (fun W' => W'.cell? ⟨ob, 0, none⟩ = some (.slice (GF m) n1 (CF m)) ∧ W'.cell? ⟨ob, 1, none⟩ = some (.slice (some ⟨pN, 0, none⟩) m cn) ∧ W'.cell? ⟨b, j, none⟩ = some (.int .i64 n)) (go_keep) (first
              | (go_at_call 19; with_reducible refine HC19.out.mono ?_; clear HC19; rintro e w5 ⟨rfl, B5⟩; have B5' := belowOn (Below.drew (Below.refl wf.heap.size wf)) B5; have H5 := Hid.mk B5'; obtain ⟨r0, r1, r2⟩ := HL.out _ B5'; clear B5 B5'))
            have HJ5 := Hid.mk (HJ4.out.later H5.out)
            by_cases hto : 0 ≤ t
            case neg =>
              have hta : decide (t ≥ 0) = false := decide_eq_false (by omega)
              have htb : decide (0 ≤ t) = false := decide_eq_false (by omega)
              have htc : t < 0 := by omega
              go_wp2
              go_roundw
              case rel => exact ⟨i + 1, P, by go_num, by omega, HJ5⟩
              case measure => simp [intOf]; omega
            case pos =>
            have htd : t ≥ 0 := hto
            obtain ⟨b', eg', _, c5, f5, _, _, _⟩ := HJ5.out.rows.at HKM.out (show j < (P k).length by rw [HLK.out]; exact hjl)
            rw [HEG.out] at eg'
            obtain rfl : b = b' := by simpa using eg'
            have HPUT : Hid (St2 W3 (w5.setCell ⟨b, j, none⟩ (.int .i64 t)) ob g n1 m GF CF (some ⟨pN, 0, none⟩) cn cs (updP P k ((P k).set j t))) := ⟨by
              have := HJ5.out.put HN2.out HKM.out (show j < (P k).length by rw [HLK.out]; exact hjl) HZZ.out hnm (fun q hq => by have := (HG0.out.2.1 n (by rw [HN2.out]; exact hnm)).ns q hq; unfold InU64 at this; omega) (by rw [HT.out]; exact hto) HEG.out
              rw [HT.out] at this
              exact this⟩
            clear eg'
            go_wp2
            go_roundw
            case rel => exact ⟨i + 1, _, by go_num, by omega, HPUT⟩
            case measure => simp [intOf]; omega
        case neg =>
          obtain rfl : m = k := by omega
          have HLK := Hid.mk hlm
          have HKM : Hid (m ≤ m) := ⟨hkM⟩
          by_cases hl0 : n1 = 0
          case pos =>
            subst hl0
            go_wp2
            go_roundw
            case rel => exact ⟨i + 1, P, by go_num, by omega, HJ2⟩
            case measure => simp [intOf]; omega
          case neg =>
            have hl0' : ((n1 : Int) == 0) = false := by simp; omega
            have hl1' : ¬ ((n1 : Int) = 0) := by omega
            go_wp2
            go_quiet (fail)
            have BQ2 := below_drewN (Below.refl wd.heap.size wd) nq
            have HJ3 := Hid.mk (HJ2.out.later BQ2)
            clear t0 t1 v2 HJ2
            generalize wd.drewN nq = we at *
            obtain ⟨j, hj⟩ : ∃ j : Nat, (d : Int) % (n1 : Int) = (j : Int) := ⟨((d : Int) % (n1 : Int)).toNat, by have := Int.emod_nonneg (d : Int) (b := (n1 : Int)) (by omega); omega⟩
            have hjl : j < n1 := by have := Int.emod_lt_of_pos (d : Int) (b := (n1 : Int)) (by omega); omega
            rw [hj]
            have hjl' : (j : Int) < n1 := by omega
            have t0 : we.cell? ⟨ob, 0, none⟩ = some (.slice (GF m) n1 (CF m)) := by rw [Joins.cell_of_block HJ3.out.box]; rfl
            have t1 : we.cell? ⟨ob, 1, none⟩ = some (.slice gn m cn) := by rw [Joins.cell_of_block HJ3.out.box]; rfl
            obtain ⟨b, eg, _, cz, fz, _, hcap, _⟩ := HJ3.out.rows.at HKM.out (show j < (P m).length by rw [HLK.out]; exact hjl)
            rw [HLK.out] at hcap
            obtain ⟨z, hz⟩ : ∃ z, (P m)[j]'(by rw [HLK.out]; exact hjl) = z := ⟨_, rfl⟩
            rw [hz] at cz
            have HZZ := Hid.mk hz
            have HEG := Hid.mk eg
            rw [eg]
            clear hz eg
            have NXT : ∀ W, Below we.heap.size we W → Hid (St2 W3 W ob g n1 m GF CF gn cn cs P) := fun W B => ⟨HJ3.out.later B⟩
            have HNX := Hid.mk NXT
            clear NXT
            by_cases hz1 : z < 0
            case pos =>
              have hza : decide (z ≥ 0) = false := decide_eq_false (by omega)
              have hzb : decide (0 ≤ z) = false := decide_eq_false (by omega)
              have hzc : ¬ 0 ≤ z := by omega
              go_wp2
              go_quiet (fail)
              go_wp2
              go_roundw
              case rel => exact ⟨i + 1, P, by go_num, by omega, HNX.out _ (below_drewN (Below.refl _ _) _)⟩
              case measure => simp [intOf]; omega
            case neg =>
            have hzc : 0 ≤ z := by omega
            have hzd : z ≥ 0 := hzc
            by_cases hz2 : z < m
            case neg =>
              have hza : decide (z < (m : Int)) = false := decide_eq_false hz2
              go_wp2
              go_quiet (fail)
              go_wp2
              go_roundw
              case rel => exact ⟨i + 1, P, by go_num, by omega, HNX.out _ (below_drewN (Below.refl _ _) _)⟩
              case measure => simp [intOf]; omega
            case pos =>
            obtain ⟨n, rfl⟩ : ∃ n : Nat, z = n := ⟨z.toNat, by omega⟩
            have hnm : n < m := by omega
            go_wp2
            go_quiet (fail)
            have BQ3 := below_drewN (Below.refl we.heap.size we) nq
            have HJ4 := HNX.out _ BQ3
            have c4 := cellLater BQ3 cz
            have s0 := cellLater BQ3 t0
            have s1 := cellLater BQ3 t1
            clear t0 t1 cz HNX HJ3 BQ2 BQ3
            generalize we.drewN nq = wf at *
            have okx := HJ4.out.rd.okd HG0.out.2.1 (by rw [HN2.out]; omega)
            have hnx : n < (xg g P).nd.length := by rw [xg_len, HN2.out]; exact hnm
            have C19 := leads19 (xg g P) n (GF m) gn (CF m) cn wf.drew ((HJ4.out.later (Below.drew (Below.refl wf.heap.size wf))).gv HN2.out (by omega)) hnx (okx n hnx)
            have hl1x : (xg g P).rs.length = n1 := by show (P g.nd.length).length = n1; rw [HN2.out]; exact hlm
            have hl2x : (xg g P).nd.length = m := by rw [xg_len]; exact HN2.out
            unfold gv at C19
            rw [hl1x, hl2x] at C19
            obtain ⟨t, ht⟩ : ∃ t, ldI (xg g P).nd n = t := ⟨_, rfl⟩
            rw [ht] at C19
            have HT := Hid.mk ht
            have HC19 := Hid.mk C19
            have HL : Hid (∀ W, Below wf.heap.size wf W → W.cell? ⟨ob, 0, none⟩ = some (.slice (GF m) n1 (CF m)) ∧ W.cell? ⟨ob, 1, none⟩ = some (.slice gn m cn) ∧ W.cell? ⟨b, j, none⟩ = some (.int .i64 n)) := ⟨fun W B => ⟨cellLater B s0, cellLater B s1, cellLater B c4⟩⟩
            clear C19 ht okx hnx hl1x hl2x
            go_wp2
            go_region_held3 (fun W' => W'.cell? ⟨ob, 0, none⟩ = some (.slice (GF m) n1 (CF m)) ∧ W'.cell? ⟨ob, 1, none⟩ = some (.slice gn m cn) ∧ W'.cell? ⟨b, j, none⟩ = some (.int .i64 n)) (go_keep) (first
              | (go_at_call 19; with_reducible refine HC19.out.mono ?_; clear HC19; rintro e w5 ⟨rfl, B5⟩; have B5' := belowOn (Below.drew (Below.refl wf.heap.size wf)) B5; have H5 := Hid.mk B5'; obtain ⟨r0, r1, r2⟩ := HL.out _ B5'; clear B5 B5'))
            have HJ5 := Hid.mk (HJ4.out.later H5.out)
            by_cases hto : 0 ≤ t
            case neg =>
              have hta : decide (t ≥ 0) = false := decide_eq_false (by omega)
              have htb : decide (0 ≤ t) = false := decide_eq_false (by omega)
              have htc : t < 0 := by omega
              go_wp2
              go_roundw
              case rel => exact ⟨i + 1, P, by go_num, by omega, HJ5⟩
              case measure => simp [intOf]; omega
            case pos =>
            have htd : t ≥ 0 := hto
            obtain ⟨b', eg', _, c5, f5, _, _, _⟩ := HJ5.out.rows.at HKM.out (show j < (P m).length by rw [HLK.out]; exact hjl)
            rw [HEG.out] at eg'
            obtain rfl : b = b' := by simpa using eg'
            have HPUT : Hid (St2 W3 (w5.setCell ⟨b, j, none⟩ (.int .i64 t)) ob g n1 m GF CF gn cn cs (updP P m ((P m).set j t))) := ⟨by
              have := HJ5.out.put HN2.out HKM.out (show j < (P m).length by rw [HLK.out]; exact hjl) HZZ.out hnm (fun q hq => by have := (HG0.out.2.1 n (by rw [HN2.out]; exact hnm)).ns q hq; unfold InU64 at this; omega) (by rw [HT.out]; exact hto) HEG.out
              rw [HT.out] at this
              exact this⟩
            clear eg'
            go_wp2
            go_roundw
            case rel => exact ⟨i + 1, _, by go_num, by omega, HPUT⟩
            case measure => simp [intOf]; omega
    case pos =>
    have hlt' : (i : Int) < m := by omega
    have kl : i < g.nd.length := by rw [HN2.out]; exact hlt
    obtain ⟨q, off, p1, k1, p2, k2, rfl, hca, _, P1, P2, a0, a1, a2', a3⟩ := (HGW.out _ (Below.refl _ _)).1.nd.nd kl
    rw [HN2.out] at hca
    have b0 := cellLater HI.out.bel a0
    have b1 := cellLater HI.out.bel a1
    have b2 := cellLater HI.out.bel a2'
    have b3 := cellLater HI.out.bel a3
    have hsk : (nd0 g.nd i).ks.length ≤ 20 := by rw [nd0_get kl]; exact HG0.out.2.2.2.1 _ (List.getElem_mem kl)
    have HPU : Hid (∀ {w9 WD w11 : World} {b c9 cz : Nat} {g9 gz : Option Addr}, RowAt w9 wr.heap.size g9 c9 (nd0 g.nd i).ks b → Below wr.heap.size wr WD → Keep3 w9 WD → w11.ownsRow W3.heap.size 34 4 (.slice gz (i + 1) cz) (i + 1) (cs ++ [.int .i64 (nd0 g.nd i).k, .int .i64 (nd0 g.nd i).i, .slice p1 (nd0 g.nd i).ns.length k1, .slice g9 (nd0 g.nd i).ks.length c9]) → WD.grownBy w11 (Value.slice gn i cn).ownBlock → St1 W3 (w11.setCell ⟨ob, 1, none⟩ (.slice gz (i + 1) cz)) ob g n1 m (i + 1) (fun k => if k = i then g9 else GF k) (fun k => if k = i then c9 else CF k)) := ⟨fun ra BD K9 r gr => HI.out.push hlt HN2.out hb hr hc ra P1 BD K9 r gr⟩
    have HBX := Hid.mk (And.intro hb hr)
    have HIB := Hid.mk HI.out.bel
    have HP2 := Hid.mk P2
    clear P1 P2 a0 a1 a2' a3 hb hr hc HI
    generalize nd0 g.nd i = x at *
    obtain ⟨xk, xi, xns, xks⟩ := x
    dsimp only at *
    obtain ⟨l1, hl1'⟩ : ∃ n, xns.length = n := ⟨_, rfl⟩
    obtain ⟨l2, hl2'⟩ : ∃ n, xks.length = n := ⟨_, rfl⟩
    have HLB := Hid.mk hl2'
    rw [hl1'] at b2 HPU
    rw [hl2'] at b3 hsk HPU
    clear hl1' hl2'
    obtain ⟨WB, hWB⟩ : ∃ W, W = (wr.alloc (.cells #[.int .i64 xk, .int .i64 xi, .slice p1 l1 k1, .slice p2 l2 k2] 34)).alloc (.cells #[] 3) := ⟨_, rfl⟩
    have BWB : Below wr.heap.size wr WB := by rw [hWB]; go_grown
    have nbB : WB.heap[wr.heap.size]? = some (.cells #[.int .i64 xk, .int .i64 xi, .slice p1 l1 k1, .slice p2 l2 k2] 34 (0, 0)) := by rw [hWB]; exact (Below.heap_alloc _ _ _ (by simp)).trans (heap_alloc_new _ _)
    have HRS : Hid ((0 < l2 → ∃ a, p2 = some a ∧ ∀ j u, (its xks)[j]? = some u → WB.cell? (a.add j) = some u) ∧ (its xks).length = l2 * 1) := ⟨ps_newz (HP2.out.later (belowOn HIB.out BWB)) HLB.out, by simp [its, HLB.out]⟩
    have hbs : wr.heap.size ≤ WB.heap.size := BWB.size
    have HWB := Hid.mk (And.intro BWB nbB)
    subst hWB
    clear BWB nbB
    go_upto_region 11 with (at_builtin; go_loud (refine wpList_append_T rfl (.tmp 44) (.tmp 46) 22 rfl wr.heap.size 3 i0 _ 1 8 Try.underlying22 hi0 hz0 hz1 hz2 rfl (by decide) (.slice (some ⟨wr.heap.size + 1, 0, none⟩) 0 0) 0 [] rfl (.inl ⟨rfl, rfl, _, rfl⟩) p2 l2 k2 (its xks) rfl HRS.out.2 HRS.out.1 (fun u hu => by obtain ⟨x, _, rfl⟩ := List.mem_map.1 hu; rfl) l2 (Nat.zero_add l2) (its xks) rfl (by unfold Go.maxLen; omega) (by omega) hbs ?_; intro g9 c9 w9 R9 BB9; have HR9 := Hid.mk R9; have HBB := Hid.mk (app_below BB9 (Nat.le_refl _) (fun h => absurd h (Nat.lt_irrefl _))); have nb9 := (HBB.out.block _ (Array.getElem?_eq_some_iff.1 HWB.out.2).1).trans HWB.out.2; have n3 : w9.cell? ⟨wr.heap.size, 3, none⟩ = some (.slice p2 l2 k2) := (by rw [Joins.cell_of_block nb9]; rfl); have nz3 := Joins.unfrozen_of_block nb9 3; have HNB := Hid.mk nb9; clear R9 BB9 nb9))
    obtain ⟨b9, hra⟩ := rows_at HR9.out HLB.out
    have BW9 := belowOn HWB.out.1 HBB.out
    have BWC : Below wr.heap.size wr (w9.setCell ⟨wr.heap.size, 3, none⟩ (.slice g9 l2 c9)) := BW9.setCell (Nat.le_refl _) _
    have nbC := Joins.block_setCell HNB.out (i := 3) (.slice g9 l2 c9)
    have KC : Keep3 w9 (w9.setCell ⟨wr.heap.size, 3, none⟩ (.slice g9 l2 c9)) := Keep3.ky (Kt.set (base := wr.heap.size) HNB.out (Nat.le_refl _)).ky (by decide)
    have hRA := Hid.mk (And.intro hra KC)
    generalize w9.setCell ⟨wr.heap.size, 3, none⟩ (.slice g9 l2 c9) = WC at *
    clear n3 nz3 HR9 HBB HNB HRS hbs hra KC BW9
    have obC := (BWC.block _ (Array.getElem?_eq_some_iff.1 HBX.out.1).1).trans HBX.out.1
    have t1 : WC.cell? ⟨ob, 1, none⟩ = some (.slice gn i cn) := by rw [Joins.cell_of_block obC]; rfl
    have e0 : WC.cell? ⟨wr.heap.size, 0, none⟩ = some (.int .i64 xk) := by rw [Joins.cell_of_block nbC]; rfl
    have e1 : WC.cell? ⟨wr.heap.size, 1, none⟩ = some (.int .i64 xi) := by rw [Joins.cell_of_block nbC]; rfl
    have e2 : WC.cell? ⟨wr.heap.size, 2, none⟩ = some (.slice p1 l1 k1) := by rw [Joins.cell_of_block nbC]; rfl
    have e3 : WC.cell? ⟨wr.heap.size, 3, none⟩ = some (.slice g9 l2 c9) := by rw [Joins.cell_of_block nbC]; rfl
    have HZ : Hid (Below WC.heap.size WC (WC.alloc (.cells #[.int .i64 xk, .int .i64 xi, .slice p1 l1 k1, .slice g9 l2 c9] 34))) := ⟨by go_grown⟩
    have HRW := Hid.mk (own_later (own_later HBX.out.2 BWC) HZ.out)
    have HOZ : Hid (W3.heap.size ≤ (WC.alloc (.cells #[.int .i64 xk, .int .i64 xi, .slice p1 l1 k1, .slice g9 l2 c9] 34)).heap.size) := ⟨Nat.le_trans hsz (Nat.le_trans BWC.size HZ.out.size)⟩
    have HS5 := Hid.mk obC
    have HBD := Hid.mk (belowOn BWC HZ.out)
    have HKD := Hid.mk (hRA.out.2.trans (Keep3.later HZ.out))
    clear obC nbC BWC
    go_wp2_with (at_builtin; go_loud (refine wpList_append_lies _ rfl (.tmp 50) (.tmp 52) 23 rfl W3.heap.size 34 i34 _ 4 64 Try.underlying23 hi34 hy0 hy1 hy2 rfl (by decide) (.slice gn i cn) i cs rfl HRW.out ⟨WC.heap.size, 0, none⟩ 1 1 [.int .i64 xk, .int .i64 xi, .slice p1 l1 k1, .slice g9 l2 c9] rfl rfl (World.news_of_block (heap_alloc_new _ _)) (by simp [Value.oneCell']) (by decide) (by unfold Go.maxLen; omega) (by omega) HOZ.out _ rfl ?_; intro gz cz w11 hown hgr hat hlt9; have ob9 := grown_keep hgr HRW.out HOZ.out ((HZ.out.block _ (Array.getElem?_eq_some_iff.1 HS5.out).1).trans HS5.out) (by decide); have t0 : w11.cell? ⟨ob, 1, none⟩ = some (.slice gn i cn) := (by rw [Joins.cell_of_block ob9]; rfl); have tz := Joins.unfrozen_of_block ob9 1; have H9 := Hid.mk (HPU.out hRA.out.1 HBD.out HKD.out hown hgr); clear hown hgr hat hlt9 ob9))
    go_roundw
    case rel => exact ⟨i + 1, _, _, by go_num, by omega, H9⟩
    case measure => simp [intOf]; omega
end Go.Proofs.Ytncimddgkgclpaa
