/- The document's Short. -/
import Derived.Test.YtncimddgkgclpaaSha
import Derived.Deep.RegionHeld3
import Derived.Deep.CutRange
namespace Go.Proofs.Ytncimddgkgclpaa
open Go.RowKit
set_option linter.unusedVariables false
set_option linter.unusedSimpArgs false
set_option maxRecDepth 100000

theorem norm_sm {g : Gr} (sm : Sm g) : Sm (trG (kn g.nd.length) g) := by
  have hT : ∀ x, -1 ≤ kn g.nd.length x ∧ kn g.nd.length x < g.nd.length := fun x => by unfold kn; split <;> omega
  have hx : ∀ x, x ∈ g.nd → ∃ n, x = nd0 g.nd n := fun x hx => by
    obtain ⟨n, hn, rfl⟩ := List.mem_iff_getElem.1 hx
    exact ⟨n, (nd0_get hn).symm⟩
  obtain ⟨f1, f2, f3⟩ := trG_few hT sm.nd sm.rs (c := 1000000) (fun x q => by obtain ⟨n, rfl⟩ := hx x q; exact sm.ks n)
  have f4 := trG_words hT (Q := fun l => l.length * 8 ≤ 140737488355328) (fun x q => by obtain ⟨n, rfl⟩ := hx x q; exact sm.ns n)
  refine ⟨f1, f2, fun n => ?_, fun n => ?_⟩
  · rcases Nat.lt_or_ge n (trG (kn g.nd.length) g).nd.length with q | q
    · rw [nd0_get q]; exact f3 _ (List.getElem_mem q)
    · rw [nd0_far q]; simp
  · rcases Nat.lt_or_ge n (trG (kn g.nd.length) g).nd.length with q | q
    · rw [nd0_get q]; exact f4 _ (List.getElem_mem q)
    · rw [nd0_far q]; simp
theorem norm_ok {g : Gr} (ok : ∀ n, n < g.nd.length → OkD (nd0 g.nd n)) (hm : g.nd.length ≤ 1000) (n : Nat) (hn : n < (trG (kn g.nd.length) g).nd.length) : OkD (nd0 (trG (kn g.nd.length) g).nd n) := by
  have hT : ∀ x, -1 ≤ kn g.nd.length x ∧ kn g.nd.length x < g.nd.length := fun x => by unfold kn; split <;> omega
  have hp := (trG_plc hT).2 _ (List.getElem_mem hn)
  have hl := trG_len hT
  rw [nd0_get hn]
  have hx : (trG (kn g.nd.length) g).nd[n] ∈ (trV (kn g.nd.length) g).map fun n => numD (trV (kn g.nd.length) g) (trD (kn g.nd.length) g.nd n) := List.getElem_mem hn
  obtain ⟨p, hpv, e⟩ := List.mem_map.1 hx
  obtain ⟨k1, k2, k3, _⟩ := ok p (trV_lt hT p hpv)
  refine ⟨by rw [← e]; exact k1, by rw [← e]; exact k2, by rw [← e]; exact k3, fun q hq => ?_⟩
  have := hp q hq
  unfold In64
  omega
theorem norm_rd {g : Gr} : RdG (trG (kn g.nd.length) g) (trG (kn g.nd.length) g) := by
  have hT : ∀ x, -1 ≤ kn g.nd.length x ∧ kn g.nd.length x < g.nd.length := fun x => by unfold kn; split <;> omega
  obtain ⟨p1, p2⟩ := trG_plc (g := g) hT
  exact RdG.start p1 fun n hn => by rw [nd0_get hn]; exact p2 _ (List.getElem_mem hn)
set_option maxHeartbeats 16000000 in
theorem short14 (g : Gr) (o a : Option Addr) (cr ca : Nat) (w : World) (G : Gv w g o cr a ca) (sm : Sm g) (ok : ∀ n, n < g.nd.length → OkD (nd0 g.nd n)) :
    Calls Try.prog 14 #[gv g o cr a ca] w fun e w' => ∃ o1 c1 a1 ca1, e = .returned (gv (trG (endI g.nd) g) o1 c1 a1 ca1) ∧ Gv w' (trG (endI g.nd) g) o1 c1 a1 ca1 ∧ Below w.heap.size w w' := by
  have CN := fun (W : World) (b : Below w.heap.size w W) => norm12 g o a cr ca W (G.later b) sm
  have sm0 := norm_sm sm
  have ok0 := norm_ok ok sm.nd
  have rd0 := norm_rd (g := g)
  have hT := norm_then g
  have hnr : (trG (kn g.nd.length) g).rs.length = g.rs.length := by simp [trG]
  rw [← hT]
  clear hT G sm ok
  generalize trG (kn g.nd.length) g = g0 at *
  obtain ⟨T, hT⟩ : ∃ T, trG (endI g0.nd) g0 = T := ⟨_, rfl⟩
  rw [hT]
  obtain ⟨n1, e1⟩ : ∃ n, g.rs.length = n := ⟨_, rfl⟩
  obtain ⟨m0, e0⟩ : ∃ n, g.nd.length = n := ⟨_, rfl⟩
  obtain ⟨m, e2⟩ : ∃ n, g0.nd.length = n := ⟨_, rfl⟩
  have hm := sm0.nd
  have hrl := sm0.rs
  unfold gv at *
  rw [e1] at hnr
  rw [hnr, e2] at CN
  rw [e1, e0] at CN ⊢
  rw [hnr] at hrl
  rw [e2] at hm
  have HCN := Hid.mk CN
  have HG0 := Hid.mk (And.intro sm0 (And.intro ok0 (And.intro rd0 (And.intro hT (And.intro hnr e2)))))
  clear CN sm0 ok0 rd0 hT hnr e1 e0 e2
  have HTL : Hid (T.rs.length = n1) := ⟨by rw [← HG0.out.2.2.2.1]; simp [trG, HG0.out.2.2.2.2.1]⟩
  have y0 : ((w.alloc (.cells #[.slice o n1 cr, .slice a m0 ca] 25)).alloc (.cells #[.slice none 0 0, .slice none 0 0] 25)).heap[w.heap.size]? = some (.cells #[.slice o n1 cr, .slice a m0 ca] 25 (0, 0)) := (Below.heap_alloc _ _ _ (by simp)).trans (heap_alloc_new _ _)
  have y1 : ((w.alloc (.cells #[.slice o n1 cr, .slice a m0 ca] 25)).alloc (.cells #[.slice none 0 0, .slice none 0 0] 25)).heap[w.heap.size + 1]? = some (.cells #[.slice none 0 0, .slice none 0 0] 25 (0, 0)) := by
    have := heap_alloc_new (w.alloc (.cells #[.slice o n1 cr, .slice a m0 ca] 25)) (.cells #[.slice none 0 0, .slice none 0 0] 25)
    simpa using this
  have B0 : Below w.heap.size w ((w.alloc (.cells #[.slice o n1 cr, .slice a m0 ca] 25)).alloc (.cells #[.slice none 0 0, .slice none 0 0] 25)) := by go_grown
  have HY : Hid (∀ W, Below ((w.alloc (.cells #[.slice o n1 cr, .slice a m0 ca] 25)).alloc (.cells #[.slice none 0 0, .slice none 0 0] 25)).heap.size ((w.alloc (.cells #[.slice o n1 cr, .slice a m0 ca] 25)).alloc (.cells #[.slice none 0 0, .slice none 0 0] 25)) W → Below w.heap.size w W ∧ W.heap[w.heap.size]? = some (.cells #[.slice o n1 cr, .slice a m0 ca] 25 (0, 0)) ∧ W.heap[w.heap.size + 1]? = some (.cells #[.slice none 0 0, .slice none 0 0] 25 (0, 0)) ∧ W.cell? ⟨w.heap.size, 0, none⟩ = some (.slice o n1 cr) ∧ W.cell? ⟨w.heap.size, 1, none⟩ = some (.slice a m0 ca) ∧ W.frozen? ⟨w.heap.size, 0, none⟩ = false ∧ W.frozen? ⟨w.heap.size, 1, none⟩ = false) := ⟨fun W B => by
    have z0 := (B.block _ (Array.getElem?_eq_some_iff.1 y0).1).trans y0
    have z1 := (B.block _ (Array.getElem?_eq_some_iff.1 y1).1).trans y1
    exact ⟨belowOn B0 B, z0, z1, by rw [Joins.cell_of_block z0]; rfl, by rw [Joins.cell_of_block z0]; rfl, Joins.unfrozen_of_block z0 0, Joins.unfrozen_of_block z0 1⟩⟩
  have HB0 := Hid.mk B0
  clear y0 y1 B0
  go_enter Try.func14, Try.ntmps14
  go_upto_region 2 with (go_at_call 12; with_reducible refine (HCN.out _ HB0.out).mono ?_; rintro e w1 ⟨o1, c1, a1, d1, rfl, G1, B1⟩; obtain ⟨b1, z0, z1, k0, k1, f0, f1⟩ := HY.out _ B1; have HW := Hid.mk (And.intro G1 (And.intro b1 (And.intro z0 z1))); clear G1 B1 b1 z0 z1)
  have HO : Hid (OutS g0 T w ((w1.setCell ⟨w.heap.size, 0, none⟩ (.slice o1 n1 c1)).setCell ⟨w.heap.size, 1, none⟩ (.slice a1 m d1)) n1 m g0 true o1 c1 a1 d1 (nu g0 + 1)) := ⟨by
    obtain ⟨G1, b1, z0, z1⟩ := HW.out
    refine ⟨(b1.setCell (Nat.le_refl _) _).setCell (Nat.le_refl _) _, G1.box z0 _ _, Joins.block_setCell (Joins.block_setCell z0 (i := 0) _) (i := 1) _, ?_, HG0.out.2.2.2.2.1, HG0.out.2.2.2.2.2, HG0.out.2.2.1, (fun h => by cases h), fun _ => Nat.lt_succ_self _⟩
    exact (Below.heap_setCell _ _ _ _ (show w.heap.size + 1 ≠ w.heap.size by omega)).trans ((Below.heap_setCell _ _ _ _ (show w.heap.size + 1 ≠ w.heap.size by omega)).trans z1)⟩
  generalize (w1.setCell ⟨w.heap.size, 0, none⟩ (.slice o1 n1 c1)).setCell ⟨w.heap.size, 1, none⟩ (.slice a1 m d1) = W1 at *
  clear HW k0 k1 f0 f1 HY HB0 HCN
  go_wp2
  go_loopg [3] (nu g0 + 1) (fun k cv wr => ∃ (gr : Gr) (b : Bool) (o1 a1 : Option Addr) (c1 d1 : Nat), cv = .bool b ∧ Hid (OutS g0 T w wr n1 m gr b o1 c1 a1 d1 k))
  case atStart => exact ⟨g0, true, o1, a1, c1, d1, rfl, HO⟩
  case round =>
    clear HO
    obtain ⟨gr, b, o2, a2, c2, d2, rfl, HO⟩ := hrel
    have x0 : wr.cell? ⟨w.heap.size, 0, none⟩ = some (.slice o2 n1 c2) := by rw [Joins.cell_of_block HO.out.par]; rfl
    have x1 : wr.cell? ⟨w.heap.size, 1, none⟩ = some (.slice a2 m d2) := by rw [Joins.cell_of_block HO.out.par]; rfl
    cases b with
    | false =>
      have CN2 := norm12 gr o2 a2 c2 d2 wr HO.out.gv (HO.out.rd.sm HG0.out.1)
      unfold gv at CN2
      rw [HO.out.l1, HO.out.l2, HO.out.done rfl, HTL.out] at CN2
      have HCN2 := Hid.mk CN2
      clear CN2
      go_wp2_with (go_at_call 12; go_loud (with_reducible refine HCN2.out.mono ?_); clear HCN2; rintro e w5 ⟨o5, c5, a5, d5, rfl, G5, B5⟩; have r5 := (B5.block _ (Array.getElem?_eq_some_iff.1 HO.out.res).1).trans HO.out.res; have q0 : w5.cell? ⟨w.heap.size + 1, 0, none⟩ = some (.slice none 0 0) := (by rw [Joins.cell_of_block r5]; rfl); have q1 : w5.cell? ⟨w.heap.size + 1, 1, none⟩ = some (.slice none 0 0) := (by rw [Joins.cell_of_block r5]; rfl); have z0 := Joins.unfrozen_of_block r5 0; have z1 := Joins.unfrozen_of_block r5 1; have H5 := Hid.mk (And.intro G5 (And.intro B5 r5)); clear G5 B5 r5)
      have f2 := Joins.block_setCell (Joins.block_setCell H5.out.2.2 (i := 0) (.slice o5 n1 c5)) (i := 1) (.slice a5 T.nd.length d5)
      refine bodyPost_ret (results_cell_row Try.results14 _ _ (w.heap.size + 1) 25 _ (0, 0) _ rfl f2 Try.underlying25 rfl size25) rfl ⟨o5, c5, a5, d5, by rw [HTL.out]; rfl, H5.out.1.box H5.out.2.2 _ _, ((HO.out.bel.trans (H5.out.2.1.mono HO.out.bel.size)).setCell (Nat.le_succ _) _).setCell (Nat.le_succ _) _⟩
    | true =>
      rename World => wo
      have hlo := HO.out.bel.size
      have C28 := fun (W : World) (B : Below wo.heap.size wo W) (n : Int) (hn : n < gr.nd.length) => end28 gr n o2 a2 c2 d2 W (HO.out.gv.later B) hn (by rw [HO.out.l2]; exact hm) (HO.out.rd.okd HG0.out.2.1 (by rw [HG0.out.2.2.2.2.2]; exact hm))
      obtain ⟨f, hf⟩ : ∃ f, rdL gr.nd = f := ⟨_, rfl⟩
      have hf' : rdI gr.nd (gr.nd.length + 1) = f := hf
      unfold gv at C28
      rw [hf', HO.out.l1, HO.out.l2] at C28
      have HC28 := Hid.mk C28
      have HF := Hid.mk hf
      clear C28 hf' hf
      have HS : Hid (∀ W, Below wo.heap.size wo W → W.cell? ⟨w.heap.size, 0, none⟩ = some (.slice o2 n1 c2) ∧ W.cell? ⟨w.heap.size, 1, none⟩ = some (.slice a2 m d2)) := ⟨fun W B => ⟨cellLater B x0, cellLater B x1⟩⟩
      have HR0 : Hid (RtS wo (wo.alloc (.cells #[.slice none 0 0, .slice none 0 0] 25)) wo.heap.size f gr.rs 0) := ⟨⟨by go_grown, ⟨none, 0, heap_alloc_new _ _, World.ownsRow_nil _ _ _ _⟩, Nat.le_refl _⟩⟩
      have HPR := Hid.mk HO.out.gv.rs
      have HL1 := Hid.mk HO.out.l1
      have HL2 := Hid.mk HO.out.l2
      have HPT : Hid (∀ p, PtrOf gr p → p < m) := ⟨fun p hp => by
        obtain ⟨p0, hP⟩ := HO.out.rd.ptr (fun n hn j hj => by have := (HG0.out.2.1 n hn).ns j hj; unfold InU64 at this; omega) hp
        have := hP.range.2
        rw [HG0.out.2.2.2.2.2] at this
        exact this⟩
      obtain ⟨i0, hi0, hz0, hz1, hz2⟩ := info_parts info3
      have hrl2 : n1 ≤ 1000000 := hrl
      clear x0 x1
      go_wp2
      generalize wo.alloc (.cells #[.slice none 0 0, .slice none 0 0] 25) = W2 at *
      go_loopw [3, 5, 6] (fun bv cv _ wr => ∃ i : Nat, cv = .int .i64 i ∧ bv = .bool (chL f (gr.rs.take i)) ∧ i ≤ n1 ∧ Hid (RtS wo wr wo.heap.size f gr.rs i)) (fun _ cv _ _ => n1 - (intOf cv).toNat)
      case atStart => exact ⟨0, rfl, rfl, Nat.zero_le _, HR0⟩
      case round =>
        clear HR0
        obtain ⟨i, rfl, rfl, hin, HI⟩ := hrel
        obtain ⟨x0, x1⟩ := HS.out _ HI.out.bel
        obtain ⟨gn, cn, hb, hr⟩ := HI.out.out
        by_cases hlt : i < n1
        case neg =>
          obtain rfl : n1 = i := by omega
          have hch : chL f (gr.rs.take n1) = chL f gr.rs := by rw [← HL1.out, List.take_length]
          have hFR := own_fs (n := n1) hr (by simp [HL1.out])
          have htk : gr.rs.take n1 = gr.rs := by rw [← HL1.out, List.take_length]
          rw [htk] at hFR
          rw [hch]
          have HN0 : Hid (NdS wo wr wo.heap.size f gn n1 cn (gr.rs.map f) gr.nd 0) := ⟨HI.out.bel, ⟨none, 0, hb, [], World.ownsRow_nil _ _ _ _, rfl⟩, hFR, Nat.le_refl _⟩
          clear hch hFR htk hb hr HI
          rename World => wb
          obtain ⟨c0, hc0⟩ : ∃ b, chL f gr.rs = b := ⟨_, rfl⟩
          have HC0 := Hid.mk hc0
          rw [hc0]
          clear hc0
          obtain ⟨i34, hi34, hy0, hy1, hy2⟩ := info_parts info34
          go_wp2
          go_loopw [3, 7] (fun bv cv wr => ∃ i : Nat, cv = .int .i64 i ∧ bv = .bool (c0 || chN f (gr.nd.take i)) ∧ i ≤ m ∧ Hid (NdS wo wr wo.heap.size f gn n1 cn (gr.rs.map f) gr.nd i)) (fun _ cv _ => m - (intOf cv).toNat)
          case atStart => exact ⟨0, rfl, by cases c0 <;> rfl, Nat.zero_le _, HN0⟩
          case round =>
            clear HN0 x0 x1
            obtain ⟨i, rfl, rfl, him, HI⟩ := hrel
            obtain ⟨x0, x1⟩ := HS.out _ HI.out.bel
            obtain ⟨ge, ce, hb, cs, hr, hn⟩ := HI.out.out
            have hsz := HI.out.bel.size
            by_cases hlt : i < m
            case neg =>
              obtain rfl : m = i := by omega
              have htk : gr.nd.take m = gr.nd := by rw [← HL2.out, List.take_length]
              rw [htk] at hn ⊢
              have t0 : wr.cell? ⟨wo.heap.size, 0, none⟩ = some (.slice gn n1 cn) := by rw [Joins.cell_of_block hb]; rfl
              have t1 : wr.cell? ⟨wo.heap.size, 1, none⟩ = some (.slice ge m ce) := by rw [Joins.cell_of_block hb]; rfl
              have p1 := (HI.out.bel.block _ (Array.getElem?_eq_some_iff.1 HO.out.par).1).trans HO.out.par
              have r1 := (HI.out.bel.block _ (Array.getElem?_eq_some_iff.1 HO.out.res).1).trans HO.out.res
              have pz0 := Joins.unfrozen_of_block p1 0
              have pz1 := Joins.unfrozen_of_block p1 1
              have hchg : (c0 || chN f gr.nd) = chG gr := by rw [chG_parts, HF.out, HC0.out]
              rw [hchg]
              have HNEW : Hid (OutS g0 T w ((wr.setCell ⟨w.heap.size, 0, none⟩ (.slice gn n1 cn)).setCell ⟨w.heap.size, 1, none⟩ (.slice ge m ce)) n1 m (rdG gr) (chG gr) gn cn ge ce (nu gr)) := ⟨by
                have ok' : ∀ n, n < g0.nd.length → ∀ j ∈ (nd0 g0.nd n).ns, 0 ≤ j := fun n hn j hj => by have := (HG0.out.2.1 n hn).ns j hj; unfold InU64 at this; omega
                have hrp : rdG gr = ⟨gr.rs.map f, gr.nd.map (rdx f)⟩ := by rw [rdG_parts, HF.out]
                have hl1 : (rdG gr).rs.length = n1 := by rw [hrp]; simp [HL1.out]
                have hl2 : (rdG gr).nd.length = m := by rw [hrp]; simp [HL2.out]
                have hnc := NM.nc HI.out.bel hn
                have hlm : (gr.nd.map (rdx f)).length = m := by simp [HL2.out]
                have G1 : Gv wr (rdG gr) gn cn ge ce := by
                  rw [hrp]
                  refine ⟨HI.out.rs.ps, ?_⟩
                  rw [← hlm] at hr
                  exact hnc.nds (Below.refl _ _) (by rw [hlm]; omega) hr
                have bw := HO.out.bel.trans (HI.out.bel.mono HO.out.bel.size)
                refine ⟨(bw.setCell (Nat.le_refl _) _).setCell (Nat.le_refl _) _, G1.box p1 _ _, Joins.block_setCell (Joins.block_setCell p1 (i := 0) _) (i := 1) _, ?_, hl1, hl2, HO.out.rd.round ok', fun h => ?_, fun h => HO.out.rd.fewer ok' h⟩
                · exact (Below.heap_setCell _ _ _ _ (show w.heap.size + 1 ≠ w.heap.size by omega)).trans ((Below.heap_setCell _ _ _ _ (show w.heap.size + 1 ≠ w.heap.size by omega)).trans r1)
                · rw [rdG_same h]
                  have := HO.out.rd.done ok' h
                  rw [HL2.out, HG0.out.2.2.2.1] at this
                  exact this⟩
              have HME := Hid.mk (HO.out.meas rfl)
              clear hb hr hn p1 r1 HI htk hchg
              go_wp2
              go_roundg (nu gr)
              case measure => exact HME.out
              case rel => exact ⟨rdG gr, chG gr, gn, ge, cn, ce, rfl, HNEW⟩
            case pos =>
            have hlt' : (i : Int) < m := by omega
            have kl : i < gr.nd.length := by rw [HL2.out]; exact hlt
            obtain ⟨q, off, p1, k1, p2, k2, rfl, hca, _, P1, P2, a0, a1, a2', a3⟩ := HO.out.gv.nd.nd (n := i) kl
            rw [HL2.out] at hca
            have b0 := cellLater HI.out.bel a0
            have b1 := cellLater HI.out.bel a1
            have b2 := cellLater HI.out.bel a2'
            have b3 := cellLater HI.out.bel a3
            have hsk := (HO.out.rd.sm HG0.out.1).ks i
            have HKP : Hid (∀ z, z ∈ (nd0 gr.nd i).ks → z < m) := ⟨fun z hz => HPT.out _ (.inr ⟨i, kl, hz⟩)⟩
            have HCT : Hid (chN f (gr.nd.take (i + 1)) = (chN f (gr.nd.take i) || chL f (nd0 gr.nd i).ks)) := ⟨by rw [nd0_get kl]; exact chN_take f kl⟩
            have HPU : Hid (∀ {X Y Z : World} {gz p1 p2 : Option Addr} {cz k1 k2 : Nat}, Below wr.heap.size wr X → PS .u64 wo p1 k1 (nd0 gr.nd i).ns → Fs wo.heap.size (fun _ => False) X .i64 3 p2 k2 ((nd0 gr.nd i).ks.map f) → Below X.heap.size X Y → Z.ownsRow wo.heap.size 34 4 (.slice gz (i + 1) cz) (i + 1) (cs ++ [.int .i64 (nd0 gr.nd i).k, .int .i64 (nd0 gr.nd i).i, .slice p1 (nd0 gr.nd i).ns.length k1, .slice p2 (nd0 gr.nd i).ks.length k2]) → Y.grownBy Z (Value.slice ge i ce).ownBlock → NdS wo (Z.setCell ⟨wo.heap.size, 1, none⟩ (.slice gz (i + 1) cz)) wo.heap.size f gn n1 cn (gr.rs.map f) gr.nd (i + 1)) := ⟨fun B f1 f2 BY r g => by
              rw [nd0_get kl] at f1 f2 r
              exact HI.out.push hb hr hn B kl f1 f2 BY r g⟩
            have HBX := Hid.mk (And.intro hb hr)
            have HIB := Hid.mk HI.out.bel
            have HP1 := Hid.mk P1
            have HP2 := Hid.mk P2
            clear P1 P2 a0 a1 a2' a3 hb hr hn HI
            generalize nd0 gr.nd i = x at *
            obtain ⟨xk, xi, xns, xks⟩ := x
            dsimp only at *
            obtain ⟨l1, hl1⟩ : ∃ n, xns.length = n := ⟨_, rfl⟩
            obtain ⟨l2, hl2⟩ : ∃ n, xks.length = n := ⟨_, rfl⟩
            have HLA := Hid.mk hl1
            have HLB := Hid.mk hl2
            rw [hl1] at b2 HPU
            rw [hl2] at b3 hsk HPU
            have W4d : Hid (KdS wr ((wr.alloc (.cells #[.int .i64 xk, .int .i64 xi, .slice p1 l1 k1, .slice p2 l2 k2] 34)).alloc (.cells #[.int .i64 xk, .int .i64 xi, .slice p1 l1 k1, .slice none 0 0] 34)) wr.heap.size (wr.heap.size + 1) f ⟨xk, xi, xns, xks⟩ p1 k1 p2 k2 0) := ⟨by
              rw [← hl1, ← hl2]
              have e := heap_alloc_new (wr.alloc (.cells #[.int .i64 xk, .int .i64 xi, .slice p1 xns.length k1, .slice p2 xks.length k2] 34)) (.cells #[.int .i64 xk, .int .i64 xi, .slice p1 xns.length k1, .slice none 0 0] 34)
              exact ⟨by go_grown, (Below.heap_alloc _ _ _ (by simp)).trans (heap_alloc_new _ _), ⟨none, 0, by simpa using e, World.ownsRow_nil _ _ _ _⟩, Nat.le_refl _, Nat.lt_succ_self _⟩⟩
            clear hl1 hl2
            obtain ⟨bb, hbb⟩ : ∃ b, (c0 || chN f (gr.nd.take i)) = b := ⟨_, rfl⟩
            have HBB := Hid.mk hbb
            rw [hbb]
            clear hbb
            go_wp2
            rename World => wj
            generalize (wj.alloc (.cells #[.int .i64 xk, .int .i64 xi, .slice p1 l1 k1, .slice p2 l2 k2] 34)).alloc (.cells #[.int .i64 xk, .int .i64 xi, .slice p1 l1 k1, .slice none 0 0] 34) = W4 at *
            clear x0 x1 b0 b1 b2 b3
            go_loopw [3, 10] (fun bv cv wr => ∃ j : Nat, cv = .int .i64 j ∧ bv = .bool (bb || chL f (xks.take j)) ∧ j ≤ l2 ∧ Hid (KdS wj wr wj.heap.size (wj.heap.size + 1) f ⟨xk, xi, xns, xks⟩ p1 k1 p2 k2 j)) (fun _ cv _ => l2 - (intOf cv).toNat)
            case atStart => exact ⟨0, rfl, by cases bb <;> rfl, Nat.zero_le _, W4d⟩
            case round =>
              clear W4d
              obtain ⟨j, rfl, rfl, hjm, HJ⟩ := hrel
              have BW := HIB.out.trans (HJ.out.bel.mono hsz)
              have HBW := Hid.mk BW
              obtain ⟨x0, x1⟩ := HS.out _ BW
              obtain ⟨gk, ck, hb, hr⟩ := HJ.out.out
              have hnb := HJ.out.nbx
              dsimp only at hb hr hnb
              rw [HLA.out] at hb hnb
              rw [HLB.out] at hnb
              have n3 : wr.cell? ⟨wj.heap.size, 3, none⟩ = some (.slice p2 l2 k2) := by rw [Joins.cell_of_block hnb]; rfl
              have hsz2 := HJ.out.bel.size
              by_cases hlt2 : j < l2
              case neg =>
                obtain rfl : l2 = j := by omega
                have htk : xks.take l2 = xks := by rw [← HLB.out, List.take_length]
                rw [htk] at hr ⊢
                have hFK := own_fs (n := l2) hr (by rw [List.length_map]; exact HLB.out)
                have HFK := Hid.mk (Fs.lowr hFK hsz)
                have ob1 := (HJ.out.bel.block _ (Array.getElem?_eq_some_iff.1 HBX.out.1).1).trans HBX.out.1
                have t1 : wr.cell? ⟨wo.heap.size, 1, none⟩ = some (.slice ge i ce) := by rw [Joins.cell_of_block ob1]; rfl
                have e0 : wr.cell? ⟨wj.heap.size + 1, 0, none⟩ = some (.int .i64 xk) := by rw [Joins.cell_of_block hb]; rfl
                have e1 : wr.cell? ⟨wj.heap.size + 1, 1, none⟩ = some (.int .i64 xi) := by rw [Joins.cell_of_block hb]; rfl
                have e2 : wr.cell? ⟨wj.heap.size + 1, 2, none⟩ = some (.slice p1 l1 k1) := by rw [Joins.cell_of_block hb]; rfl
                have e3 : wr.cell? ⟨wj.heap.size + 1, 3, none⟩ = some (.slice gk l2 ck) := by rw [Joins.cell_of_block hb]; rfl
                have HZ : Hid (Below wr.heap.size wr (wr.alloc (.cells #[.int .i64 xk, .int .i64 xi, .slice p1 l1 k1, .slice gk l2 ck] 34))) := ⟨by go_grown⟩
                have HRW := Hid.mk (own_later (own_later HBX.out.2 HJ.out.bel) HZ.out)
                have HOZ : Hid (wo.heap.size ≤ (wr.alloc (.cells #[.int .i64 xk, .int .i64 xi, .slice p1 l1 k1, .slice gk l2 ck] 34)).heap.size) := ⟨Nat.le_trans hsz (Nat.le_trans hsz2 HZ.out.size)⟩
                have HS5 := Hid.mk ob1
                have HJB := Hid.mk HJ.out.bel
                have HBE : Hid ((bb || chL f xks) = (c0 || chN f (gr.nd.take (i + 1)))) := ⟨by rw [HCT.out, ← Bool.or_assoc, HBB.out]⟩
                clear hb hr hnb HJ hFK ob1 htk BW
                go_wp2_with (at_builtin; go_loud (refine wpList_append_lies _ rfl (.tmp 96) (.tmp 98) 23 rfl wo.heap.size 34 i34 _ 4 64 Try.underlying23 hi34 hy0 hy1 hy2 rfl (by decide) (.slice ge i ce) i cs rfl HRW.out ⟨wr.heap.size, 0, none⟩ 1 1 [.int .i64 xk, .int .i64 xi, .slice p1 l1 k1, .slice gk l2 ck] rfl rfl (World.news_of_block (heap_alloc_new _ _)) (by simp [Value.oneCell']) (by decide) (by unfold Go.maxLen; omega) (by omega) HOZ.out _ rfl ?_; intro gz cz w9 hown hgr hat hlt9; have ob9 := grown_keep hgr HRW.out HOZ.out ((HZ.out.block _ (Array.getElem?_eq_some_iff.1 HS5.out).1).trans HS5.out) (by decide); have t0 : w9.cell? ⟨wo.heap.size, 1, none⟩ = some (.slice ge i ce) := (by rw [Joins.cell_of_block ob9]; rfl); have tz := Joins.unfrozen_of_block ob9 1; have H9 := Hid.mk (HPU.out HJB.out HP1.out HFK.out HZ.out hown hgr); clear hown hgr hat hlt9 ob9))
                go_roundw
                case rel => exact ⟨i + 1, by go_num, by rw [HBE.out], by omega, H9⟩
                case measure => simp [intOf]; omega
              case pos =>
              have hlt2' : (j : Int) < l2 := by omega
              have kl2 : j < xks.length := by rw [HLB.out]; exact hlt2
              have hcp := HP2.out.cap
              rw [HLB.out] at hcp
              obtain ⟨g3, f3, rfl, v0⟩ := HP2.out.get j kl2
              have v1 := cellLater BW (cellLater (Below.refl _ _) v0)
              have hzp := HKP.out _ (List.getElem_mem kl2)
              have HCU : Hid (chL f (xks.take (j + 1)) = (chL f (xks.take j) || f xks[j] != xks[j])) := ⟨chL_take f kl2⟩
              have HPV : Hid (∀ {Y Z : World} {gz : Option Addr} {cz : Nat}, Below wr.heap.size wr Y → Z.ownsRow wj.heap.size 3 1 (.slice gz (j + 1) cz) (j + 1) (its ((xks.take j).map f) ++ [.int .i64 (f xks[j])]) → Y.grownBy Z (Value.slice gk j ck).ownBlock → KdS wj (Z.setCell ⟨wj.heap.size + 1, 3, none⟩ (.slice gz (j + 1) cz)) wj.heap.size (wj.heap.size + 1) f ⟨xk, xi, xns, xks⟩ p1 k1 (some ⟨g3, f3, none⟩) k2 (j + 1)) := ⟨fun B r g => HJ.out.push (by rw [← HLA.out] at hb; exact hb) hr B kl2 r g⟩
              generalize xks[j] = z at *
              obtain ⟨bq, hbq⟩ : ∃ b, chL f (xks.take j) = b := ⟨_, rfl⟩
              rw [hbq] at HCU ⊢
              clear hbq
              have HBY := Hid.mk (And.intro hb (And.intro hr hnb))
              have CI := HC28.out wr.drew BW.drew z hzp
              have HCI := Hid.mk CI
              have HL : Hid (∀ W, Below wr.heap.size wr W → W.cell? ⟨w.heap.size, 0, none⟩ = some (.slice o2 n1 c2) ∧ W.cell? ⟨w.heap.size, 1, none⟩ = some (.slice (some ⟨q, off, none⟩) m d2) ∧ W.cell? ⟨wj.heap.size, 3, none⟩ = some (.slice (some ⟨g3, f3, none⟩) l2 k2) ∧ W.cell? ⟨g3, f3 + j, none⟩ = some (.int .i64 z) ∧ W.cell? ⟨wj.heap.size + 1, 3, none⟩ = some (.slice gk j ck) ∧ W.heap[wj.heap.size + 1]? = some (.cells #[.int .i64 xk, .int .i64 xi, .slice p1 l1 k1, .slice gk j ck] 34 (0, 0))) := ⟨fun W B => by
                have BA := HBW.out.trans (B.mono HBW.out.size)
                obtain ⟨s0, s1⟩ := HS.out W BA
                have yb1 := (B.block _ (Array.getElem?_eq_some_iff.1 HBY.out.1).1).trans HBY.out.1
                have nb1 := (B.block _ (Array.getElem?_eq_some_iff.1 HBY.out.2.2).1).trans HBY.out.2.2
                exact ⟨s0, s1, by rw [Joins.cell_of_block nb1]; rfl, cellLater BA v0, by rw [Joins.cell_of_block yb1]; rfl, yb1⟩⟩
              clear CI v0 hb hr hnb HJ BW
              go_wp2
              go_region_held3 (fun W' => W'.cell? ⟨w.heap.size, 0, none⟩ = some (.slice o2 n1 c2) ∧ W'.cell? ⟨w.heap.size, 1, none⟩ = some (.slice (some ⟨q, off, none⟩) m d2) ∧ W'.cell? ⟨wj.heap.size, 3, none⟩ = some (.slice (some ⟨g3, f3, none⟩) l2 k2) ∧ W'.cell? ⟨g3, f3 + j, none⟩ = some (.int .i64 z)) (go_keep) (first
                | (go_at_call 28; with_reducible refine HCI.out.mono ?_; rintro e w5 ⟨rfl, B5⟩; have B5' := belowOn (Below.drew (Below.refl wr.heap.size wr)) B5; have H5 := Hid.mk B5'; obtain ⟨s0, s1, s2, s3, s4, s5⟩ := HL.out _ B5'; have HS5 := Hid.mk s5; clear B5 B5' s5))
              generalize f z = y at *
              have HZ : Hid (Below w5.heap.size w5 (w5.alloc (.cells #[.int .i64 y] 3))) := ⟨by go_grown⟩
              have HRW := Hid.mk (own_later (own_later HBY.out.2.1 H5.out) HZ.out)
              have h5s := H5.out.size
              have hozz : wj.heap.size ≤ (w5.alloc (.cells #[.int .i64 y] 3)).heap.size := Nat.le_trans hsz2 (Nat.le_trans h5s HZ.out.size)
              have HOZ := Hid.mk hozz
              clear hozz
              by_cases hz : y = z
              · obtain rfl : z = y := hz.symm
                have HZB : Hid ((z != z) = false) := ⟨by simp⟩
                cases bb
                · cases bq
                  · go_wp2_with (at_builtin; go_loud (refine wpList_append_lies _ rfl (.tmp 90) (.tmp 92) 22 rfl wj.heap.size 3 i0 _ 1 8 Try.underlying22 hi0 hz0 hz1 hz2 rfl (by decide) (.slice gk j ck) j (its ((xks.take j).map f)) rfl HRW.out ⟨w5.heap.size, 0, none⟩ 1 1 [.int .i64 z] rfl rfl (World.news_of_block (heap_alloc_new _ _)) (by simp [Value.oneCell']) (by decide) (by unfold Go.maxLen; omega) (by omega) HOZ.out _ rfl ?_; intro gz cz w9 hown hgr hat hlt9; have ob9 := grown_keep hgr HRW.out HOZ.out ((HZ.out.block _ (Array.getElem?_eq_some_iff.1 HS5.out).1).trans HS5.out) (by decide); have t0 : w9.cell? ⟨wj.heap.size + 1, 3, none⟩ = some (.slice gk j ck) := (by rw [Joins.cell_of_block ob9]; rfl); have tz := Joins.unfrozen_of_block ob9 3; have H9 := Hid.mk (HPV.out (belowOn H5.out HZ.out) hown hgr); clear hown hgr hat hlt9 ob9))
                    go_roundw
                    case rel => exact ⟨j + 1, by go_num, by rw [HCU.out]; rw [HZB.out]; rfl, by omega, H9⟩
                    case measure => simp [intOf]; omega
                  · go_wp2_with (at_builtin; go_loud (refine wpList_append_lies _ rfl (.tmp 90) (.tmp 92) 22 rfl wj.heap.size 3 i0 _ 1 8 Try.underlying22 hi0 hz0 hz1 hz2 rfl (by decide) (.slice gk j ck) j (its ((xks.take j).map f)) rfl HRW.out ⟨w5.heap.size, 0, none⟩ 1 1 [.int .i64 z] rfl rfl (World.news_of_block (heap_alloc_new _ _)) (by simp [Value.oneCell']) (by decide) (by unfold Go.maxLen; omega) (by omega) HOZ.out _ rfl ?_; intro gz cz w9 hown hgr hat hlt9; have ob9 := grown_keep hgr HRW.out HOZ.out ((HZ.out.block _ (Array.getElem?_eq_some_iff.1 HS5.out).1).trans HS5.out) (by decide); have t0 : w9.cell? ⟨wj.heap.size + 1, 3, none⟩ = some (.slice gk j ck) := (by rw [Joins.cell_of_block ob9]; rfl); have tz := Joins.unfrozen_of_block ob9 3; have H9 := Hid.mk (HPV.out (belowOn H5.out HZ.out) hown hgr); clear hown hgr hat hlt9 ob9))
                    go_roundw
                    case rel => exact ⟨j + 1, by go_num, by rw [HCU.out]; rfl, by omega, H9⟩
                    case measure => simp [intOf]; omega
                · go_wp2_with (at_builtin; go_loud (refine wpList_append_lies _ rfl (.tmp 90) (.tmp 92) 22 rfl wj.heap.size 3 i0 _ 1 8 Try.underlying22 hi0 hz0 hz1 hz2 rfl (by decide) (.slice gk j ck) j (its ((xks.take j).map f)) rfl HRW.out ⟨w5.heap.size, 0, none⟩ 1 1 [.int .i64 z] rfl rfl (World.news_of_block (heap_alloc_new _ _)) (by simp [Value.oneCell']) (by decide) (by unfold Go.maxLen; omega) (by omega) HOZ.out _ rfl ?_; intro gz cz w9 hown hgr hat hlt9; have ob9 := grown_keep hgr HRW.out HOZ.out ((HZ.out.block _ (Array.getElem?_eq_some_iff.1 HS5.out).1).trans HS5.out) (by decide); have t0 : w9.cell? ⟨wj.heap.size + 1, 3, none⟩ = some (.slice gk j ck) := (by rw [Joins.cell_of_block ob9]; rfl); have tz := Joins.unfrozen_of_block ob9 3; have H9 := Hid.mk (HPV.out (belowOn H5.out HZ.out) hown hgr); clear hown hgr hat hlt9 ob9))
                  go_roundw
                  case rel => exact ⟨j + 1, by go_num, by rw [HCU.out]; rfl, by omega, H9⟩
                  case measure => simp [intOf]; omega
              · have hzz : (y == z) = false := by simp [hz]
                have HZB : Hid ((y != z) = true) := ⟨by simp [hz]⟩
                cases bb
                · cases bq
                  · go_wp2_with (at_builtin; go_loud (refine wpList_append_lies _ rfl (.tmp 90) (.tmp 92) 22 rfl wj.heap.size 3 i0 _ 1 8 Try.underlying22 hi0 hz0 hz1 hz2 rfl (by decide) (.slice gk j ck) j (its ((xks.take j).map f)) rfl HRW.out ⟨w5.heap.size, 0, none⟩ 1 1 [.int .i64 y] rfl rfl (World.news_of_block (heap_alloc_new _ _)) (by simp [Value.oneCell']) (by decide) (by unfold Go.maxLen; omega) (by omega) HOZ.out _ rfl ?_; intro gz cz w9 hown hgr hat hlt9; have ob9 := grown_keep hgr HRW.out HOZ.out ((HZ.out.block _ (Array.getElem?_eq_some_iff.1 HS5.out).1).trans HS5.out) (by decide); have t0 : w9.cell? ⟨wj.heap.size + 1, 3, none⟩ = some (.slice gk j ck) := (by rw [Joins.cell_of_block ob9]; rfl); have tz := Joins.unfrozen_of_block ob9 3; have H9 := Hid.mk (HPV.out (belowOn H5.out HZ.out) hown hgr); clear hown hgr hat hlt9 ob9))
                    go_roundw
                    case rel => exact ⟨j + 1, by go_num, by rw [HCU.out]; rw [HZB.out]; rfl, by omega, H9⟩
                    case measure => simp [intOf]; omega
                  · go_wp2_with (at_builtin; go_loud (refine wpList_append_lies _ rfl (.tmp 90) (.tmp 92) 22 rfl wj.heap.size 3 i0 _ 1 8 Try.underlying22 hi0 hz0 hz1 hz2 rfl (by decide) (.slice gk j ck) j (its ((xks.take j).map f)) rfl HRW.out ⟨w5.heap.size, 0, none⟩ 1 1 [.int .i64 y] rfl rfl (World.news_of_block (heap_alloc_new _ _)) (by simp [Value.oneCell']) (by decide) (by unfold Go.maxLen; omega) (by omega) HOZ.out _ rfl ?_; intro gz cz w9 hown hgr hat hlt9; have ob9 := grown_keep hgr HRW.out HOZ.out ((HZ.out.block _ (Array.getElem?_eq_some_iff.1 HS5.out).1).trans HS5.out) (by decide); have t0 : w9.cell? ⟨wj.heap.size + 1, 3, none⟩ = some (.slice gk j ck) := (by rw [Joins.cell_of_block ob9]; rfl); have tz := Joins.unfrozen_of_block ob9 3; have H9 := Hid.mk (HPV.out (belowOn H5.out HZ.out) hown hgr); clear hown hgr hat hlt9 ob9))
                    go_roundw
                    case rel => exact ⟨j + 1, by go_num, by rw [HCU.out]; rfl, by omega, H9⟩
                    case measure => simp [intOf]; omega
                · go_wp2_with (at_builtin; go_loud (refine wpList_append_lies _ rfl (.tmp 90) (.tmp 92) 22 rfl wj.heap.size 3 i0 _ 1 8 Try.underlying22 hi0 hz0 hz1 hz2 rfl (by decide) (.slice gk j ck) j (its ((xks.take j).map f)) rfl HRW.out ⟨w5.heap.size, 0, none⟩ 1 1 [.int .i64 y] rfl rfl (World.news_of_block (heap_alloc_new _ _)) (by simp [Value.oneCell']) (by decide) (by unfold Go.maxLen; omega) (by omega) HOZ.out _ rfl ?_; intro gz cz w9 hown hgr hat hlt9; have ob9 := grown_keep hgr HRW.out HOZ.out ((HZ.out.block _ (Array.getElem?_eq_some_iff.1 HS5.out).1).trans HS5.out) (by decide); have t0 : w9.cell? ⟨wj.heap.size + 1, 3, none⟩ = some (.slice gk j ck) := (by rw [Joins.cell_of_block ob9]; rfl); have tz := Joins.unfrozen_of_block ob9 3; have H9 := Hid.mk (HPV.out (belowOn H5.out HZ.out) hown hgr); clear hown hgr hat hlt9 ob9))
                  go_roundw
                  case rel => exact ⟨j + 1, by go_num, by rw [HCU.out]; rfl, by omega, H9⟩
                  case measure => simp [intOf]; omega
        case pos =>
        have hlt' : (i : Int) < n1 := by omega
        have kl : i < gr.rs.length := by rw [HL1.out]; exact hlt
        have hcr := HPR.out.cap
        rw [HL1.out] at hcr
        obtain ⟨g2, f2, rfl, y0⟩ := HPR.out.get i kl
        have y1 := cellLater HI.out.bel y0
        have hzp := HPT.out _ (.inl (List.getElem_mem kl))
        have HCT : Hid (chL f (gr.rs.take (i + 1)) = (chL f (gr.rs.take i) || f gr.rs[i] != gr.rs[i])) := ⟨chL_take f kl⟩
        have HPU : Hid (∀ {Y Z : World} {gz : Option Addr} {cz : Nat}, Below wr.heap.size wr Y → Z.ownsRow wo.heap.size 3 1 (.slice gz (i + 1) cz) (i + 1) (its ((gr.rs.take i).map f) ++ [.int .i64 (f gr.rs[i])]) → Y.grownBy Z (Value.slice gn i cn).ownBlock → RtS wo (Z.setCell ⟨wo.heap.size, 0, none⟩ (.slice gz (i + 1) cz)) wo.heap.size f gr.rs (i + 1)) := ⟨fun B r g => HI.out.push hb hr B kl r g⟩
        generalize gr.rs[i] = z at *
        obtain ⟨b1, hb1⟩ : ∃ b, chL f (gr.rs.take i) = b := ⟨_, rfl⟩
        rw [hb1] at HCT ⊢
        clear hb1
        have hsz := HI.out.bel.size
        have HBX := Hid.mk (And.intro hb hr)
        have HIB := Hid.mk HI.out.bel
        have CI := HC28.out wr.drew HI.out.bel.drew z hzp
        have HCI := Hid.mk CI
        have HL : Hid (∀ W, Below wr.heap.size wr W → W.cell? ⟨w.heap.size, 0, none⟩ = some (.slice (some ⟨g2, f2, none⟩) n1 c2) ∧ W.cell? ⟨w.heap.size, 1, none⟩ = some (.slice a2 m d2) ∧ W.cell? ⟨g2, f2 + i, none⟩ = some (.int .i64 z) ∧ W.cell? ⟨wo.heap.size, 0, none⟩ = some (.slice gn i cn) ∧ W.cell? ⟨wo.heap.size, 1, none⟩ = some (.slice none 0 0) ∧ W.heap[wo.heap.size]? = some (.cells #[.slice gn i cn, .slice none 0 0] 25 (0, 0))) := ⟨fun W B => by
          have BA := HIB.out.trans (B.mono hsz)
          obtain ⟨s0, s1⟩ := HS.out W BA
          have ob1 := (B.block _ (Array.getElem?_eq_some_iff.1 HBX.out.1).1).trans HBX.out.1
          exact ⟨s0, s1, cellLater BA y0, by rw [Joins.cell_of_block ob1]; rfl, by rw [Joins.cell_of_block ob1]; rfl, ob1⟩⟩
        clear CI y0 hb hr HI
        go_wp2
        go_region_held3 (fun W' => W'.cell? ⟨w.heap.size, 0, none⟩ = some (.slice (some ⟨g2, f2, none⟩) n1 c2) ∧ W'.cell? ⟨w.heap.size, 1, none⟩ = some (.slice a2 m d2) ∧ W'.cell? ⟨g2, f2 + i, none⟩ = some (.int .i64 z)) (go_keep) (first
          | (go_at_call 28; with_reducible refine HCI.out.mono ?_; rintro e w5 ⟨rfl, B5⟩; have B5' := belowOn (Below.drew (Below.refl wr.heap.size wr)) B5; have H5 := Hid.mk B5'; obtain ⟨s0, s1, s2, s3, s4, s5⟩ := HL.out _ B5'; have HS5 := Hid.mk s5; clear B5 B5' s5))
        generalize f z = y at *
        have HZ : Hid (Below w5.heap.size w5 (w5.alloc (.cells #[.int .i64 y] 3))) := ⟨by go_grown⟩
        have HRW := Hid.mk (own_later (own_later HBX.out.2 H5.out) HZ.out)
        have h5s := H5.out.size
        have hozz : wo.heap.size ≤ (w5.alloc (.cells #[.int .i64 y] 3)).heap.size := Nat.le_trans hsz (Nat.le_trans h5s HZ.out.size)
        have HOZ := Hid.mk hozz
        clear hozz
        by_cases hz : y = z
        · obtain rfl : z = y := hz.symm
          have HZB : Hid ((z != z) = false) := ⟨by simp⟩
          cases b1
          · go_wp2_with (at_builtin; go_loud (refine wpList_append_lies _ rfl (.tmp 41) (.tmp 43) 22 rfl wo.heap.size 3 i0 _ 1 8 Try.underlying22 hi0 hz0 hz1 hz2 rfl (by decide) (.slice gn i cn) i (its ((gr.rs.take i).map f)) rfl HRW.out ⟨w5.heap.size, 0, none⟩ 1 1 [.int .i64 z] rfl rfl (World.news_of_block (heap_alloc_new _ _)) (by simp [Value.oneCell']) (by decide) (by unfold Go.maxLen; omega) (by omega) HOZ.out _ rfl ?_; intro gz cz w9 hown hgr hat hlt9; have ob9 := grown_keep hgr HRW.out HOZ.out ((HZ.out.block _ (Array.getElem?_eq_some_iff.1 HS5.out).1).trans HS5.out) (by decide); have t0 : w9.cell? ⟨wo.heap.size, 0, none⟩ = some (.slice gn i cn) := (by rw [Joins.cell_of_block ob9]; rfl); have tz := Joins.unfrozen_of_block ob9 0; have H9 := Hid.mk (HPU.out (belowOn H5.out HZ.out) hown hgr); clear hown hgr hat hlt9 ob9))
            go_roundw
            case rel => exact ⟨i + 1, by go_num, by rw [HCT.out]; rw [HZB.out]; rfl, by omega, H9⟩
            case measure => simp [intOf]; omega
          · go_wp2_with (at_builtin; go_loud (refine wpList_append_lies _ rfl (.tmp 41) (.tmp 43) 22 rfl wo.heap.size 3 i0 _ 1 8 Try.underlying22 hi0 hz0 hz1 hz2 rfl (by decide) (.slice gn i cn) i (its ((gr.rs.take i).map f)) rfl HRW.out ⟨w5.heap.size, 0, none⟩ 1 1 [.int .i64 z] rfl rfl (World.news_of_block (heap_alloc_new _ _)) (by simp [Value.oneCell']) (by decide) (by unfold Go.maxLen; omega) (by omega) HOZ.out _ rfl ?_; intro gz cz w9 hown hgr hat hlt9; have ob9 := grown_keep hgr HRW.out HOZ.out ((HZ.out.block _ (Array.getElem?_eq_some_iff.1 HS5.out).1).trans HS5.out) (by decide); have t0 : w9.cell? ⟨wo.heap.size, 0, none⟩ = some (.slice gn i cn) := (by rw [Joins.cell_of_block ob9]; rfl); have tz := Joins.unfrozen_of_block ob9 0; have H9 := Hid.mk (HPU.out (belowOn H5.out HZ.out) hown hgr); clear hown hgr hat hlt9 ob9))
            go_roundw
            case rel => exact ⟨i + 1, by go_num, by rw [HCT.out]; rfl, by omega, H9⟩
            case measure => simp [intOf]; omega
        · have hzz : (y == z) = false := by simp [hz]
          have HZB : Hid ((y != z) = true) := ⟨by simp [hz]⟩
          cases b1
          · go_wp2_with (at_builtin; go_loud (refine wpList_append_lies _ rfl (.tmp 41) (.tmp 43) 22 rfl wo.heap.size 3 i0 _ 1 8 Try.underlying22 hi0 hz0 hz1 hz2 rfl (by decide) (.slice gn i cn) i (its ((gr.rs.take i).map f)) rfl HRW.out ⟨w5.heap.size, 0, none⟩ 1 1 [.int .i64 y] rfl rfl (World.news_of_block (heap_alloc_new _ _)) (by simp [Value.oneCell']) (by decide) (by unfold Go.maxLen; omega) (by omega) HOZ.out _ rfl ?_; intro gz cz w9 hown hgr hat hlt9; have ob9 := grown_keep hgr HRW.out HOZ.out ((HZ.out.block _ (Array.getElem?_eq_some_iff.1 HS5.out).1).trans HS5.out) (by decide); have t0 : w9.cell? ⟨wo.heap.size, 0, none⟩ = some (.slice gn i cn) := (by rw [Joins.cell_of_block ob9]; rfl); have tz := Joins.unfrozen_of_block ob9 0; have H9 := Hid.mk (HPU.out (belowOn H5.out HZ.out) hown hgr); clear hown hgr hat hlt9 ob9))
            go_roundw
            case rel => exact ⟨i + 1, by go_num, by rw [HCT.out]; rw [HZB.out]; rfl, by omega, H9⟩
            case measure => simp [intOf]; omega
          · go_wp2_with (at_builtin; go_loud (refine wpList_append_lies _ rfl (.tmp 41) (.tmp 43) 22 rfl wo.heap.size 3 i0 _ 1 8 Try.underlying22 hi0 hz0 hz1 hz2 rfl (by decide) (.slice gn i cn) i (its ((gr.rs.take i).map f)) rfl HRW.out ⟨w5.heap.size, 0, none⟩ 1 1 [.int .i64 y] rfl rfl (World.news_of_block (heap_alloc_new _ _)) (by simp [Value.oneCell']) (by decide) (by unfold Go.maxLen; omega) (by omega) HOZ.out _ rfl ?_; intro gz cz w9 hown hgr hat hlt9; have ob9 := grown_keep hgr HRW.out HOZ.out ((HZ.out.block _ (Array.getElem?_eq_some_iff.1 HS5.out).1).trans HS5.out) (by decide); have t0 : w9.cell? ⟨wo.heap.size, 0, none⟩ = some (.slice gn i cn) := (by rw [Joins.cell_of_block ob9]; rfl); have tz := Joins.unfrozen_of_block ob9 0; have H9 := Hid.mk (HPU.out (belowOn H5.out HZ.out) hown hgr); clear hown hgr hat hlt9 ob9))
            go_roundw
            case rel => exact ⟨i + 1, by go_num, by rw [HCT.out]; rfl, by omega, H9⟩
            case measure => simp [intOf]; omega
end Go.Proofs.Ytncimddgkgclpaa
