/- The document's Norm. -/
import Derived.Test.YtncimddgkgclpaaNma
import Derived.Deep.RegionHeld3
import Derived.Deep.CutRange
namespace Go.Proofs.Ytncimddgkgclpaa
open Go.RowKit
set_option linter.unusedVariables false
set_option linter.unusedSimpArgs false
set_option maxRecDepth 100000

set_option maxHeartbeats 16000000 in
theorem norm12 (g : Gr) (o a : Option Addr) (cr ca : Nat) (w : World) (G : Gv w g o cr a ca) (sm : Sm g) :
    Calls Try.prog 12 #[gv g o cr a ca] w fun e w' => ∃ o1 c1 a1 ca1, e = .returned (gv (trG (kn g.nd.length) g) o1 c1 a1 ca1) ∧ Gv w' (trG (kn g.nd.length) g) o1 c1 a1 ca1 ∧ Below w.heap.size w w' := by
  have hm := sm.nd
  have hrl := sm.rs
  have CM := fun (lo sb : Nat) => meet24 (w0 := w) (lo := lo) (sb := sb) G hm
  have hkn : ∀ x, -1 ≤ kn g.nd.length x ∧ kn g.nd.length x < g.nd.length := fun x => by unfold kn; split <;> omega
  obtain ⟨V, hV⟩ : ∃ V, trV (kn g.nd.length) g = V := ⟨_, rfl⟩
  have hV1 : vis (ksN g.nd) (g.nd.length + 1) (g.rs.map (kn g.nd.length)) [] = V := hV
  have hnd := trV_nod (kn g.nd.length) g
  have hlt := trV_lt (g := g) hkn
  have hcl := trV_closed (g := g) hkn
  have hro := trV_roots (kn g.nd.length) g
  have hvl := trG_len (g := g) hkn
  have hres : trG (kn g.nd.length) g = ⟨(g.rs.map (kn g.nd.length)).map (numI V), V.map fun n => numD V (trD (kn g.nd.length) g.nd n)⟩ := by rw [← hV]; rfl
  rw [hV] at hnd hlt hcl hro
  rw [hres] at hvl ⊢
  have hvl : V.length ≤ g.nd.length := by simpa using hvl
  have HG := Hid.mk G
  have HSM := Hid.mk sm
  have HV := Hid.mk (And.intro hnd (And.intro hlt (And.intro hcl hro)))
  have HV1 := Hid.mk hV1
  have HKN := Hid.mk hkn
  clear hV hV1 hnd hlt hcl hro hres G sm hkn
  have HPL : Hid (∀ l : List Int, Plc g.nd.length (l.map (kn g.nd.length))) := ⟨fun l y hy => by obtain ⟨z, _, rfl⟩ := List.mem_map.1 hy; exact HKN.out z⟩
  have HDP := Hid.mk (ksN_plc g.nd)
  obtain ⟨n1, e1⟩ : ∃ n, g.rs.length = n := ⟨_, rfl⟩
  obtain ⟨m, e2⟩ : ∃ n, g.nd.length = n := ⟨_, rfl⟩
  have HN1 := Hid.mk e1
  have HN2 := Hid.mk e2
  unfold gv at *
  have hrs0 : ((g.rs.map (kn g.nd.length)).map (numI V)).length = n1 := by simp [e1]
  have hns0 : (V.map fun n => numD V (trD (kn g.nd.length) g.nd n)).length = V.length := by simp
  rw [e1, e2] at CM
  rw [hrs0, hns0]
  clear hrs0 hns0
  rw [e1] at hrl ⊢
  rw [e2] at hm hvl HV1 HKN HPL HDP ⊢
  have HCM := Hid.mk CM
  clear CM e1 e2
  obtain ⟨CB, hCB, hmk⟩ := made45 m hm
  have CBf := hCB.2
  obtain ⟨W1, hW1⟩ : ∃ W1, W1 = ((w.alloc (.cells #[.slice o n1 cr, .slice a m ca] 25)).alloc (.cells #[.slice none 0 0, .slice none 0 0] 25)).alloc (.cells CB 4) := ⟨_, rfl⟩
  have B1 : Below w.heap.size w W1 := by rw [hW1]; go_grown
  have s1 : W1.heap.size = w.heap.size + 3 := by rw [hW1]; simp
  have y0 : W1.heap[w.heap.size]? = some (.cells #[.slice o n1 cr, .slice a m ca] 25 (0, 0)) := by
    rw [hW1]
    exact (Below.heap_alloc _ _ _ (by simp; omega)).trans ((Below.heap_alloc _ _ _ (by simp)).trans (heap_alloc_new _ _))
  have y1 : W1.heap[w.heap.size + 1]? = some (.cells #[.slice none 0 0, .slice none 0 0] 25 (0, 0)) := by
    rw [hW1]
    have := heap_alloc_new (w.alloc (.cells #[.slice o n1 cr, .slice a m ca] 25)) (.cells #[.slice none 0 0, .slice none 0 0] 25)
    have e : (w.alloc (.cells #[.slice o n1 cr, .slice a m ca] 25)).heap.size = w.heap.size + 1 := by simp
    rw [e] at this
    exact (Below.heap_alloc _ _ _ (by simp)).trans this
  have y2 : W1.heap[w.heap.size + 1 + 1]? = some (.cells CB 4 (0, 0)) := by
    rw [hW1]
    have := heap_alloc_new ((w.alloc (.cells #[.slice o n1 cr, .slice a m ca] 25)).alloc (.cells #[.slice none 0 0, .slice none 0 0] 25)) (.cells CB 4)
    simpa using this
  have M1 : Ms w W1 (w.heap.size + 3) m (w.heap.size + 1 + 1) (.slice none 0 0) [] :=
    ⟨B1, World.ownsRow_nil _ _ _ _, ⟨CB, y2, hCB.1, fun i hi => by rw [CBf i hi]; rfl⟩, by have := unm_nil m; simp; omega, by omega⟩
  have HW1 := Hid.mk (And.intro B1 (And.intro s1 (And.intro y0 (And.intro y1 M1))))
  have HS : Hid (∀ W, Ky w.heap.size (fun _ => False) [3, 4] W1 W → Below w.heap.size w W ∧ W.heap[w.heap.size]? = some (.cells #[.slice o n1 cr, .slice a m ca] 25 (0, 0)) ∧ W.cell? ⟨w.heap.size, 0, none⟩ = some (.slice o n1 cr) ∧ W.cell? ⟨w.heap.size, 1, none⟩ = some (.slice a m ca) ∧ W.heap[w.heap.size + 1]? = some (.cells #[.slice none 0 0, .slice none 0 0] 25 (0, 0))) := ⟨fun W K => by
    have b0 := K.keep _ _ _ _ HW1.out.2.2.1 (by decide) id
    exact ⟨B1.trans K.bel, b0, by rw [Joins.cell_of_block b0]; rfl, by rw [Joins.cell_of_block b0]; rfl, K.keep _ _ _ _ HW1.out.2.2.2.1 (by decide) id⟩⟩
  have hUN : Hid (unm m [] < m + 1) := ⟨unm_nil m⟩
  have HEQ := Hid.mk hW1
  clear B1 s1 y0 y1 y2 M1 hCB CBf hW1
  go_enter Try.func12, Try.ntmps12
  go_wp2
  rw [← HEQ.out]
  clear hmk
  go_loopw [3, 5] (fun mv cv wr => ∃ (i : Nat) (mt : List Nat) (gr : Option Addr) (rl rc : Nat), cv = .int .i64 i ∧ mv = .slice gr rl rc ∧ i ≤ n1 ∧ Hid (Ms w wr (w.heap.size + 3) m (w.heap.size + 1 + 1) (.slice gr rl rc) mt ∧ Ky w.heap.size (fun _ => False) [3, 4] W1 wr ∧ V = vis (ksN g.nd) (m + 1) ((g.rs.drop i).map (kn m)) mt ∧ unm m mt < m + 1)) (fun _ cv _ => n1 - (intOf cv).toNat)
  case atStart => exact ⟨0, _, _, _, _, rfl, rfl, Nat.zero_le _, ⟨HW1.out.2.2.2.2, Ky.refl _ _ _ _, HV1.out.symm, hUN.out⟩⟩
  case round =>
    obtain ⟨i, mt, gr, rl, rc, rfl, rfl, hin, HI⟩ := hrel
    obtain ⟨_, bx, x0, x1, _⟩ := HS.out _ HI.out.2.1
    have HBX := Hid.mk bx
    clear bx
    by_cases hlt : i < n1
    case pos =>
      have hlt' : (i : Int) < n1 := by omega
      have kl : i < g.rs.length := by rw [HN1.out]; exact hlt
      have hcr := HG.out.rs.cap
      rw [HN1.out] at hcr
      obtain ⟨g2, f2, rfl, y0⟩ := HG.out.rs.get i kl
      have y1 := cellLater HI.out.1.bel y0
      have HDR : Hid (g.rs.drop i = g.rs[i] :: g.rs.drop (i + 1)) := ⟨List.drop_eq_getElem_cons kl⟩
      generalize g.rs[i] = z at *
      have CI := HCM.out (w.heap.size + 3) (w.heap.size + 1 + 1) (m + 1) mt z (.slice gr rl rc) wr.drew (HI.out.1.later (Below.refl _ _).drew) HI.out.2.2.2
      have HCI := Hid.mk CI
      have HL : Hid (∀ W, Ky w.heap.size (fun _ => False) [3, 4] wr.drew W → W.cell? ⟨w.heap.size, 0, none⟩ = some (.slice (some ⟨g2, f2, none⟩) n1 cr) ∧ W.cell? ⟨w.heap.size, 1, none⟩ = some (.slice a m ca) ∧ W.cell? ⟨g2, f2 + i, none⟩ = some (.int .i64 z)) := ⟨fun W K => by
        obtain ⟨b, _, s0, s1, _⟩ := HS.out W ((HI.out.2.1.trans (Ky.later HI.out.1.bel.size (Below.refl _ _).drew)).trans K)
        exact ⟨s0, s1, cellLater b y0⟩⟩
      clear CI y0
      go_wp2
      go_region_held3 (fun W' => W'.cell? ⟨w.heap.size, 0, none⟩ = some (.slice (some ⟨g2, f2, none⟩) n1 cr) ∧ W'.cell? ⟨w.heap.size, 1, none⟩ = some (.slice a m ca) ∧ W'.cell? ⟨g2, f2 + i, none⟩ = some (.int .i64 z)) (go_keep) (first
        | (go_at_call 24; with_reducible refine HCI.out.mono ?_; rintro e w5 ⟨v5, rfl, M5, K5⟩; have H5 := Hid.mk (And.intro M5 K5); obtain ⟨s0, s1, s2⟩ := HL.out _ K5; clear M5 K5))
      obtain ⟨gv5, gc5, ev5⟩ := H5.out.1.form
      subst ev5
      go_wp2
      go_roundw
      case rel =>
        obtain ⟨hM, hK, hV, hU⟩ := HI.out
        have hz : Plc m [kn m z] := fun t ht => by
          have : t = kn m z := by simpa using ht
          subst this
          exact HKN.out z
        refine ⟨i + 1, _, gv5, _, gc5, by go_num, rfl, by omega, ⟨H5.out.1, (hK.trans (Ky.later hM.bel.size (Below.refl _ _).drew)).trans H5.out.2, ?_, Nat.lt_of_le_of_lt (vis_less HDP.out (m + 1) _ _ hz) hU⟩⟩
        rw [hV, HDR.out, List.map_cons]
        exact vis_cons _ _ _ _
      case measure => simp [intOf]; omega
    case neg =>
    obtain rfl : n1 = i := by omega
    obtain ⟨hM, hK, hVV, _⟩ := HI.out
    have hmt : mt = V := by
      rw [hVV, ← HN1.out, List.drop_length]
      exact (vis_nil _ _ _).symm
    subst hmt
    obtain ⟨ga, pc, ev⟩ := hM.form
    simp only [Value.slice.injEq] at ev
    obtain ⟨rfl, rfl, rfl⟩ := ev
    have hFV : Fs (w.heap.size + 3) (fun _ => False) wr .i64 3 gr rc (mt.map fun (n : Nat) => (n : Int)) := own_fs (n := mt.length) (by have q : its (mt.map fun (n : Nat) => (n : Int)) = nts mt := (by simp [its, nts, Function.comp_def]); rw [q]; exact hM.row) (by simp)
    have HA := Hid.mk (And.intro hM.bel (And.intro hFV (And.intro hK hM.lo.2.1)))
    rename World => wA
    obtain ⟨C2, hC2, hmk2⟩ := made22 m hm
    have B2 : Below wA.heap.size wA (wA.alloc (.cells C2 3)) := by go_grown
    have n2 : (wA.alloc (.cells C2 3)).heap[wA.heap.size]? = some (.cells C2 3 (0, 0)) := heap_alloc_new _ _
    have HI2 : Hid (Below wA.heap.size wA (wA.alloc (.cells C2 3)) ∧ ∃ E, IR (wA.alloc (.cells C2 3)) wA.heap.size m E ∧ ∀ j (h : j < mt.length), j < 0 → E mt[j] = (j : Int)) := ⟨B2, fun _ => 0, ⟨C2, n2, hC2.1, hC2.2⟩, fun _ _ h => absurd h (Nat.not_lt_zero _)⟩
    obtain ⟨k, hk⟩ : ∃ k, mt.length = k := ⟨_, rfl⟩
    have HK := Hid.mk hk
    have HLT : Hid (∀ n ∈ mt, n < m) := ⟨fun n hn => HV.out.2.1 n hn |> fun h => by rw [HN2.out] at h; exact h⟩
    have HX1 := Hid.mk x1
    rw [hk]
    clear B2 n2 hC2 hM hK hVV hk hFV
    go_wp2
    clear hmk2
    generalize wA.alloc (.cells C2 3) = W2 at *
    go_loopw [7] (fun cv wr => ∃ i : Nat, cv = .int .i64 i ∧ i ≤ k ∧ Hid (Below wA.heap.size wA wr ∧ ∃ E, IR wr wA.heap.size m E ∧ ∀ j (h : j < mt.length), j < i → E mt[j] = (j : Int))) (fun cv _ => k - (intOf cv).toNat)
    case atStart => exact ⟨0, rfl, Nat.zero_le _, HI2⟩
    case round =>
      clear HI2
      obtain ⟨i, rfl, hik, HJ⟩ := hrel
      by_cases hlt : i < k
      case pos =>
        have hlt' : (i : Int) < k := by omega
        have kl : i < mt.length := by rw [HK.out]; exact hlt
        have hcap := HA.out.2.1.ps.cap
        rw [List.length_map, HK.out] at hcap
        obtain ⟨q3, f3, rfl, v0⟩ := (HA.out.2.1.ps.later HJ.out.1).get i (by rw [List.length_map]; exact kl)
        rw [List.getElem_map] at v0
        obtain ⟨B3, E, hIR, hE⟩ := HJ.out
        have hpm : mt[i] < m := HLT.out _ (List.getElem_mem kl)
        have c0 := hIR.cell hpm
        have z0 := hIR.z mt[i]
        have hpi : ((mt[i] : Nat) : Int) < m := by omega
        have HNX : Hid (Below wA.heap.size wA (wr.setCell ⟨wA.heap.size, mt[i], none⟩ (.int .i64 i)) ∧ ∃ E, IR (wr.setCell ⟨wA.heap.size, mt[i], none⟩ (.int .i64 i)) wA.heap.size m E ∧ ∀ j (h : j < mt.length), j < i + 1 → E mt[j] = (j : Int)) := ⟨B3.setCell (Nat.le_refl _) _, _, hIR.set hpm i, fun j h hj => by
          by_cases e : j = i
          · subst e; exact upd_at _ _ _
          · refine (upd_far _ _ (fun q => e ?_)).trans (hE j h (by omega))
            have h1 := HV.out.1 j h
            have h2 := HV.out.1 i kl
            rw [q, h2] at h1
            exact (Option.some.inj h1).symm⟩
        clear hIR hE B3
        generalize mt[i] = p at *
        go_wp2
        go_roundw
        case rel => exact ⟨i + 1, by go_num, by omega, HNX⟩
        case measure => simp [intOf]; omega
      case neg =>
      obtain rfl : k = i := by omega
      obtain ⟨B3, E, hIR, hE⟩ := HJ.out
      have hE' : ∀ j (h : j < mt.length), E mt[j] = (j : Int) := fun j h => hE j h (by rw [← HK.out]; exact h)
      rename World => wB
      have hKB : Ky w.heap.size (fun _ => False) [3, 4] W1 wB := HA.out.2.2.1.trans (Ky.later HA.out.1.size B3)
      obtain ⟨bB, pB, xB0, xB1, rB⟩ := HS.out _ hKB
      have C25 : ∀ (l : List Int) (j : Nat) (o2 : Option Addr) (c2 : Nat) (W : World), l.length = j → j ≤ 1000000 → PS .i64 W o2 c2 l → (∀ p, p < m → W.cell? ⟨wA.heap.size, p, none⟩ = some (.int .i64 (E p))) → Calls Try.prog 25 #[.agg #[.slice o n1 cr, .slice a m ca], .slice o2 j c2, .slice (some ⟨wA.heap.size, 0, none⟩) m m] W fun e w' => ∃ ga c, e = .returned (.slice ga j c) ∧ Fs W.heap.size (fun _ => False) w' .i64 3 ga c (l.map (nmI m E)) ∧ Below W.heap.size W w' := fun l j o2 c2 W hj hj2 P hEc => by
        have := named25 m n1 cr ca o a l o2 c2 wA.heap.size m E W P hEc (Nat.le_refl _) (by omega) hm
        rw [hj] at this
        refine this.mono ?_
        rintro e w' ⟨v, rfl, R, B'⟩
        obtain ⟨ga, ca, rfl⟩ := row_sl R
        exact ⟨ga, ca, rfl, own_fs R (by rw [List.length_map]; exact hj), B'⟩
      have HNM : Hid (∀ z, (0 ≤ kn m z → (kn m z).toNat ∈ mt) → nmI m E z = numI mt (kn m z)) := ⟨fun z hz => nm_num hE' HV.out.1 hz⟩
      have HEC : Hid (∀ p, p < m → wB.cell? ⟨wA.heap.size, p, none⟩ = some (.int .i64 (E p))) := ⟨fun p hp => hIR.cell hp⟩
      have C1 := C25 g.rs n1 o cr wB HN1.out hrl (HG.out.rs.later bB) HEC.out
      have HC1 := Hid.mk C1
      have HC25 := Hid.mk C25
      have HRS : Hid (g.rs.map (nmI m E) = (g.rs.map (kn m)).map (numI mt)) := ⟨by
        rw [List.map_map]
        refine List.map_congr_left fun z hz => HNM.out z fun q => ?_
        have := HV.out.2.2.2 (kn m z)
        rw [HN2.out] at this
        exact this (List.mem_map_of_mem hz) q⟩
      have HBB := Hid.mk (And.intro bB (And.intro pB rB))
      have HFB := Hid.mk (HA.out.2.1.later B3)
      have HIR := Hid.mk hIR
      have nbl : Hid (w.heap.size < wA.heap.size ∧ wA.heap.size < wB.heap.size) := ⟨by
        have h1 := HA.out.2.2.2
        have h2 := hIR.lt
        omega⟩
      clear C1 C25 hIR hE hE' B3 bB pB rB hKB x0 x1
      go_upto_region 13 with (go_at_call 25; with_reducible refine HC1.out.mono ?_; clear HC1; rintro e w6 ⟨g6, c6, rfl, F6, B6⟩; have HF6 := Hid.mk F6; have HB6 := Hid.mk B6; clear F6 B6)
      obtain ⟨W3, hW3⟩ : ∃ W3, W3 = w6.alloc (.cells #[.slice g6 n1 c6, .slice none 0 0] 25) := ⟨_, rfl⟩
      have BX : Below w6.heap.size w6 W3 := by rw [hW3]; go_grown
      have q3 : W3.heap[w6.heap.size]? = some (.cells #[.slice g6 n1 c6, .slice none 0 0] 25 (0, 0)) := by rw [hW3]; exact heap_alloc_new _ _
      have BB3 := belowOn HB6.out BX
      rw [← hW3]
      have hob6 := HB6.out.size
      have hob7 := (Array.getElem?_eq_some_iff.1 q3).1
      have H3 : Hid (Nmk w.heap.size w6.heap.size wB.heap.size #[.slice o n1 cr, .slice a m ca] W3 W3 0 g6 n1 c6 ((g.rs.map (kn m)).map (numI mt)) []) := ⟨by
        have h1 := HBB.out.1.size
        have hlo : w.heap.size + 1 < w6.heap.size := by have := (Array.getElem?_eq_some_iff.1 HBB.out.2.2).1; omega
        have p3 := (BB3.block _ (Array.getElem?_eq_some_iff.1 HBB.out.2.1).1).trans HBB.out.2.1
        have r3 := (BB3.block _ (Array.getElem?_eq_some_iff.1 HBB.out.2.2).1).trans HBB.out.2.2
        refine ⟨Ky.refl _ _ _ _, p3, r3, ⟨none, 0, q3, [], World.ownsRow_nil _ _ _ _, rfl⟩, ?_, hlo, h1, by omega, hob6⟩
        rw [← HRS.out]
        exact HF6.out.later BX⟩
      have HS3 : Hid (∀ W, Ky w.heap.size (fun _ => False) [25, 34] W3 W → Below w.heap.size w W ∧ PS .i64 W gr rc (mt.map fun (n : Nat) => (n : Int)) ∧ ∀ p, p < m → W.cell? ⟨wA.heap.size, p, none⟩ = some (.int .i64 (E p))) := ⟨fun W K => by
        obtain ⟨c, e1, e2, e3⟩ := HIR.out
        have e4 := K.keep _ _ _ _ ((BB3.block _ (Array.getElem?_eq_some_iff.1 e1).1).trans e1) (by decide) id
        exact ⟨(belowOn HBB.out.1 BB3).trans K.bel, ((HFB.out.later BB3).ky K (by decide)).ps, fun p hp => by rw [Joins.cell_of_block e4]; exact e3 p hp⟩⟩
      generalize w6.heap.size = ob at *
      have HKS : Hid (∀ p, p ∈ mt → (nd0 g.nd p).ks.map (nmI m E) = ((nd0 g.nd p).ks.map (kn m)).map (numI mt)) := ⟨fun p hp => by
        rw [List.map_map]
        refine List.map_congr_left fun z hz => HNM.out z fun q => ?_
        have := HV.out.2.2.1 p hp (kn m z)
        rw [HN2.out] at this
        exact this (List.mem_map_of_mem hz) q⟩
      clear BX q3 BB3 hW3 hob6 hob7 HF6 HB6 HIR HFB HBB HRS HNM HEC
      go_wp2
      go_loopw [9] (fun cv wr => ∃ i : Nat, cv = .int .i64 i ∧ i ≤ k ∧ Hid (Nmk w.heap.size ob wB.heap.size #[.slice o n1 cr, .slice a m ca] W3 wr i g6 n1 c6 ((g.rs.map (kn m)).map (numI mt)) ((mt.take i).map fun n => numD mt (trD (kn m) g.nd n)))) (fun cv _ => k - (intOf cv).toNat)
      case atStart => exact ⟨0, rfl, Nat.zero_le _, H3⟩
      case round =>
        clear H3
        obtain ⟨i, rfl, hik, HI⟩ := hrel
        obtain ⟨bW, pW, nW⟩ := HS3.out _ HI.out.ky
        obtain ⟨gn, cn, hb, cs, hr, hn⟩ := HI.out.out
        have x0 : wr.cell? ⟨w.heap.size, 0, none⟩ = some (.slice o n1 cr) := by rw [Joins.cell_of_block HI.out.par]; rfl
        have x1 : wr.cell? ⟨w.heap.size, 1, none⟩ = some (.slice a m ca) := by rw [Joins.cell_of_block HI.out.par]; rfl
        have t0 : wr.cell? ⟨ob, 0, none⟩ = some (.slice g6 n1 c6) := by rw [Joins.cell_of_block hb]; rfl
        have t1 : wr.cell? ⟨ob, 1, none⟩ = some (.slice gn i cn) := by rw [Joins.cell_of_block hb]; rfl
        have HO := Hid.mk (And.intro hb (And.intro hr hn))
        by_cases hlt : i < k
        case neg =>
          obtain rfl : k = i := by omega
          have r0 : wr.cell? ⟨w.heap.size + 1, 0, none⟩ = some (.slice none 0 0) := by rw [Joins.cell_of_block HI.out.res]; rfl
          have r1 : wr.cell? ⟨w.heap.size + 1, 1, none⟩ = some (.slice none 0 0) := by rw [Joins.cell_of_block HI.out.res]; rfl
          have rz0 := Joins.unfrozen_of_block HI.out.res 0
          have rz1 := Joins.unfrozen_of_block HI.out.res 1
          clear hb hr hn
          go_wp2
          have f1 := Joins.block_setCell HI.out.res (i := 0) (.slice g6 n1 c6)
          have f2 := Joins.block_setCell f1 (i := 1) (.slice gn k cn)
          have KS : Kt w.heap.size 25 wr ((wr.setCell ⟨w.heap.size + 1, 0, none⟩ (.slice g6 n1 c6)).setCell ⟨w.heap.size + 1, 1, none⟩ (.slice gn k cn)) := (Kt.set HI.out.res (Nat.le_succ _)).trans (Kt.set f1 (Nat.le_succ _))
          refine bodyPost_ret (results_cell_row Try.results12 _ _ (w.heap.size + 1) 25 _ (0, 0) _ rfl f2 Try.underlying25 rfl size25) rfl ⟨g6, c6, gn, cn, by rw [HK.out]; rfl, ?_, ?_⟩
          · have ht : mt.take k = mt := by rw [← HK.out]; exact List.take_length
            have hn' := HO.out.2.2
            rw [ht] at hn'
            refine Gb.gv ⟨wB.heap.size, fun _ => False, cs, HI.out.rs.ky KS.ky (by decide), ?_, hn'.map (fun q => q.ky KS.ky (by decide)) (fun q => q.ky KS.ky (by decide)), by simp; omega⟩
            have hrow := own_ky HO.out.2.1 KS.ky (by decide) (fun _ _ => id)
            simpa [HK.out] using hrow
          · exact bW.trans KS.bel
        case pos =>
        have hlt' : (i : Int) < k := by omega
        have kl : i < mt.length := by rw [HK.out]; exact hlt
        have hcap := pW.cap
        rw [List.length_map, HK.out] at hcap
        obtain ⟨q3, f3, rfl, v0⟩ := pW.get i (by rw [List.length_map]; exact kl)
        rw [List.getElem_map] at v0
        have hpm : mt[i] < m := HLT.out _ (List.getElem_mem kl)
        have hpi : ((mt[i] : Nat) : Int) < m := by omega
        have HT : Hid ((mt.take (i + 1)).map (fun n => numD mt (trD (kn m) g.nd n)) = (mt.take i).map (fun n => numD mt (trD (kn m) g.nd n)) ++ [numD mt (trD (kn m) g.nd mt[i])]) := ⟨by rw [List.take_succ_eq_append_getElem kl]; simp only [List.map_append, List.map_cons, List.map_nil]⟩
        have HKI := Hid.mk (HKS.out _ (List.getElem_mem kl))
        generalize mt[i] = p at *
        obtain ⟨q, off, o1, c1, o2, c2, rfl, hca, _, P1, P2, a0, a1, a2, a3⟩ := HG.out.nd.nd (n := p) (by rw [HN2.out]; exact hpm)
        rw [HN2.out] at hca
        have hsn := HSM.out.ns p
        have hsk := HSM.out.ks p
        have b0 := cellLater bW a0
        have b1 := cellLater bW a1
        have b2 := cellLater bW a2
        have b3 := cellLater bW a3
        have HP1 := Hid.mk P1
        have HP2 := Hid.mk P2
        clear P1 P2 a0 a1 a2 a3 hb hr hn pW
        obtain ⟨yk, hyk⟩ : ∃ x, (nd0 g.nd p).k = x := ⟨_, rfl⟩
        obtain ⟨yi, hyi⟩ : ∃ x, (nd0 g.nd p).i = x := ⟨_, rfl⟩
        obtain ⟨yns, hyn⟩ : ∃ x, (nd0 g.nd p).ns = x := ⟨_, rfl⟩
        obtain ⟨yks, hyc⟩ : ∃ x, (nd0 g.nd p).ks = x := ⟨_, rfl⟩
        have HND : Hid (numD mt (trD (kn m) g.nd p) = ⟨yk, yi, yns, yks.map (nmI m E)⟩) := ⟨by unfold numD trD; rw [hyk, hyi, hyn]; congr 1; rw [← hyc]; exact HKI.out.symm⟩
        rw [hyn] at HP1 b2 hsn
        rw [hyc] at HP2 b3 hsk
        rw [hyk] at b0
        rw [hyi] at b1
        clear hyk hyi hyn hyc HKI
        obtain ⟨l1, hl1⟩ : ∃ n, yns.length = n := ⟨_, rfl⟩
        obtain ⟨l2, hl2⟩ : ∃ n, yks.length = n := ⟨_, rfl⟩
        have HL1 := Hid.mk hl1
        have HL2 := Hid.mk hl2
        rw [hl1] at b2 hsn
        rw [hl2] at b3 hsk
        clear hl1 hl2
        go_wp2
        refine wp_region_held_drew (S := (fun W' => W'.cell? ⟨w.heap.size, 1, none⟩ = some (.slice (some ⟨q, off, none⟩) m ca) ∧ W'.cell? ⟨q3, f3 + i, none⟩ = some (.int .i64 p) ∧ W'.cell? ⟨q, off + p * 4, none⟩ = some (.int .i64 yk) ∧ W'.cell? ⟨q, off + p * 4 + 1, none⟩ = some (.int .i64 yi) ∧ W'.cell? ⟨q, off + p * 4 + 2, none⟩ = some (.slice o1 l1 c1) ∧ W'.cell? ⟨q, off + p * 4 + 3, none⟩ = some (.slice o2 l2 c2))) (by kernel_rfl) ?_ (fun hHeld => ?_)
        · exact ⟨x1, v0, b0, b1, b2, b3⟩
        refine wpAnyH_take (i := 0) (v := ?_) rfl (by kernel_rfl) (by kernel_rfl) (by kernel_rfl) (fun _ _ _ h => h) (Or.inl ⟨by rfl, ?_⟩) (by assumption) ?_
        rotate_left
        · intro w' hSw
          try dsimp only at hSw
          go_simp
          try with_reducible rfl
        try simp only [Act.put, List.getElem_toArray, List.getElem_cons_zero, List.getElem_cons_succ, List.setIfInBounds_toArray, List.set_cons_zero, List.set_cons_succ]
        refine wpAnyH_take (i := 1) (v := ?_) rfl (by kernel_rfl) (by kernel_rfl) (by kernel_rfl) (fun _ _ _ h => h) (Or.inl ⟨by rfl, ?_⟩) (by assumption) ?_
        rotate_left
        · intro w' hSw
          try dsimp only at hSw
          go_simp
          try with_reducible rfl
        try simp only [Act.put, List.getElem_toArray, List.getElem_cons_zero, List.getElem_cons_succ, List.setIfInBounds_toArray, List.set_cons_zero, List.set_cons_succ]
        refine wpAnyH_take (i := 2) (v := ?_) rfl (by kernel_rfl) (by kernel_rfl) (by kernel_rfl) (fun _ _ _ h => h) (Or.inl ⟨by rfl, ?_⟩) (by assumption) ?_
        rotate_left
        · intro w' hSw
          try dsimp only at hSw
          go_simp
          try with_reducible rfl
        try simp only [Act.put, List.getElem_toArray, List.getElem_cons_zero, List.getElem_cons_succ, List.setIfInBounds_toArray, List.set_cons_zero, List.set_cons_succ]
        refine wpAnyH_take (i := 3) (v := ?_) rfl (by kernel_rfl) (by kernel_rfl) (by kernel_rfl) (fun _ _ _ h => h) (Or.inl ⟨by rfl, ?_⟩) (by assumption) ?_
        rotate_left
        · intro w' hSw
          try dsimp only at hSw
          go_simp
          try with_reducible rfl
        try simp only [Act.put, List.getElem_toArray, List.getElem_cons_zero, List.getElem_cons_succ, List.setIfInBounds_toArray, List.set_cons_zero, List.set_cons_succ]
        refine wpAnyH_take (i := 4) (v := ?_) rfl (by kernel_rfl) (by kernel_rfl) (by kernel_rfl) (fun _ _ _ h => h) (Or.inl ⟨by rfl, ?_⟩) (by assumption) ?_
        rotate_left
        · intro w' hSw
          try dsimp only at hSw
          go_simp
          try with_reducible rfl
        try simp only [Act.put, List.getElem_toArray, List.getElem_cons_zero, List.getElem_cons_succ, List.setIfInBounds_toArray, List.set_cons_zero, List.set_cons_succ]
        refine wpAnyH_take (i := 5) (v := ?_) rfl (by kernel_rfl) (by kernel_rfl) (by kernel_rfl) (fun _ _ _ h => h) (Or.inl ⟨by rfl, ?_⟩) (by assumption) ?_
        rotate_left
        · intro w' hSw
          try dsimp only at hSw
          go_simp
          try with_reducible rfl
        try simp only [Act.put, List.getElem_toArray, List.getElem_cons_zero, List.getElem_cons_succ, List.setIfInBounds_toArray, List.set_cons_zero, List.set_cons_succ]
        refine wpAnyH_take (i := 6) (v := ?_) rfl (by kernel_rfl) (by kernel_rfl) (by kernel_rfl) (fun _ _ _ h => h) (Or.inl ⟨by rfl, ?_⟩) (by assumption) ?_
        rotate_left
        · intro w' hSw
          try dsimp only at hSw
          go_simp
          try with_reducible rfl
        try simp only [Act.put, List.getElem_toArray, List.getElem_cons_zero, List.getElem_cons_succ, List.setIfInBounds_toArray, List.set_cons_zero, List.set_cons_succ]
        refine wpAnyH_take (i := 7) (v := ?_) rfl (by kernel_rfl) (by kernel_rfl) (by kernel_rfl) (fun _ _ _ h => h) (Or.inl ⟨by rfl, ?_⟩) (by assumption) ?_
        rotate_left
        · intro w' hSw
          try dsimp only at hSw
          go_simp
          try with_reducible rfl
        try simp only [Act.put, List.getElem_toArray, List.getElem_cons_zero, List.getElem_cons_succ, List.setIfInBounds_toArray, List.set_cons_zero, List.set_cons_succ]
        refine wpAnyH_ready (rs := [8]) (by kernel_rfl) (by simp) ?_
        refine AllReadyH.cons rfl (fun K' hK => ?_) AllReadyH.nil
        go_simp
        refine hK.out _ _ (by exact ⟨cellLater (by go_grown) x1, cellLater (by go_grown) v0, cellLater (by go_grown) b0, cellLater (by go_grown) b1, cellLater (by go_grown) b2, cellLater (by go_grown) b3⟩) (fun hHeld => ?_)
        clear hK K'
        try simp only [Act.put, List.getElem_toArray, List.getElem_cons_zero, List.getElem_cons_succ, List.setIfInBounds_toArray, List.set_cons_zero, List.set_cons_succ]
        refine wpAnyH_ready (rs := [9]) (by kernel_rfl) (by simp) ?_
        refine AllReadyH.cons rfl (fun K' hK => ?_) AllReadyH.nil
        go_simp
        refine hK.out _ _ (by exact ⟨cellLater (by go_grown) x1, cellLater (by go_grown) v0, cellLater (by go_grown) b0, cellLater (by go_grown) b1, cellLater (by go_grown) b2, cellLater (by go_grown) b3⟩) (fun hHeld => ?_)
        clear hK K'
        try simp only [Act.put, List.getElem_toArray, List.getElem_cons_zero, List.getElem_cons_succ, List.setIfInBounds_toArray, List.set_cons_zero, List.set_cons_succ]
        refine wpAnyH_done (by kernel_rfl) ?_ _
        go_wp2
        have z0 : (wr.alloc (.cells #[.int .i64 yk, .int .i64 yi, .slice o1 l1 c1, .slice o2 l2 c2] 34)).drew.heap[wr.heap.size]? = some (.cells #[.int .i64 yk, .int .i64 yi, .slice o1 l1 c1, .slice o2 l2 c2] 34 (0, 0)) := heap_alloc_new _ _
        have BW4 : Below wr.heap.size wr (wr.alloc (.cells #[.int .i64 yk, .int .i64 yi, .slice o1 l1 c1, .slice o2 l2 c2] 34)).drew := (Joins.below_alloc1 _ _).drew
        have HSB : Hid (∀ W : World, W.heap[wr.heap.size]? = some (.cells #[.int .i64 yk, .int .i64 yi, .slice o1 l1 c1, .slice o2 l2 c2] 34 (0, 0)) → W.heap[w.heap.size]? = some (.cells #[.slice o n1 cr, .slice (some ⟨q, off, none⟩) m ca] 25 (0, 0)) → W.cell? ⟨wr.heap.size, 0, none⟩ = some (.int .i64 yk) ∧ W.cell? ⟨wr.heap.size, 1, none⟩ = some (.int .i64 yi) ∧ W.cell? ⟨wr.heap.size, 2, none⟩ = some (.slice o1 l1 c1) ∧ W.cell? ⟨wr.heap.size, 3, none⟩ = some (.slice o2 l2 c2) ∧ W.cell? ⟨w.heap.size, 0, none⟩ = some (.slice o n1 cr) ∧ W.cell? ⟨w.heap.size, 1, none⟩ = some (.slice (some ⟨q, off, none⟩) m ca)) := ⟨fun W z1 p1 => by
          refine ⟨?_, ?_, ?_, ?_, ?_, ?_⟩ <;> first | (rw [Joins.cell_of_block z1]; rfl) | (rw [Joins.cell_of_block p1]; rfl)⟩
        have HS4 : Hid (∀ W, Below (wr.alloc (.cells #[.int .i64 yk, .int .i64 yi, .slice o1 l1 c1, .slice o2 l2 c2] 34)).drew.heap.size (wr.alloc (.cells #[.int .i64 yk, .int .i64 yi, .slice o1 l1 c1, .slice o2 l2 c2] 34)).drew W → (W.cell? ⟨wr.heap.size, 0, none⟩ = some (.int .i64 yk) ∧ W.cell? ⟨wr.heap.size, 1, none⟩ = some (.int .i64 yi) ∧ W.cell? ⟨wr.heap.size, 2, none⟩ = some (.slice o1 l1 c1) ∧ W.cell? ⟨wr.heap.size, 3, none⟩ = some (.slice o2 l2 c2) ∧ W.cell? ⟨w.heap.size, 0, none⟩ = some (.slice o n1 cr) ∧ W.cell? ⟨w.heap.size, 1, none⟩ = some (.slice (some ⟨q, off, none⟩) m ca)) ∧ Below wr.heap.size wr W ∧ Below w.heap.size w W ∧ (∀ p, p < m → W.cell? ⟨wA.heap.size, p, none⟩ = some (.int .i64 (E p))) ∧ W.heap[wr.heap.size]? = some (.cells #[.int .i64 yk, .int .i64 yi, .slice o1 l1 c1, .slice o2 l2 c2] 34 (0, 0)) ∧ W.heap[w.heap.size]? = some (.cells #[.slice o n1 cr, .slice (some ⟨q, off, none⟩) m ca] 25 (0, 0)) ∧ W.heap[ob]? = some (.cells #[.slice g6 n1 c6, .slice gn i cn] 25 (0, 0)) ∧ W.cell? ⟨ob, 1, none⟩ = some (.slice gn i cn)) := ⟨fun W B => by
          have BA := belowOn BW4 B
          have z1 := (B.block _ (Array.getElem?_eq_some_iff.1 z0).1).trans z0
          have ob1 := (BA.block _ (Array.getElem?_eq_some_iff.1 HO.out.1).1).trans HO.out.1
          have p1 := (BA.block _ (Array.getElem?_eq_some_iff.1 HI.out.par).1).trans HI.out.par
          exact ⟨HSB.out W z1 p1, BA, bW.trans (BA.mono bW.size), fun p hp => cellLater BA (nW p hp), z1, p1, ob1, by rw [Joins.cell_of_block ob1]; rfl⟩⟩
        have HFIN : Hid (∀ (X : World) (p1 p2 : Option Addr) (k1 k2 : Nat), Below wr.heap.size wr X → Fs wB.heap.size (fun _ => False) X .u64 40 p1 k1 yns → Fs wB.heap.size (fun _ => False) X .i64 3 p2 k2 (yks.map (nmI m E)) → ∀ (gz : Option Addr) (cz : Nat) (Z : World), Z.ownsRow wB.heap.size 34 4 (.slice gz (i + 1) cz) (i + 1) (cs ++ [.int .i64 yk, .int .i64 yi, .slice p1 l1 k1, .slice p2 l2 k2]) → (X.alloc (.cells #[.int .i64 yk, .int .i64 yi, .slice p1 l1 k1, .slice p2 l2 k2] 34)).grownBy Z (Value.slice gn i cn).ownBlock → Nmk w.heap.size ob wB.heap.size #[.slice o n1 cr, .slice (some ⟨q, off, none⟩) m ca] W3 (Z.setCell ⟨ob, 1, none⟩ (.slice gz (i + 1) cz)) (i + 1) g6 n1 c6 ((g.rs.map (kn m)).map (numI mt)) ((mt.take (i + 1)).map fun n => numD mt (trD (kn m) g.nd n))) := ⟨fun X p1 p2 k1 k2 B f1 f2 gz cz Z r gr => by
          have := HI.out.push HO.out.1 HO.out.2.1 HO.out.2.2 B (x := ⟨yk, yi, yns, yks.map (nmI m E)⟩) f1 f2 (Joins.below_alloc1 X (.cells #[.int .i64 yk, .int .i64 yi, .slice p1 l1 k1, .slice p2 l2 k2] 34)) (gz := gz) (cz := cz) (by rw [List.length_map, HL1.out, HL2.out]; exact r) gr
          rw [HT.out, HND.out]
          exact this⟩
        have HRO := Hid.mk HO.out.2.1
        have hlo := HI.out.lo
        have hobz := (Array.getElem?_eq_some_iff.1 HO.out.1).1
        have HLO := Hid.mk (And.intro hlo hobz)
        clear hobz BW4 z0 hlo
        generalize (wr.alloc (.cells #[.int .i64 yk, .int .i64 yi, .slice o1 l1 c1, .slice o2 l2 c2] 34)).drew = W4 at *
        have HB : Hid (Below W4.heap.size W4 W4.drew) := ⟨(Below.refl _ _).drew⟩
        refine wp_region_held_drew (S := (fun W' => W'.cell? ⟨wr.heap.size, 0, none⟩ = some (.int .i64 yk) ∧ W'.cell? ⟨wr.heap.size, 1, none⟩ = some (.int .i64 yi) ∧ W'.cell? ⟨wr.heap.size, 2, none⟩ = some (.slice o1 l1 c1) ∧ W'.cell? ⟨wr.heap.size, 3, none⟩ = some (.slice o2 l2 c2) ∧ W'.cell? ⟨w.heap.size, 0, none⟩ = some (.slice o n1 cr) ∧ W'.cell? ⟨w.heap.size, 1, none⟩ = some (.slice (some ⟨q, off, none⟩) m ca))) (by kernel_rfl) ?_ (fun hHeld => ?_)
        · exact (HS4.out _ HB.out).1
        generalize W4.drew = X0 at *
        refine wpAnyH_take (i := 0) (v := ?_) rfl (by kernel_rfl) (by kernel_rfl) (by kernel_rfl) (fun _ _ _ h => h) (Or.inl ⟨by rfl, ?_⟩) (by assumption) ?_
        rotate_left
        · intro w' hSw
          try dsimp only at hSw
          go_simp
          try with_reducible rfl
        try simp only [Act.put, List.getElem_toArray, List.getElem_cons_zero, List.getElem_cons_succ, List.setIfInBounds_toArray, List.set_cons_zero, List.set_cons_succ]
        refine wpAnyH_take (i := 2) (v := ?_) rfl (by kernel_rfl) (by kernel_rfl) (by kernel_rfl) (fun _ _ _ h => h) (Or.inl ⟨by rfl, ?_⟩) (by assumption) ?_
        rotate_left
        · intro w' hSw
          try dsimp only at hSw
          go_simp
          try with_reducible rfl
        try simp only [Act.put, List.getElem_toArray, List.getElem_cons_zero, List.getElem_cons_succ, List.setIfInBounds_toArray, List.set_cons_zero, List.set_cons_succ]
        refine wpAnyH_take (i := 3) (v := ?_) rfl (by kernel_rfl) (by kernel_rfl) (by kernel_rfl) (fun _ _ _ h => h) (Or.inl ⟨by rfl, ?_⟩) (by assumption) ?_
        rotate_left
        · intro w' hSw
          try dsimp only at hSw
          go_simp
          try with_reducible rfl
        try simp only [Act.put, List.getElem_toArray, List.getElem_cons_zero, List.getElem_cons_succ, List.setIfInBounds_toArray, List.set_cons_zero, List.set_cons_succ]
        refine wpAnyH_take (i := 4) (v := ?_) rfl (by kernel_rfl) (by kernel_rfl) (by kernel_rfl) (fun _ _ _ h => h) (Or.inl ⟨by rfl, ?_⟩) (by assumption) ?_
        rotate_left
        · intro w' hSw
          try dsimp only at hSw
          go_simp
          try with_reducible rfl
        try simp only [Act.put, List.getElem_toArray, List.getElem_cons_zero, List.getElem_cons_succ, List.setIfInBounds_toArray, List.set_cons_zero, List.set_cons_succ]
        refine wpAnyH_take (i := 5) (v := ?_) rfl (by kernel_rfl) (by kernel_rfl) (by kernel_rfl) (fun _ _ _ h => h) (Or.inl ⟨by rfl, ?_⟩) (by assumption) ?_
        rotate_left
        · intro w' hSw
          try dsimp only at hSw
          go_simp
          try with_reducible rfl
        try simp only [Act.put, List.getElem_toArray, List.getElem_cons_zero, List.getElem_cons_succ, List.setIfInBounds_toArray, List.set_cons_zero, List.set_cons_succ]
        refine wpAnyH_take (i := 7) (v := ?_) rfl (by kernel_rfl) (by kernel_rfl) (by kernel_rfl) (fun _ _ _ h => h) (Or.inl ⟨by rfl, ?_⟩) (by assumption) ?_
        rotate_left
        · intro w' hSw
          try dsimp only at hSw
          go_simp
          try with_reducible rfl
        try simp only [Act.put, List.getElem_toArray, List.getElem_cons_zero, List.getElem_cons_succ, List.setIfInBounds_toArray, List.set_cons_zero, List.set_cons_succ]
        refine wpAnyH_take (i := 8) (v := ?_) rfl (by kernel_rfl) (by kernel_rfl) (by kernel_rfl) (fun _ _ _ h => h) (Or.inl ⟨by rfl, ?_⟩) (by assumption) ?_
        rotate_left
        · intro w' hSw
          try dsimp only at hSw
          go_simp
          try with_reducible rfl
        try simp only [Act.put, List.getElem_toArray, List.getElem_cons_zero, List.getElem_cons_succ, List.setIfInBounds_toArray, List.set_cons_zero, List.set_cons_succ]
        refine wpAnyH_take (i := 10) (v := ?_) rfl (by kernel_rfl) (by kernel_rfl) (by kernel_rfl) (fun _ _ _ h => h) (Or.inl ⟨by rfl, ?_⟩) (by assumption) ?_
        rotate_left
        · intro w' hSw
          try dsimp only at hSw
          go_simp
          try with_reducible rfl
        try simp only [Act.put, List.getElem_toArray, List.getElem_cons_zero, List.getElem_cons_succ, List.setIfInBounds_toArray, List.set_cons_zero, List.set_cons_succ]
        refine wpAnyH_take (i := 11) (v := ?_) rfl (by kernel_rfl) (by kernel_rfl) (by kernel_rfl) (fun _ _ _ h => h) (Or.inl ⟨by rfl, ?_⟩) (by assumption) ?_
        rotate_left
        · intro w' hSw
          try dsimp only at hSw
          go_simp
          try with_reducible rfl
        try simp only [Act.put, List.getElem_toArray, List.getElem_cons_zero, List.getElem_cons_succ, List.setIfInBounds_toArray, List.set_cons_zero, List.set_cons_succ]
        refine wpAnyH_take (i := 12) (v := ?_) rfl (by kernel_rfl) (by kernel_rfl) (by kernel_rfl) (fun _ _ _ h => h) (Or.inl ⟨by rfl, ?_⟩) (by assumption) ?_
        rotate_left
        · intro w' hSw
          try dsimp only at hSw
          go_simp
          try with_reducible rfl
        try simp only [Act.put, List.getElem_toArray, List.getElem_cons_zero, List.getElem_cons_succ, List.setIfInBounds_toArray, List.set_cons_zero, List.set_cons_succ]
        refine wpAnyH_take (i := 13) (v := ?_) rfl (by kernel_rfl) (by kernel_rfl) (by kernel_rfl) (fun _ _ _ h => h) (Or.inl ⟨by rfl, ?_⟩) (by assumption) ?_
        rotate_left
        · intro w' hSw
          try dsimp only at hSw
          go_simp
          try with_reducible rfl
        try simp only [Act.put, List.getElem_toArray, List.getElem_cons_zero, List.getElem_cons_succ, List.setIfInBounds_toArray, List.set_cons_zero, List.set_cons_succ]
        refine wpAnyH_ready (rs := [1, 6]) (by kernel_rfl) (by simp) ?_
        refine AllReadyH.cons rfl (fun K' hK => ?_) (AllReadyH.cons rfl (fun K' hK => ?_) AllReadyH.nil)
        · have l1 := (HS4.out _ HB.out).2.2.2.2.2.2.2
          go_simp
          clear l1
          refine hK.out _ _ (by exact (HS4.out _ HB.out).1) (fun hHeld => ?_)
          clear hK K'
          try simp only [Act.put, List.getElem_toArray, List.getElem_cons_zero, List.getElem_cons_succ, List.setIfInBounds_toArray, List.set_cons_zero, List.set_cons_succ]
          refine wpAnyH_ready (rs := [6]) (by kernel_rfl) (by simp) ?_
          refine AllReadyH.cons rfl (fun K' hK => ?_) AllReadyH.nil
          go_simp
          have B6 : Below X0.heap.size X0 (X0.alloc (.cells #[] 40)) := by go_grown
          replace HB := Hid.mk (belowOn HB.out B6)
          generalize X0.alloc (.cells #[] 40) = X1 at *
          clear B6
          refine hK.out _ _ (by exact (HS4.out _ HB.out).1) (fun hHeld => ?_)
          clear hK K'
          try simp only [Act.put, List.getElem_toArray, List.getElem_cons_zero, List.getElem_cons_succ, List.setIfInBounds_toArray, List.set_cons_zero, List.set_cons_succ]
          refine wpAnyH_ready (rs := [9]) (by kernel_rfl) (by simp) ?_
          refine AllReadyH.cons rfl (fun K' hK => ?_) AllReadyH.nil
          refine step_app0 rfl (.tmp 74) (.tmp 76) 32 rfl wB.heap.size 40 _ 1 8 Try.underlying32 info40 (by decide) rfl _ rfl o1 l1 c1 (itu yns) rfl (by simp [itu, HL1.out]) (fun h0 => ?_) (fun u hu => ?_) (by unfold Go.maxLen; omega) (by omega) (Nat.le_trans HLO.out.1.2.2.1 (HS4.out _ HB.out).2.1.size) ?_
          · obtain ⟨gq, fq, e, hq⟩ := (HP1.out.later (HS4.out _ HB.out).2.2.1).num (by rw [HL1.out]; exact h0)
            exact ⟨_, e, fun j u hj => by
              unfold itu at hj
              rw [List.getElem?_map] at hj
              obtain ⟨v, hv, rfl⟩ := Option.map_eq_some_iff.1 hj
              obtain ⟨hjl, rfl⟩ := List.getElem?_eq_some_iff.1 hv
              have hadd : (⟨gq, fq, none⟩ : Addr).add j = ⟨gq, fq + j, none⟩ := by
                unfold Addr.add
                split
                · rename_i h; rw [h]; rfl
                · rfl
              rw [hadd]
              exact hq j hjl⟩
          · unfold itu at hu
            obtain ⟨v, _, rfl⟩ := List.mem_map.1 hu
            rfl
          intro p1 k1 X2 hr2 B6
          have HF1 := Hid.mk (rows_fs hr2 HL1.out)
          replace HB := Hid.mk (belowOn HB.out B6)
          clear hr2 B6
          refine hK.out _ _ (by exact (HS4.out _ HB.out).1) (fun hHeld => ?_)
          clear hK K'
          try simp only [Act.put, List.getElem_toArray, List.getElem_cons_zero, List.getElem_cons_succ, List.setIfInBounds_toArray, List.set_cons_zero, List.set_cons_succ]
          refine wpAnyH_ready (rs := [14]) (by kernel_rfl) (by simp) ?_
          refine AllReadyH.cons rfl (fun K' hK => ?_) AllReadyH.nil
          go_simp
          go_at_call 25
          with_reducible refine (HC25.out yks l2 o2 c2 _ HL2.out hsk (HP2.out.later (HS4.out _ HB.out).2.2.1) (HS4.out _ HB.out).2.2.2.1).mono ?_
          rintro e X3 ⟨p2, k2, rfl, F6, B6⟩
          have HF2 := Hid.mk (Fs.lowr F6 (Nat.le_trans HLO.out.1.2.2.1 (HS4.out _ HB.out).2.1.size))
          replace HB := Hid.mk (belowOn HB.out B6)
          replace HF1 := Hid.mk (HF1.out.later B6)
          clear B6 F6
          refine hK.out _ _ (by exact (HS4.out _ HB.out).1) (fun hHeld => ?_)
          clear hK K'
          try simp only [Act.put, List.getElem_toArray, List.getElem_cons_zero, List.getElem_cons_succ, List.setIfInBounds_toArray, List.set_cons_zero, List.set_cons_succ]
          refine wpAnyH_take (i := 15) (v := ?_) rfl (by kernel_rfl) (by kernel_rfl) (by kernel_rfl) (fun _ _ _ h => h) (Or.inl ⟨by rfl, ?_⟩) (by assumption) ?_
          rotate_left
          · intro w' hSw
            try dsimp only at hSw
            go_simp
            try with_reducible rfl
          try simp only [Act.put, List.getElem_toArray, List.getElem_cons_zero, List.getElem_cons_succ, List.setIfInBounds_toArray, List.set_cons_zero, List.set_cons_succ]
          refine wpAnyH_ready (rs := [16]) (by kernel_rfl) (by simp) ?_
          refine AllReadyH.cons rfl (fun K' hK => ?_) AllReadyH.nil
          go_simp
          refine hK.out _ _ (by exact (HS4.out _ (belowOn HB.out (Joins.below_alloc1 X3 (.cells #[.int .i64 yk, .int .i64 yi, .slice p1 l1 k1, .slice p2 l2 k2] 34)))).1) (fun hHeld => ?_)
          clear hK K'
          try simp only [Act.put, List.getElem_toArray, List.getElem_cons_zero, List.getElem_cons_succ, List.setIfInBounds_toArray, List.set_cons_zero, List.set_cons_succ]
          refine wpAnyH_ready (rs := [17]) (by kernel_rfl) (by simp) ?_
          refine AllReadyH.cons rfl (fun K' hK => ?_) AllReadyH.nil
          refine step_appN rfl (.tmp 69) (.tmp 84) 23 rfl wB.heap.size 34 _ 4 64 Try.underlying23 info34 (by decide) rfl (.slice gn i cn) i cs rfl (own_later (own_later HRO.out (HS4.out _ HB.out).2.1) (Joins.below_alloc1 _ _)) X3.heap.size [.int .i64 yk, .int .i64 yi, .slice p1 l1 k1, .slice p2 l2 k2] rfl rfl (World.news_of_block (heap_alloc_new _ _)) (by simp [Value.oneCell']) (by omega) (by have := (HS4.out _ HB.out).2.1.size; have := HLO.out; simp; omega) ?_
          intro v9 X5 h9 gr9 ho9
          obtain ⟨gz, cz, rfl⟩ := row_sl h9
          have HNX := Hid.mk (HFIN.out X3 p1 p2 k1 k2 (HS4.out _ HB.out).2.1 HF1.out HF2.out gz cz X5 h9 gr9)
          have HY := Hid.mk (HS4.out _ (belowOn HB.out (Joins.below_alloc1 X3 (.cells #[.int .i64 yk, .int .i64 yi, .slice p1 l1 k1, .slice p2 l2 k2] 34))))
          have KT : Kt wB.heap.size 34 (X3.alloc (.cells #[.int .i64 yk, .int .i64 yi, .slice p1 l1 k1, .slice p2 l2 k2] 34)) X5 := Kt.own gr9 (own_later (own_later HRO.out (HS4.out _ HB.out).2.1) (Joins.below_alloc1 _ _)) (Nat.le_trans HLO.out.1.2.2.1 HY.out.2.1.size)
          have z5 := (gr9.block wr.heap.size (Array.getElem?_eq_some_iff.1 HY.out.2.2.2.2.1).1 (fun e => by have := (HRO.out.lt _ e.symm).2; omega)).trans HY.out.2.2.2.2.1
          have p5 := KT.keep _ _ HY.out.2.2.2.2.2.1 (fun c f e => by cases e)
          have ob5 := KT.keep _ _ HY.out.2.2.2.2.2.2.1 (fun c f e => by cases e)
          have hf5 := Joins.unfrozen_of_block ob5 1
          have hc5 : X5.cell? ⟨ob, 1, none⟩ = some (.slice gn i cn) := by rw [Joins.cell_of_block ob5]; rfl
          have HS5 := Hid.mk (HSB.out X5 z5 p5)
          have HS6 := Hid.mk (HSB.out (X5.setCell ⟨ob, 1, none⟩ (.slice gz (i + 1) cz)) ((Below.heap_setCell _ _ _ _ (show wr.heap.size ≠ ob by have := HLO.out.2; omega)).trans z5) ((Below.heap_setCell _ _ _ _ (show w.heap.size ≠ ob by have := HLO.out.1.1; omega)).trans p5))
          clear h9 gr9 ho9 KT z5 p5 ob5 HY
          refine hK.out _ _ (by exact HS5.out) (fun hHeld => ?_)
          clear hK K'
          try simp only [Act.put, List.getElem_toArray, List.getElem_cons_zero, List.getElem_cons_succ, List.setIfInBounds_toArray, List.set_cons_zero, List.set_cons_succ]
          refine wpAnyH_take (i := 18) (v := ?_) rfl (by kernel_rfl) (by kernel_rfl) (by kernel_rfl) (fun _ _ _ h => h) (Or.inl ⟨by rfl, ?_⟩) (by assumption) ?_
          rotate_left
          · intro w' hSw
            try dsimp only at hSw
            go_simp
            try with_reducible rfl
          try simp only [Act.put, List.getElem_toArray, List.getElem_cons_zero, List.getElem_cons_succ, List.setIfInBounds_toArray, List.set_cons_zero, List.set_cons_succ]
          refine wpAnyH_ready (rs := [19]) (by kernel_rfl) (by simp) ?_
          refine AllReadyH.cons rfl (fun K' hK => ?_) AllReadyH.nil
          go_simp
          refine hK.out _ _ (by exact HS6.out) (fun hHeld => ?_)
          clear hK K'
          try simp only [Act.put, List.getElem_toArray, List.getElem_cons_zero, List.getElem_cons_succ, List.setIfInBounds_toArray, List.set_cons_zero, List.set_cons_succ]
          refine wpAnyH_done (by kernel_rfl) ?_ _
          go_wp2
          go_roundw
          case rel => exact ⟨i + 1, by go_num, by omega, HNX⟩
          case measure => simp [intOf]; omega
        · go_simp
          have B6 : Below X0.heap.size X0 (X0.alloc (.cells #[] 40)) := by go_grown
          replace HB := Hid.mk (belowOn HB.out B6)
          generalize X0.alloc (.cells #[] 40) = X1 at *
          clear B6
          refine hK.out _ _ (by exact (HS4.out _ HB.out).1) (fun hHeld => ?_)
          clear hK K'
          try simp only [Act.put, List.getElem_toArray, List.getElem_cons_zero, List.getElem_cons_succ, List.setIfInBounds_toArray, List.set_cons_zero, List.set_cons_succ]
          refine wpAnyH_ready (rs := [1, 9]) (by kernel_rfl) (by simp) ?_
          refine AllReadyH.cons rfl (fun K' hK => ?_) (AllReadyH.cons rfl (fun K' hK => ?_) AllReadyH.nil)
          · have l1 := (HS4.out _ HB.out).2.2.2.2.2.2.2
            go_simp
            clear l1
            refine hK.out _ _ (by exact (HS4.out _ HB.out).1) (fun hHeld => ?_)
            clear hK K'
            try simp only [Act.put, List.getElem_toArray, List.getElem_cons_zero, List.getElem_cons_succ, List.setIfInBounds_toArray, List.set_cons_zero, List.set_cons_succ]
            refine wpAnyH_ready (rs := [9]) (by kernel_rfl) (by simp) ?_
            refine AllReadyH.cons rfl (fun K' hK => ?_) AllReadyH.nil
            refine step_app0 rfl (.tmp 74) (.tmp 76) 32 rfl wB.heap.size 40 _ 1 8 Try.underlying32 info40 (by decide) rfl _ rfl o1 l1 c1 (itu yns) rfl (by simp [itu, HL1.out]) (fun h0 => ?_) (fun u hu => ?_) (by unfold Go.maxLen; omega) (by omega) (Nat.le_trans HLO.out.1.2.2.1 (HS4.out _ HB.out).2.1.size) ?_
            · obtain ⟨gq, fq, e, hq⟩ := (HP1.out.later (HS4.out _ HB.out).2.2.1).num (by rw [HL1.out]; exact h0)
              exact ⟨_, e, fun j u hj => by
                unfold itu at hj
                rw [List.getElem?_map] at hj
                obtain ⟨v, hv, rfl⟩ := Option.map_eq_some_iff.1 hj
                obtain ⟨hjl, rfl⟩ := List.getElem?_eq_some_iff.1 hv
                have hadd : (⟨gq, fq, none⟩ : Addr).add j = ⟨gq, fq + j, none⟩ := by
                  unfold Addr.add
                  split
                  · rename_i h; rw [h]; rfl
                  · rfl
                rw [hadd]
                exact hq j hjl⟩
            · unfold itu at hu
              obtain ⟨v, _, rfl⟩ := List.mem_map.1 hu
              rfl
            intro p1 k1 X2 hr2 B6
            have HF1 := Hid.mk (rows_fs hr2 HL1.out)
            replace HB := Hid.mk (belowOn HB.out B6)
            clear hr2 B6
            refine hK.out _ _ (by exact (HS4.out _ HB.out).1) (fun hHeld => ?_)
            clear hK K'
            try simp only [Act.put, List.getElem_toArray, List.getElem_cons_zero, List.getElem_cons_succ, List.setIfInBounds_toArray, List.set_cons_zero, List.set_cons_succ]
            refine wpAnyH_ready (rs := [14]) (by kernel_rfl) (by simp) ?_
            refine AllReadyH.cons rfl (fun K' hK => ?_) AllReadyH.nil
            go_simp
            go_at_call 25
            with_reducible refine (HC25.out yks l2 o2 c2 _ HL2.out hsk (HP2.out.later (HS4.out _ HB.out).2.2.1) (HS4.out _ HB.out).2.2.2.1).mono ?_
            rintro e X3 ⟨p2, k2, rfl, F6, B6⟩
            have HF2 := Hid.mk (Fs.lowr F6 (Nat.le_trans HLO.out.1.2.2.1 (HS4.out _ HB.out).2.1.size))
            replace HB := Hid.mk (belowOn HB.out B6)
            replace HF1 := Hid.mk (HF1.out.later B6)
            clear B6 F6
            refine hK.out _ _ (by exact (HS4.out _ HB.out).1) (fun hHeld => ?_)
            clear hK K'
            try simp only [Act.put, List.getElem_toArray, List.getElem_cons_zero, List.getElem_cons_succ, List.setIfInBounds_toArray, List.set_cons_zero, List.set_cons_succ]
            refine wpAnyH_take (i := 15) (v := ?_) rfl (by kernel_rfl) (by kernel_rfl) (by kernel_rfl) (fun _ _ _ h => h) (Or.inl ⟨by rfl, ?_⟩) (by assumption) ?_
            rotate_left
            · intro w' hSw
              try dsimp only at hSw
              go_simp
              try with_reducible rfl
            try simp only [Act.put, List.getElem_toArray, List.getElem_cons_zero, List.getElem_cons_succ, List.setIfInBounds_toArray, List.set_cons_zero, List.set_cons_succ]
            refine wpAnyH_ready (rs := [16]) (by kernel_rfl) (by simp) ?_
            refine AllReadyH.cons rfl (fun K' hK => ?_) AllReadyH.nil
            go_simp
            refine hK.out _ _ (by exact (HS4.out _ (belowOn HB.out (Joins.below_alloc1 X3 (.cells #[.int .i64 yk, .int .i64 yi, .slice p1 l1 k1, .slice p2 l2 k2] 34)))).1) (fun hHeld => ?_)
            clear hK K'
            try simp only [Act.put, List.getElem_toArray, List.getElem_cons_zero, List.getElem_cons_succ, List.setIfInBounds_toArray, List.set_cons_zero, List.set_cons_succ]
            refine wpAnyH_ready (rs := [17]) (by kernel_rfl) (by simp) ?_
            refine AllReadyH.cons rfl (fun K' hK => ?_) AllReadyH.nil
            refine step_appN rfl (.tmp 69) (.tmp 84) 23 rfl wB.heap.size 34 _ 4 64 Try.underlying23 info34 (by decide) rfl (.slice gn i cn) i cs rfl (own_later (own_later HRO.out (HS4.out _ HB.out).2.1) (Joins.below_alloc1 _ _)) X3.heap.size [.int .i64 yk, .int .i64 yi, .slice p1 l1 k1, .slice p2 l2 k2] rfl rfl (World.news_of_block (heap_alloc_new _ _)) (by simp [Value.oneCell']) (by omega) (by have := (HS4.out _ HB.out).2.1.size; have := HLO.out; simp; omega) ?_
            intro v9 X5 h9 gr9 ho9
            obtain ⟨gz, cz, rfl⟩ := row_sl h9
            have HNX := Hid.mk (HFIN.out X3 p1 p2 k1 k2 (HS4.out _ HB.out).2.1 HF1.out HF2.out gz cz X5 h9 gr9)
            have HY := Hid.mk (HS4.out _ (belowOn HB.out (Joins.below_alloc1 X3 (.cells #[.int .i64 yk, .int .i64 yi, .slice p1 l1 k1, .slice p2 l2 k2] 34))))
            have KT : Kt wB.heap.size 34 (X3.alloc (.cells #[.int .i64 yk, .int .i64 yi, .slice p1 l1 k1, .slice p2 l2 k2] 34)) X5 := Kt.own gr9 (own_later (own_later HRO.out (HS4.out _ HB.out).2.1) (Joins.below_alloc1 _ _)) (Nat.le_trans HLO.out.1.2.2.1 HY.out.2.1.size)
            have z5 := (gr9.block wr.heap.size (Array.getElem?_eq_some_iff.1 HY.out.2.2.2.2.1).1 (fun e => by have := (HRO.out.lt _ e.symm).2; omega)).trans HY.out.2.2.2.2.1
            have p5 := KT.keep _ _ HY.out.2.2.2.2.2.1 (fun c f e => by cases e)
            have ob5 := KT.keep _ _ HY.out.2.2.2.2.2.2.1 (fun c f e => by cases e)
            have hf5 := Joins.unfrozen_of_block ob5 1
            have hc5 : X5.cell? ⟨ob, 1, none⟩ = some (.slice gn i cn) := by rw [Joins.cell_of_block ob5]; rfl
            have HS5 := Hid.mk (HSB.out X5 z5 p5)
            have HS6 := Hid.mk (HSB.out (X5.setCell ⟨ob, 1, none⟩ (.slice gz (i + 1) cz)) ((Below.heap_setCell _ _ _ _ (show wr.heap.size ≠ ob by have := HLO.out.2; omega)).trans z5) ((Below.heap_setCell _ _ _ _ (show w.heap.size ≠ ob by have := HLO.out.1.1; omega)).trans p5))
            clear h9 gr9 ho9 KT z5 p5 ob5 HY
            refine hK.out _ _ (by exact HS5.out) (fun hHeld => ?_)
            clear hK K'
            try simp only [Act.put, List.getElem_toArray, List.getElem_cons_zero, List.getElem_cons_succ, List.setIfInBounds_toArray, List.set_cons_zero, List.set_cons_succ]
            refine wpAnyH_take (i := 18) (v := ?_) rfl (by kernel_rfl) (by kernel_rfl) (by kernel_rfl) (fun _ _ _ h => h) (Or.inl ⟨by rfl, ?_⟩) (by assumption) ?_
            rotate_left
            · intro w' hSw
              try dsimp only at hSw
              go_simp
              try with_reducible rfl
            try simp only [Act.put, List.getElem_toArray, List.getElem_cons_zero, List.getElem_cons_succ, List.setIfInBounds_toArray, List.set_cons_zero, List.set_cons_succ]
            refine wpAnyH_ready (rs := [19]) (by kernel_rfl) (by simp) ?_
            refine AllReadyH.cons rfl (fun K' hK => ?_) AllReadyH.nil
            go_simp
            refine hK.out _ _ (by exact HS6.out) (fun hHeld => ?_)
            clear hK K'
            try simp only [Act.put, List.getElem_toArray, List.getElem_cons_zero, List.getElem_cons_succ, List.setIfInBounds_toArray, List.set_cons_zero, List.set_cons_succ]
            refine wpAnyH_done (by kernel_rfl) ?_ _
            go_wp2
            go_roundw
            case rel => exact ⟨i + 1, by go_num, by omega, HNX⟩
            case measure => simp [intOf]; omega
          · refine step_app0 rfl (.tmp 74) (.tmp 76) 32 rfl wB.heap.size 40 _ 1 8 Try.underlying32 info40 (by decide) rfl _ rfl o1 l1 c1 (itu yns) rfl (by simp [itu, HL1.out]) (fun h0 => ?_) (fun u hu => ?_) (by unfold Go.maxLen; omega) (by omega) (Nat.le_trans HLO.out.1.2.2.1 (HS4.out _ HB.out).2.1.size) ?_
            · obtain ⟨gq, fq, e, hq⟩ := (HP1.out.later (HS4.out _ HB.out).2.2.1).num (by rw [HL1.out]; exact h0)
              exact ⟨_, e, fun j u hj => by
                unfold itu at hj
                rw [List.getElem?_map] at hj
                obtain ⟨v, hv, rfl⟩ := Option.map_eq_some_iff.1 hj
                obtain ⟨hjl, rfl⟩ := List.getElem?_eq_some_iff.1 hv
                have hadd : (⟨gq, fq, none⟩ : Addr).add j = ⟨gq, fq + j, none⟩ := by
                  unfold Addr.add
                  split
                  · rename_i h; rw [h]; rfl
                  · rfl
                rw [hadd]
                exact hq j hjl⟩
            · unfold itu at hu
              obtain ⟨v, _, rfl⟩ := List.mem_map.1 hu
              rfl
            intro p1 k1 X2 hr2 B6
            have HF1 := Hid.mk (rows_fs hr2 HL1.out)
            replace HB := Hid.mk (belowOn HB.out B6)
            clear hr2 B6
            refine hK.out _ _ (by exact (HS4.out _ HB.out).1) (fun hHeld => ?_)
            clear hK K'
            try simp only [Act.put, List.getElem_toArray, List.getElem_cons_zero, List.getElem_cons_succ, List.setIfInBounds_toArray, List.set_cons_zero, List.set_cons_succ]
            refine wpAnyH_ready (rs := [1, 14]) (by kernel_rfl) (by simp) ?_
            refine AllReadyH.cons rfl (fun K' hK => ?_) (AllReadyH.cons rfl (fun K' hK => ?_) AllReadyH.nil)
            · have l1 := (HS4.out _ HB.out).2.2.2.2.2.2.2
              go_simp
              clear l1
              refine hK.out _ _ (by exact (HS4.out _ HB.out).1) (fun hHeld => ?_)
              clear hK K'
              try simp only [Act.put, List.getElem_toArray, List.getElem_cons_zero, List.getElem_cons_succ, List.setIfInBounds_toArray, List.set_cons_zero, List.set_cons_succ]
              refine wpAnyH_ready (rs := [14]) (by kernel_rfl) (by simp) ?_
              refine AllReadyH.cons rfl (fun K' hK => ?_) AllReadyH.nil
              go_simp
              go_at_call 25
              with_reducible refine (HC25.out yks l2 o2 c2 _ HL2.out hsk (HP2.out.later (HS4.out _ HB.out).2.2.1) (HS4.out _ HB.out).2.2.2.1).mono ?_
              rintro e X3 ⟨p2, k2, rfl, F6, B6⟩
              have HF2 := Hid.mk (Fs.lowr F6 (Nat.le_trans HLO.out.1.2.2.1 (HS4.out _ HB.out).2.1.size))
              replace HB := Hid.mk (belowOn HB.out B6)
              replace HF1 := Hid.mk (HF1.out.later B6)
              clear B6 F6
              refine hK.out _ _ (by exact (HS4.out _ HB.out).1) (fun hHeld => ?_)
              clear hK K'
              try simp only [Act.put, List.getElem_toArray, List.getElem_cons_zero, List.getElem_cons_succ, List.setIfInBounds_toArray, List.set_cons_zero, List.set_cons_succ]
              refine wpAnyH_take (i := 15) (v := ?_) rfl (by kernel_rfl) (by kernel_rfl) (by kernel_rfl) (fun _ _ _ h => h) (Or.inl ⟨by rfl, ?_⟩) (by assumption) ?_
              rotate_left
              · intro w' hSw
                try dsimp only at hSw
                go_simp
                try with_reducible rfl
              try simp only [Act.put, List.getElem_toArray, List.getElem_cons_zero, List.getElem_cons_succ, List.setIfInBounds_toArray, List.set_cons_zero, List.set_cons_succ]
              refine wpAnyH_ready (rs := [16]) (by kernel_rfl) (by simp) ?_
              refine AllReadyH.cons rfl (fun K' hK => ?_) AllReadyH.nil
              go_simp
              refine hK.out _ _ (by exact (HS4.out _ (belowOn HB.out (Joins.below_alloc1 X3 (.cells #[.int .i64 yk, .int .i64 yi, .slice p1 l1 k1, .slice p2 l2 k2] 34)))).1) (fun hHeld => ?_)
              clear hK K'
              try simp only [Act.put, List.getElem_toArray, List.getElem_cons_zero, List.getElem_cons_succ, List.setIfInBounds_toArray, List.set_cons_zero, List.set_cons_succ]
              refine wpAnyH_ready (rs := [17]) (by kernel_rfl) (by simp) ?_
              refine AllReadyH.cons rfl (fun K' hK => ?_) AllReadyH.nil
              refine step_appN rfl (.tmp 69) (.tmp 84) 23 rfl wB.heap.size 34 _ 4 64 Try.underlying23 info34 (by decide) rfl (.slice gn i cn) i cs rfl (own_later (own_later HRO.out (HS4.out _ HB.out).2.1) (Joins.below_alloc1 _ _)) X3.heap.size [.int .i64 yk, .int .i64 yi, .slice p1 l1 k1, .slice p2 l2 k2] rfl rfl (World.news_of_block (heap_alloc_new _ _)) (by simp [Value.oneCell']) (by omega) (by have := (HS4.out _ HB.out).2.1.size; have := HLO.out; simp; omega) ?_
              intro v9 X5 h9 gr9 ho9
              obtain ⟨gz, cz, rfl⟩ := row_sl h9
              have HNX := Hid.mk (HFIN.out X3 p1 p2 k1 k2 (HS4.out _ HB.out).2.1 HF1.out HF2.out gz cz X5 h9 gr9)
              have HY := Hid.mk (HS4.out _ (belowOn HB.out (Joins.below_alloc1 X3 (.cells #[.int .i64 yk, .int .i64 yi, .slice p1 l1 k1, .slice p2 l2 k2] 34))))
              have KT : Kt wB.heap.size 34 (X3.alloc (.cells #[.int .i64 yk, .int .i64 yi, .slice p1 l1 k1, .slice p2 l2 k2] 34)) X5 := Kt.own gr9 (own_later (own_later HRO.out (HS4.out _ HB.out).2.1) (Joins.below_alloc1 _ _)) (Nat.le_trans HLO.out.1.2.2.1 HY.out.2.1.size)
              have z5 := (gr9.block wr.heap.size (Array.getElem?_eq_some_iff.1 HY.out.2.2.2.2.1).1 (fun e => by have := (HRO.out.lt _ e.symm).2; omega)).trans HY.out.2.2.2.2.1
              have p5 := KT.keep _ _ HY.out.2.2.2.2.2.1 (fun c f e => by cases e)
              have ob5 := KT.keep _ _ HY.out.2.2.2.2.2.2.1 (fun c f e => by cases e)
              have hf5 := Joins.unfrozen_of_block ob5 1
              have hc5 : X5.cell? ⟨ob, 1, none⟩ = some (.slice gn i cn) := by rw [Joins.cell_of_block ob5]; rfl
              have HS5 := Hid.mk (HSB.out X5 z5 p5)
              have HS6 := Hid.mk (HSB.out (X5.setCell ⟨ob, 1, none⟩ (.slice gz (i + 1) cz)) ((Below.heap_setCell _ _ _ _ (show wr.heap.size ≠ ob by have := HLO.out.2; omega)).trans z5) ((Below.heap_setCell _ _ _ _ (show w.heap.size ≠ ob by have := HLO.out.1.1; omega)).trans p5))
              clear h9 gr9 ho9 KT z5 p5 ob5 HY
              refine hK.out _ _ (by exact HS5.out) (fun hHeld => ?_)
              clear hK K'
              try simp only [Act.put, List.getElem_toArray, List.getElem_cons_zero, List.getElem_cons_succ, List.setIfInBounds_toArray, List.set_cons_zero, List.set_cons_succ]
              refine wpAnyH_take (i := 18) (v := ?_) rfl (by kernel_rfl) (by kernel_rfl) (by kernel_rfl) (fun _ _ _ h => h) (Or.inl ⟨by rfl, ?_⟩) (by assumption) ?_
              rotate_left
              · intro w' hSw
                try dsimp only at hSw
                go_simp
                try with_reducible rfl
              try simp only [Act.put, List.getElem_toArray, List.getElem_cons_zero, List.getElem_cons_succ, List.setIfInBounds_toArray, List.set_cons_zero, List.set_cons_succ]
              refine wpAnyH_ready (rs := [19]) (by kernel_rfl) (by simp) ?_
              refine AllReadyH.cons rfl (fun K' hK => ?_) AllReadyH.nil
              go_simp
              refine hK.out _ _ (by exact HS6.out) (fun hHeld => ?_)
              clear hK K'
              try simp only [Act.put, List.getElem_toArray, List.getElem_cons_zero, List.getElem_cons_succ, List.setIfInBounds_toArray, List.set_cons_zero, List.set_cons_succ]
              refine wpAnyH_done (by kernel_rfl) ?_ _
              go_wp2
              go_roundw
              case rel => exact ⟨i + 1, by go_num, by omega, HNX⟩
              case measure => simp [intOf]; omega
            · go_simp
              go_at_call 25
              with_reducible refine (HC25.out yks l2 o2 c2 _ HL2.out hsk (HP2.out.later (HS4.out _ HB.out).2.2.1) (HS4.out _ HB.out).2.2.2.1).mono ?_
              rintro e X3 ⟨p2, k2, rfl, F6, B6⟩
              have HF2 := Hid.mk (Fs.lowr F6 (Nat.le_trans HLO.out.1.2.2.1 (HS4.out _ HB.out).2.1.size))
              replace HB := Hid.mk (belowOn HB.out B6)
              replace HF1 := Hid.mk (HF1.out.later B6)
              clear B6 F6
              refine hK.out _ _ (by exact (HS4.out _ HB.out).1) (fun hHeld => ?_)
              clear hK K'
              try simp only [Act.put, List.getElem_toArray, List.getElem_cons_zero, List.getElem_cons_succ, List.setIfInBounds_toArray, List.set_cons_zero, List.set_cons_succ]
              refine wpAnyH_take (i := 15) (v := ?_) rfl (by kernel_rfl) (by kernel_rfl) (by kernel_rfl) (fun _ _ _ h => h) (Or.inl ⟨by rfl, ?_⟩) (by assumption) ?_
              rotate_left
              · intro w' hSw
                try dsimp only at hSw
                go_simp
                try with_reducible rfl
              try simp only [Act.put, List.getElem_toArray, List.getElem_cons_zero, List.getElem_cons_succ, List.setIfInBounds_toArray, List.set_cons_zero, List.set_cons_succ]
              refine wpAnyH_ready (rs := [1, 16]) (by kernel_rfl) (by simp) ?_
              refine AllReadyH.cons rfl (fun K' hK => ?_) (AllReadyH.cons rfl (fun K' hK => ?_) AllReadyH.nil)
              · have l1 := (HS4.out _ HB.out).2.2.2.2.2.2.2
                go_simp
                clear l1
                refine hK.out _ _ (by exact (HS4.out _ HB.out).1) (fun hHeld => ?_)
                clear hK K'
                try simp only [Act.put, List.getElem_toArray, List.getElem_cons_zero, List.getElem_cons_succ, List.setIfInBounds_toArray, List.set_cons_zero, List.set_cons_succ]
                refine wpAnyH_ready (rs := [16]) (by kernel_rfl) (by simp) ?_
                refine AllReadyH.cons rfl (fun K' hK => ?_) AllReadyH.nil
                go_simp
                refine hK.out _ _ (by exact (HS4.out _ (belowOn HB.out (Joins.below_alloc1 X3 (.cells #[.int .i64 yk, .int .i64 yi, .slice p1 l1 k1, .slice p2 l2 k2] 34)))).1) (fun hHeld => ?_)
                clear hK K'
                try simp only [Act.put, List.getElem_toArray, List.getElem_cons_zero, List.getElem_cons_succ, List.setIfInBounds_toArray, List.set_cons_zero, List.set_cons_succ]
                refine wpAnyH_ready (rs := [17]) (by kernel_rfl) (by simp) ?_
                refine AllReadyH.cons rfl (fun K' hK => ?_) AllReadyH.nil
                refine step_appN rfl (.tmp 69) (.tmp 84) 23 rfl wB.heap.size 34 _ 4 64 Try.underlying23 info34 (by decide) rfl (.slice gn i cn) i cs rfl (own_later (own_later HRO.out (HS4.out _ HB.out).2.1) (Joins.below_alloc1 _ _)) X3.heap.size [.int .i64 yk, .int .i64 yi, .slice p1 l1 k1, .slice p2 l2 k2] rfl rfl (World.news_of_block (heap_alloc_new _ _)) (by simp [Value.oneCell']) (by omega) (by have := (HS4.out _ HB.out).2.1.size; have := HLO.out; simp; omega) ?_
                intro v9 X5 h9 gr9 ho9
                obtain ⟨gz, cz, rfl⟩ := row_sl h9
                have HNX := Hid.mk (HFIN.out X3 p1 p2 k1 k2 (HS4.out _ HB.out).2.1 HF1.out HF2.out gz cz X5 h9 gr9)
                have HY := Hid.mk (HS4.out _ (belowOn HB.out (Joins.below_alloc1 X3 (.cells #[.int .i64 yk, .int .i64 yi, .slice p1 l1 k1, .slice p2 l2 k2] 34))))
                have KT : Kt wB.heap.size 34 (X3.alloc (.cells #[.int .i64 yk, .int .i64 yi, .slice p1 l1 k1, .slice p2 l2 k2] 34)) X5 := Kt.own gr9 (own_later (own_later HRO.out (HS4.out _ HB.out).2.1) (Joins.below_alloc1 _ _)) (Nat.le_trans HLO.out.1.2.2.1 HY.out.2.1.size)
                have z5 := (gr9.block wr.heap.size (Array.getElem?_eq_some_iff.1 HY.out.2.2.2.2.1).1 (fun e => by have := (HRO.out.lt _ e.symm).2; omega)).trans HY.out.2.2.2.2.1
                have p5 := KT.keep _ _ HY.out.2.2.2.2.2.1 (fun c f e => by cases e)
                have ob5 := KT.keep _ _ HY.out.2.2.2.2.2.2.1 (fun c f e => by cases e)
                have hf5 := Joins.unfrozen_of_block ob5 1
                have hc5 : X5.cell? ⟨ob, 1, none⟩ = some (.slice gn i cn) := by rw [Joins.cell_of_block ob5]; rfl
                have HS5 := Hid.mk (HSB.out X5 z5 p5)
                have HS6 := Hid.mk (HSB.out (X5.setCell ⟨ob, 1, none⟩ (.slice gz (i + 1) cz)) ((Below.heap_setCell _ _ _ _ (show wr.heap.size ≠ ob by have := HLO.out.2; omega)).trans z5) ((Below.heap_setCell _ _ _ _ (show w.heap.size ≠ ob by have := HLO.out.1.1; omega)).trans p5))
                clear h9 gr9 ho9 KT z5 p5 ob5 HY
                refine hK.out _ _ (by exact HS5.out) (fun hHeld => ?_)
                clear hK K'
                try simp only [Act.put, List.getElem_toArray, List.getElem_cons_zero, List.getElem_cons_succ, List.setIfInBounds_toArray, List.set_cons_zero, List.set_cons_succ]
                refine wpAnyH_take (i := 18) (v := ?_) rfl (by kernel_rfl) (by kernel_rfl) (by kernel_rfl) (fun _ _ _ h => h) (Or.inl ⟨by rfl, ?_⟩) (by assumption) ?_
                rotate_left
                · intro w' hSw
                  try dsimp only at hSw
                  go_simp
                  try with_reducible rfl
                try simp only [Act.put, List.getElem_toArray, List.getElem_cons_zero, List.getElem_cons_succ, List.setIfInBounds_toArray, List.set_cons_zero, List.set_cons_succ]
                refine wpAnyH_ready (rs := [19]) (by kernel_rfl) (by simp) ?_
                refine AllReadyH.cons rfl (fun K' hK => ?_) AllReadyH.nil
                go_simp
                refine hK.out _ _ (by exact HS6.out) (fun hHeld => ?_)
                clear hK K'
                try simp only [Act.put, List.getElem_toArray, List.getElem_cons_zero, List.getElem_cons_succ, List.setIfInBounds_toArray, List.set_cons_zero, List.set_cons_succ]
                refine wpAnyH_done (by kernel_rfl) ?_ _
                go_wp2
                go_roundw
                case rel => exact ⟨i + 1, by go_num, by omega, HNX⟩
                case measure => simp [intOf]; omega
              · go_simp
                refine hK.out _ _ (by exact (HS4.out _ (belowOn HB.out (Joins.below_alloc1 X3 (.cells #[.int .i64 yk, .int .i64 yi, .slice p1 l1 k1, .slice p2 l2 k2] 34)))).1) (fun hHeld => ?_)
                clear hK K'
                try simp only [Act.put, List.getElem_toArray, List.getElem_cons_zero, List.getElem_cons_succ, List.setIfInBounds_toArray, List.set_cons_zero, List.set_cons_succ]
                refine wpAnyH_ready (rs := [1]) (by kernel_rfl) (by simp) ?_
                refine AllReadyH.cons rfl (fun K' hK => ?_) AllReadyH.nil
                have l1 := (HS4.out _ (belowOn HB.out (Joins.below_alloc1 X3 (.cells #[.int .i64 yk, .int .i64 yi, .slice p1 l1 k1, .slice p2 l2 k2] 34)))).2.2.2.2.2.2.2
                go_simp
                clear l1
                refine hK.out _ _ (by exact (HS4.out _ (belowOn HB.out (Joins.below_alloc1 X3 (.cells #[.int .i64 yk, .int .i64 yi, .slice p1 l1 k1, .slice p2 l2 k2] 34)))).1) (fun hHeld => ?_)
                clear hK K'
                try simp only [Act.put, List.getElem_toArray, List.getElem_cons_zero, List.getElem_cons_succ, List.setIfInBounds_toArray, List.set_cons_zero, List.set_cons_succ]
                refine wpAnyH_ready (rs := [17]) (by kernel_rfl) (by simp) ?_
                refine AllReadyH.cons rfl (fun K' hK => ?_) AllReadyH.nil
                refine step_appN rfl (.tmp 69) (.tmp 84) 23 rfl wB.heap.size 34 _ 4 64 Try.underlying23 info34 (by decide) rfl (.slice gn i cn) i cs rfl (own_later (own_later HRO.out (HS4.out _ HB.out).2.1) (Joins.below_alloc1 _ _)) X3.heap.size [.int .i64 yk, .int .i64 yi, .slice p1 l1 k1, .slice p2 l2 k2] rfl rfl (World.news_of_block (heap_alloc_new _ _)) (by simp [Value.oneCell']) (by omega) (by have := (HS4.out _ HB.out).2.1.size; have := HLO.out; simp; omega) ?_
                intro v9 X5 h9 gr9 ho9
                obtain ⟨gz, cz, rfl⟩ := row_sl h9
                have HNX := Hid.mk (HFIN.out X3 p1 p2 k1 k2 (HS4.out _ HB.out).2.1 HF1.out HF2.out gz cz X5 h9 gr9)
                have HY := Hid.mk (HS4.out _ (belowOn HB.out (Joins.below_alloc1 X3 (.cells #[.int .i64 yk, .int .i64 yi, .slice p1 l1 k1, .slice p2 l2 k2] 34))))
                have KT : Kt wB.heap.size 34 (X3.alloc (.cells #[.int .i64 yk, .int .i64 yi, .slice p1 l1 k1, .slice p2 l2 k2] 34)) X5 := Kt.own gr9 (own_later (own_later HRO.out (HS4.out _ HB.out).2.1) (Joins.below_alloc1 _ _)) (Nat.le_trans HLO.out.1.2.2.1 HY.out.2.1.size)
                have z5 := (gr9.block wr.heap.size (Array.getElem?_eq_some_iff.1 HY.out.2.2.2.2.1).1 (fun e => by have := (HRO.out.lt _ e.symm).2; omega)).trans HY.out.2.2.2.2.1
                have p5 := KT.keep _ _ HY.out.2.2.2.2.2.1 (fun c f e => by cases e)
                have ob5 := KT.keep _ _ HY.out.2.2.2.2.2.2.1 (fun c f e => by cases e)
                have hf5 := Joins.unfrozen_of_block ob5 1
                have hc5 : X5.cell? ⟨ob, 1, none⟩ = some (.slice gn i cn) := by rw [Joins.cell_of_block ob5]; rfl
                have HS5 := Hid.mk (HSB.out X5 z5 p5)
                have HS6 := Hid.mk (HSB.out (X5.setCell ⟨ob, 1, none⟩ (.slice gz (i + 1) cz)) ((Below.heap_setCell _ _ _ _ (show wr.heap.size ≠ ob by have := HLO.out.2; omega)).trans z5) ((Below.heap_setCell _ _ _ _ (show w.heap.size ≠ ob by have := HLO.out.1.1; omega)).trans p5))
                clear h9 gr9 ho9 KT z5 p5 ob5 HY
                refine hK.out _ _ (by exact HS5.out) (fun hHeld => ?_)
                clear hK K'
                try simp only [Act.put, List.getElem_toArray, List.getElem_cons_zero, List.getElem_cons_succ, List.setIfInBounds_toArray, List.set_cons_zero, List.set_cons_succ]
                refine wpAnyH_take (i := 18) (v := ?_) rfl (by kernel_rfl) (by kernel_rfl) (by kernel_rfl) (fun _ _ _ h => h) (Or.inl ⟨by rfl, ?_⟩) (by assumption) ?_
                rotate_left
                · intro w' hSw
                  try dsimp only at hSw
                  go_simp
                  try with_reducible rfl
                try simp only [Act.put, List.getElem_toArray, List.getElem_cons_zero, List.getElem_cons_succ, List.setIfInBounds_toArray, List.set_cons_zero, List.set_cons_succ]
                refine wpAnyH_ready (rs := [19]) (by kernel_rfl) (by simp) ?_
                refine AllReadyH.cons rfl (fun K' hK => ?_) AllReadyH.nil
                go_simp
                refine hK.out _ _ (by exact HS6.out) (fun hHeld => ?_)
                clear hK K'
                try simp only [Act.put, List.getElem_toArray, List.getElem_cons_zero, List.getElem_cons_succ, List.setIfInBounds_toArray, List.set_cons_zero, List.set_cons_succ]
                refine wpAnyH_done (by kernel_rfl) ?_ _
                go_wp2
                go_roundw
                case rel => exact ⟨i + 1, by go_num, by omega, HNX⟩
                case measure => simp [intOf]; omega
end Go.Proofs.Ytncimddgkgclpaa
