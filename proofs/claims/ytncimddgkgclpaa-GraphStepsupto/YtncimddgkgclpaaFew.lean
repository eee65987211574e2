/- The law's few. -/
import Derived.Test.YtncimddgkgclpaaMef
namespace Go.Proofs.Ytncimddgkgclpaa
open Go.RowKit
set_option linter.unusedVariables false
set_option linter.unusedSimpArgs false
set_option maxRecDepth 100000

def fewD (x : Nd) : Nd := ⟨x.k, x.i, x.ns, x.ks.take 20⟩
def fewG (g : Gr) : Gr := ⟨g.rs.take 60, (g.nd.take 60).map fewD⟩
/-- the cells of nodes -/
def NC (w : World) : List Nd → List Value → Prop
  | [], cs => cs = []
  | x :: r, cs => ∃ o1 c1 o2 c2 cs', cs = .int .i64 x.k :: .int .i64 x.i :: .slice o1 x.ns.length c1 :: .slice o2 x.ks.length c2 :: cs' ∧ PS .u64 w o1 c1 x.ns ∧ PS .i64 w o2 c2 x.ks ∧ NC w r cs'
theorem NC.snoc {w : World} : ∀ {l : List Nd} {cs : List Value}, NC w l cs → ∀ {x : Nd} {o1 o2 : Option Addr} {c1 c2 : Nat}, PS .u64 w o1 c1 x.ns → PS .i64 w o2 c2 x.ks → NC w (l ++ [x]) (cs ++ [.int .i64 x.k, .int .i64 x.i, .slice o1 x.ns.length c1, .slice o2 x.ks.length c2])
  | [], _, h, x, o1, o2, c1, c2, p, q => by
    have h' : _ = [] := h
    subst h'
    exact ⟨o1, c1, o2, c2, [], rfl, p, q, rfl⟩
  | a :: r, _, ⟨x1, y1, x2, y2, cs', e, p', q', t⟩, x, o1, o2, c1, c2, p, q => ⟨x1, y1, x2, y2, _, by rw [e]; rfl, p', q', NC.snoc t p q⟩
theorem NC.get {w : World} : ∀ {l : List Nd} {cs : List Value}, NC w l cs → ∀ (i : Nat) (h : i < l.length), ∃ c, isNd w l[i] c ∧ ∀ j u, c[j]? = some u → cs[i * 4 + j]? = some u
  | a :: r, _, ⟨x1, y1, x2, y2, cs', e, p', q', t⟩, 0, _ => ⟨_, ⟨x1, y1, x2, y2, rfl, p', q'⟩, fun j u hj => by
    rw [e]
    match j, hj with
    | 0, hj => exact hj
    | 1, hj => exact hj
    | 2, hj => exact hj
    | 3, hj => exact hj
    | j + 4, hj => simp at hj⟩
  | a :: r, _, ⟨x1, y1, x2, y2, cs', e, p', q', t⟩, i + 1, h => by
    obtain ⟨c, h1, h2⟩ := NC.get t i (by simpa using h)
    refine ⟨c, h1, fun j u hj => ?_⟩
    rw [e, show (i + 1) * 4 + j = i * 4 + j + 1 + 1 + 1 + 1 by omega]
    exact h2 j u hj
theorem NC.len {w : World} : ∀ {l : List Nd} {cs : List Value}, NC w l cs → cs.length = l.length * 4
  | [], _, h => by have h' : _ = [] := h; rw [h']; rfl
  | a :: r, _, ⟨x1, y1, x2, y2, cs', e, p', q', t⟩ => by rw [e]; simp [NC.len t]; omega
theorem NC.nds {w0 w : World} {base : Nat} {l : List Nd} {cs : List Value} {gr : Option Addr} {rc : Nat} (h : NC w0 l cs) (B : Below w0.heap.size w0 w) (hl : l.length ≤ 1000) (r : w.ownsRow base 34 4 (.slice gr l.length rc) l.length cs) : Nds w l (.slice gr l.length rc) := by
  obtain ⟨hlen, q⟩ := r
  rcases q with ⟨e, h0⟩ | ⟨pb, cap, cur, e, hb, hg, h1, h2, h3, h4⟩
  · simp only [Value.slice.injEq] at e
    obtain ⟨rfl, _, rfl⟩ := e
    exact ⟨none, 0, rfl, ⟨by omega, by unfold maxLen; omega⟩, fun q => by omega⟩
  · simp only [Value.slice.injEq] at e
    obtain ⟨rfl, _, rfl⟩ := e
    refine ⟨_, rc, rfl, ⟨h1, by unfold maxLen; omega⟩, fun q => ⟨pb, 0, rfl, fun i x hi => ?_⟩⟩
    obtain ⟨hil, rfl⟩ := List.getElem?_eq_some_iff.1 hi
    obtain ⟨c, c1, c2⟩ := h.get i hil
    refine ⟨c, isNd_later B c1, fun j u hj => ?_⟩
    have h5 := c2 j u hj
    rw [← h4] at h5
    rw [Joins.cell_of_block hg]
    have hj4 : i * 4 + j < l.length * 4 := by
      have := (List.getElem?_eq_some_iff.1 h5).1
      simp at this
      omega
    rw [List.getElem?_take_of_lt hj4] at h5
    rw [Nat.zero_add]
    simpa using h5
theorem PS.take {kd : IntKind} {w : World} {o : Option Addr} {cap : Nat} {l : List Int} (h : PS kd w o cap l) (n : Nat) : PS kd w o cap (l.take n) := by
  have e : (l.take n).length ≤ l.length := by simp; omega
  refine ⟨Nat.le_trans e h.cap, Nat.le_trans e h.len, fun hn => ?_⟩
  obtain ⟨g, off, rfl, hx⟩ := h.num (by omega)
  exact ⟨g, off, rfl, fun i hi => by rw [List.getElem_take]; exact hx i (by omega)⟩
/-- few's worlds -/
structure Fw (w wr : World) (z n1 m1 n2 cr ca i rc : Nat) (o a gr : Option Addr) : Prop where
  bel : Below z w wr
  b0 : wr.heap[z]? = some (.cells #[.slice o n1 cr, .slice a m1 ca] 25 (0, 0))
  b1 : wr.heap[z + 1]? = some (.cells #[.slice none 0 0, .slice none 0 0] 25 (0, 0))
  b2 : wr.heap[z + 1 + 1]? = some (.cells #[.slice o n2 cr, .slice gr i rc] 25 (0, 0))
theorem Fw.start (w : World) (n1 m1 n2 cr ca : Nat) (o a : Option Addr) : Fw w (((w.alloc (.cells #[.slice o n1 cr, .slice a m1 ca] 25)).alloc (.cells #[.slice none 0 0, .slice none 0 0] 25)).alloc (.cells #[.slice o n2 cr, .slice none 0 0] 25)) w.heap.size n1 m1 n2 cr ca 0 0 o a none := by
  refine ⟨by go_grown, ?_, ?_, ?_⟩
  · exact (Below.heap_alloc _ _ _ (by simp; omega)).trans ((Below.heap_alloc _ _ _ (by simp)).trans (heap_alloc_new _ _))
  · refine (Below.heap_alloc _ _ _ (by simp)).trans ?_
    have := heap_alloc_new (w.alloc (.cells #[.slice o n1 cr, .slice a m1 ca] 25)) (.cells #[.slice none 0 0, .slice none 0 0] 25)
    simpa using this
  · have := heap_alloc_new ((w.alloc (.cells #[.slice o n1 cr, .slice a m1 ca] 25)).alloc (.cells #[.slice none 0 0, .slice none 0 0] 25)) (.cells #[.slice o n2 cr, .slice none 0 0] 25)
    simpa using this
section
variable {w wr : World} {z n1 m1 n2 cr ca i rc : Nat} {o a gr : Option Addr}
theorem Fw.cells (h : Fw w wr z n1 m1 n2 cr ca i rc o a gr) : wr.cell? ⟨z, 1, none⟩ = some (.slice a m1 ca) ∧ wr.cell? ⟨z + 1 + 1, 0, none⟩ = some (.slice o n2 cr) ∧ wr.cell? ⟨z + 1 + 1, 1, none⟩ = some (.slice gr i rc) ∧ wr.frozen? ⟨z + 1 + 1, 1, none⟩ = false ∧ z + 3 ≤ wr.heap.size := by
  refine ⟨?_, ?_, ?_, Joins.unfrozen_of_block h.b2 _, ?_⟩
  · rw [Joins.cell_of_block h.b0]; rfl
  · rw [Joins.cell_of_block h.b2]; rfl
  · rw [Joins.cell_of_block h.b2]; rfl
  · have := (Array.getElem?_eq_some_iff.1 h.b2).1; omega
theorem Fw.below {w' : World} (h : Fw w wr z n1 m1 n2 cr ca i rc o a gr) (B : Below (z + 3) wr w') : Fw w w' z n1 m1 n2 cr ca i rc o a gr :=
  ⟨h.bel.trans (B.mono (by omega)), (B.block _ (by omega)).trans h.b0, (B.block _ (by omega)).trans h.b1, (B.block _ (by omega)).trans h.b2⟩
theorem Fw.put (h : Fw w wr z n1 m1 n2 cr ca i rc o a gr) (gr' : Option Addr) (i' rc' : Nat) : Fw w (wr.setCell ⟨z + 1 + 1, 1, none⟩ (.slice gr' i' rc')) z n1 m1 n2 cr ca i' rc' o a gr' :=
  ⟨h.bel.setCell (by simp; omega) _, (Below.heap_setCell _ _ _ _ (by simp; omega)).trans h.b0, (Below.heap_setCell _ _ _ _ (by simp)).trans h.b1, by have := Joins.block_setCell h.b2 (i := 1) (.slice gr' i' rc'); exact this⟩
end
set_option maxHeartbeats 8000000 in
theorem few8 (g : Gr) (o a : Option Addr) (cr ca : Nat) (w : World) (G : Gv w g o cr a ca) :
    Calls Try.prog 8 #[gv g o cr a ca] w fun e w' => ∃ a1 ca1, e = .returned (gv (fewG g) o cr a1 ca1) ∧ Gv w' (fewG g) o cr a1 ca1 ∧ Below w.heap.size w w' := by
  unfold gv
  have HG := Hid.mk G
  obtain ⟨_, _, q1, q2, hq3⟩ := G.nd
  simp only [Value.slice.injEq] at q1
  obtain ⟨rfl, _, rfl⟩ := q1
  have hr1 := G.rs.cap
  have hr2 := G.rs.len
  clear hq3
  have hc1 := q2.1
  have hc2 := q2.2
  unfold maxLen at hr2 hc2
  clear G q2
  have hL1 : Hid ((fewG g).rs.length = min 60 g.rs.length) := ⟨by simp [fewG]⟩
  have hL2 : Hid ((fewG g).nd.length = min 60 g.nd.length) := ⟨by simp [fewG]⟩
  obtain ⟨n1, e1⟩ : ∃ n, g.rs.length = n := ⟨_, rfl⟩
  obtain ⟨m, e2⟩ : ∃ n, g.nd.length = n := ⟨_, rfl⟩
  have HN1 := Hid.mk e1
  have HM := Hid.mk e2
  rw [e1] at hr1 hr2 hL1
  rw [e2] at hc1 hc2 hL2
  rw [e1, e2]
  clear e1 e2
  by_cases hm : 60 < m
  · have hm1 : (m : Int) > 60 := by omega
    by_cases hn : 60 < n1
    · have hn1 : (n1 : Int) > 60 := by omega
      go_enter Try.func8, Try.ntmps8
      go_wp2
      have HST := Hid.mk (Fw.start w n1 60 60 cr ca o a)
      have hbase : Hid ((((w.alloc (.cells #[.slice o n1 cr, .slice a 60 ca] 25)).alloc (.cells #[.slice none 0 0, .slice none 0 0] 25)).alloc (.cells #[.slice o 60 cr, .slice none 0 0] 25)).heap.size = w.heap.size + 3) := ⟨by simp⟩
      generalize ((w.alloc (.cells #[.slice o n1 cr, .slice a 60 ca] 25)).alloc (.cells #[.slice none 0 0, .slice none 0 0] 25)).alloc (.cells #[.slice o 60 cr, .slice none 0 0] 25) = W at *
      obtain ⟨z, hz⟩ : ∃ z, w.heap.size = z := ⟨_, rfl⟩
      have HZ := Hid.mk hz
      rw [hz] at HST hbase ⊢
      clear hz
      go_loopw [4, 5] (fun cv _ wr => ∃ (i : Nat) (gr : Option Addr) (rc : Nat), cv = .int .i64 i ∧ i ≤ 60 ∧ Hid (Fw w wr z n1 60 60 cr ca i rc o a gr ∧ ∃ cs, wr.ownsRow (z + 3) 34 4 (.slice gr i rc) i cs ∧ NC w ((fewG g).nd.take i) cs)) (fun cv _ _ => 60 - (intOf cv).toNat)
      case atStart => exact ⟨0, none, 0, rfl, Nat.zero_le _, ⟨HST.out, [], World.ownsRow_nil _ _ _ _, rfl⟩⟩
      case round =>
        obtain ⟨i, gr, rc, rfl, hi, HI⟩ := hrel
        obtain ⟨c1, c20, c21, cf, csz⟩ := HI.out.1.cells
        by_cases hlt : i < 60
        case neg =>
          obtain rfl : 60 = i := by omega
          have hf1 := Joins.unfrozen_of_block HI.out.1.b1 0
          have hd0 : wr.cell? ⟨z + 1, 0, none⟩ = some (.slice none 0 0) := by rw [Joins.cell_of_block HI.out.1.b1]; rfl
          have hd1 : wr.cell? ⟨z + 1, 1, none⟩ = some (.slice none 0 0) := by rw [Joins.cell_of_block HI.out.1.b1]; rfl
          have hf2 := Joins.unfrozen_of_block HI.out.1.b1 1
          go_wp2
          have f1 := Joins.block_setCell HI.out.1.b1 (i := 0) (.slice o 60 cr)
          have f2 := Joins.block_setCell f1 (i := 1) (.slice gr 60 rc)
          have KS : Kt z 25 wr ((wr.setCell ⟨z + 1, 0, none⟩ (.slice o 60 cr)).setCell ⟨z + 1, 1, none⟩ (.slice gr 60 rc)) := (Kt.set HI.out.1.b1 (by omega)).trans (Kt.set f1 (by omega))
          obtain ⟨HF, cs, hr, hc⟩ := HI.out
          have eN : (fewG g).rs.length = 60 := by rw [hL1.out]; omega
          have eM : (fewG g).nd.length = 60 := by rw [hL2.out]; omega
          have hBel : Below w.heap.size w ((wr.setCell ⟨z + 1, 0, none⟩ (.slice o 60 cr)).setCell ⟨z + 1, 1, none⟩ (.slice gr 60 rc)) := by rw [HZ.out]; exact HF.bel.trans KS.bel
          refine bodyPost_ret (results_cell_row Try.results8 _ _ (z + 1) 25 _ (0, 0) _ rfl f2 Try.underlying25 rfl size25) rfl ⟨gr, rc, by show _ = Ending.returned (.agg #[.slice o (fewG g).rs.length cr, .slice gr (fewG g).nd.length rc]); rw [eN, eM]; rfl, ⟨(HG.out.rs.later hBel).take 60, ?_⟩, hBel⟩
          have hc' : NC w (fewG g).nd cs := by have h := hc; rwa [List.take_of_length_le (by rw [eM]; exact Nat.le_refl _)] at h
          have hr' : ((wr.setCell ⟨z + 1, 0, none⟩ (.slice o 60 cr)).setCell ⟨z + 1, 1, none⟩ (.slice gr 60 rc)).ownsRow (z + 3) 34 4 (.slice gr 60 rc) 60 cs := own_ky hr KS.ky (by decide) (fun _ _ => id)
          have hr2 : ((wr.setCell ⟨z + 1, 0, none⟩ (.slice o 60 cr)).setCell ⟨z + 1, 1, none⟩ (.slice gr 60 rc)).ownsRow (z + 3) 34 4 (.slice gr (fewG g).nd.length rc) (fewG g).nd.length cs := by rw [eM]; exact hr'
          exact hc'.nds hBel (by rw [eM]; omega) hr2
        case pos =>
        have hlt' : (i : Int) < 60 := by omega
        obtain ⟨q, off, p1, k1, p2, k2, rfl, _, _, P1, P2, a0, a1, a2, a3⟩ := HG.out.nd.nd (n := i) (by rw [HM.out]; omega)
        have hbw : Below w.heap.size w wr := by rw [HZ.out]; exact HI.out.1.bel
        have d0 := cellLater hbw a0
        have d1 := cellLater hbw a1
        have d2 := cellLater hbw a2
        have d3 := cellLater hbw a3
        have hc2 := P2.cap
        have hl2 := P2.len
        unfold maxLen at hl2
        have HTK : Hid ((fewG g).nd.take (i + 1) = (fewG g).nd.take i ++ [fewD (nd0 g.nd i)]) := ⟨by
          have h1 : i < (fewG g).nd.length := by rw [hL2.out]; omega
          have h2 : i < g.nd.length := by rw [HM.out]; omega
          rw [List.take_succ_eq_append_getElem h1, nd0_get h2]
          simp [fewG]⟩
        have HP1 := Hid.mk P1
        have HP2 := Hid.mk P2
        have HTD : Hid (fewD (nd0 g.nd i) = ⟨(nd0 g.nd i).k, (nd0 g.nd i).i, (nd0 g.nd i).ns, (nd0 g.nd i).ks.take 20⟩) := ⟨rfl⟩
        clear P1 P2 a0 a1 a2 a3
        generalize fewD (nd0 g.nd i) = Y at *
        generalize nd0 g.nd i = x at *
        obtain ⟨xk, xi, xns, xks⟩ := x
        dsimp only at *
        obtain ⟨u1, h1⟩ : ∃ n, xns.length = n := ⟨_, rfl⟩
        obtain ⟨u2, h2⟩ : ∃ n, xks.length = n := ⟨_, rfl⟩
        rw [h1] at d2
        rw [h2] at d3 hc2 hl2
        have HU1 := Hid.mk h1
        have HU2 := Hid.mk h2
        clear h1 h2
        obtain ⟨cs, hrow, hnc⟩ := HI.out.2
        have HROW := Hid.mk (And.intro hrow hnc)
        clear hrow hnc
        obtain ⟨i0, hi0, hz0, hz1, hz2⟩ := info_parts info34
        by_cases h20 : 20 < u2
        case pos =>
          have h20' : (u2 : Int) > 20 := by omega
          have HKT : Hid ((xks.take 20).length = 20) := ⟨by have := HU2.out; simp; omega⟩
          have hX : Hid (Below wr.heap.size wr ((wr.alloc (.cells #[.int .i64 xk, .int .i64 xi, .slice p1 u1 k1, .slice p2 20 k2] 34)).alloc (.cells #[.int .i64 xk, .int .i64 xi, .slice p1 u1 k1, .slice p2 20 k2] 34))) := ⟨by go_grown⟩
          have hb2 : Below wr.heap.size wr (wr.alloc (.cells #[.int .i64 xk, .int .i64 xi, .slice p1 u1 k1, .slice p2 20 k2] 34)) := by go_grown
          have e21 := cellLater hb2 c21
          clear hb2
          go_wp2_with (at_builtin; go_loud (refine wpList_append_lies _ rfl (.tmp 46) (.tmp 48) 23 rfl (z + 3) 34 i0 _ 4 64 Try.underlying23 hi0 hz0 hz1 hz2 rfl (by decide) (.slice gr i rc) i cs rfl (own_later HROW.out.1 hX.out) ⟨wr.heap.size + 1, 0, none⟩ 1 1 [.int .i64 xk, .int .i64 xi, .slice p1 u1 k1, .slice p2 20 k2] rfl rfl (World.news_of_block (by have q9 := heap_alloc_new (wr.alloc (.cells #[.int .i64 xk, .int .i64 xi, .slice p1 u1 k1, .slice p2 20 k2] 34)) (.cells #[.int .i64 xk, .int .i64 xi, .slice p1 u1 k1, .slice p2 20 k2] 34); simpa using q9)) (by simp [Value.oneCell']) (by decide) (by unfold Go.maxLen; omega) (by omega) (by simp; omega) _ rfl ?_; intro gz cz w9 hown hgr hat hlt9; have B9 : Below (z + 3) wr w9 := (hX.out.mono csz).trans (Ky.own (X := fun _ => False) (T := [34]) hgr (own_later HROW.out.1 hX.out) (by decide) (by simp; omega)).bel; have HF9 := Hid.mk (HI.out.1.below B9); obtain ⟨_, _, cc9, cf9, _⟩ := HF9.out.cells; have H9 := Hid.mk hown; clear hown hgr hat hlt9 B9))
          go_roundw
          case rel =>
            refine ⟨i + 1, _, cz, by go_num, by omega, ⟨HF9.out.put _ _ _, _, own_ky H9.out (Kt.set (base := z) (t := 25) HF9.out.b2 (by omega)).ky (by decide) (fun _ _ => id), ?_⟩⟩
            rw [HTK.out, HTD.out]
            have := HROW.out.2.snoc (x := ⟨xk, xi, xns, xks.take 20⟩) HP1.out (HP2.out.take 20)
            rw [HU1.out, HKT.out] at this
            exact this
          case measure => simp [intOf]; omega
        case neg =>
          have h20' : ¬ ((u2 : Int) > 20) := by omega
          have HKT : Hid ((xks.take 20).length = u2) := ⟨by have := HU2.out; simp; omega⟩
          have hX : Hid (Below wr.heap.size wr ((wr.alloc (.cells #[.int .i64 xk, .int .i64 xi, .slice p1 u1 k1, .slice p2 u2 k2] 34)).alloc (.cells #[.int .i64 xk, .int .i64 xi, .slice p1 u1 k1, .slice p2 u2 k2] 34))) := ⟨by go_grown⟩
          have hb2 : Below wr.heap.size wr (wr.alloc (.cells #[.int .i64 xk, .int .i64 xi, .slice p1 u1 k1, .slice p2 u2 k2] 34)) := by go_grown
          have e21 := cellLater hb2 c21
          clear hb2
          go_wp2_with (at_builtin; go_loud (refine wpList_append_lies _ rfl (.tmp 46) (.tmp 48) 23 rfl (z + 3) 34 i0 _ 4 64 Try.underlying23 hi0 hz0 hz1 hz2 rfl (by decide) (.slice gr i rc) i cs rfl (own_later HROW.out.1 hX.out) ⟨wr.heap.size + 1, 0, none⟩ 1 1 [.int .i64 xk, .int .i64 xi, .slice p1 u1 k1, .slice p2 u2 k2] rfl rfl (World.news_of_block (by have q9 := heap_alloc_new (wr.alloc (.cells #[.int .i64 xk, .int .i64 xi, .slice p1 u1 k1, .slice p2 u2 k2] 34)) (.cells #[.int .i64 xk, .int .i64 xi, .slice p1 u1 k1, .slice p2 u2 k2] 34); simpa using q9)) (by simp [Value.oneCell']) (by decide) (by unfold Go.maxLen; omega) (by omega) (by simp; omega) _ rfl ?_; intro gz cz w9 hown hgr hat hlt9; have B9 : Below (z + 3) wr w9 := (hX.out.mono csz).trans (Ky.own (X := fun _ => False) (T := [34]) hgr (own_later HROW.out.1 hX.out) (by decide) (by simp; omega)).bel; have HF9 := Hid.mk (HI.out.1.below B9); obtain ⟨_, _, cc9, cf9, _⟩ := HF9.out.cells; have H9 := Hid.mk hown; clear hown hgr hat hlt9 B9))
          go_roundw
          case rel =>
            refine ⟨i + 1, _, cz, by go_num, by omega, ⟨HF9.out.put _ _ _, _, own_ky H9.out (Kt.set (base := z) (t := 25) HF9.out.b2 (by omega)).ky (by decide) (fun _ _ => id), ?_⟩⟩
            rw [HTK.out, HTD.out]
            have := HROW.out.2.snoc (x := ⟨xk, xi, xns, xks.take 20⟩) HP1.out (HP2.out.take 20)
            rw [HU1.out, HKT.out] at this
            exact this
          case measure => simp [intOf]; omega
    · have hn1 : ¬ ((n1 : Int) > 60) := by omega
      go_enter Try.func8, Try.ntmps8
      go_wp2
      have HST := Hid.mk (Fw.start w n1 60 n1 cr ca o a)
      have hbase : Hid ((((w.alloc (.cells #[.slice o n1 cr, .slice a 60 ca] 25)).alloc (.cells #[.slice none 0 0, .slice none 0 0] 25)).alloc (.cells #[.slice o n1 cr, .slice none 0 0] 25)).heap.size = w.heap.size + 3) := ⟨by simp⟩
      generalize ((w.alloc (.cells #[.slice o n1 cr, .slice a 60 ca] 25)).alloc (.cells #[.slice none 0 0, .slice none 0 0] 25)).alloc (.cells #[.slice o n1 cr, .slice none 0 0] 25) = W at *
      obtain ⟨z, hz⟩ : ∃ z, w.heap.size = z := ⟨_, rfl⟩
      have HZ := Hid.mk hz
      rw [hz] at HST hbase ⊢
      clear hz
      go_loopw [4, 5] (fun cv _ wr => ∃ (i : Nat) (gr : Option Addr) (rc : Nat), cv = .int .i64 i ∧ i ≤ 60 ∧ Hid (Fw w wr z n1 60 n1 cr ca i rc o a gr ∧ ∃ cs, wr.ownsRow (z + 3) 34 4 (.slice gr i rc) i cs ∧ NC w ((fewG g).nd.take i) cs)) (fun cv _ _ => 60 - (intOf cv).toNat)
      case atStart => exact ⟨0, none, 0, rfl, Nat.zero_le _, ⟨HST.out, [], World.ownsRow_nil _ _ _ _, rfl⟩⟩
      case round =>
        obtain ⟨i, gr, rc, rfl, hi, HI⟩ := hrel
        obtain ⟨c1, c20, c21, cf, csz⟩ := HI.out.1.cells
        by_cases hlt : i < 60
        case neg =>
          obtain rfl : 60 = i := by omega
          have hf1 := Joins.unfrozen_of_block HI.out.1.b1 0
          have hd0 : wr.cell? ⟨z + 1, 0, none⟩ = some (.slice none 0 0) := by rw [Joins.cell_of_block HI.out.1.b1]; rfl
          have hd1 : wr.cell? ⟨z + 1, 1, none⟩ = some (.slice none 0 0) := by rw [Joins.cell_of_block HI.out.1.b1]; rfl
          have hf2 := Joins.unfrozen_of_block HI.out.1.b1 1
          go_wp2
          have f1 := Joins.block_setCell HI.out.1.b1 (i := 0) (.slice o n1 cr)
          have f2 := Joins.block_setCell f1 (i := 1) (.slice gr 60 rc)
          have KS : Kt z 25 wr ((wr.setCell ⟨z + 1, 0, none⟩ (.slice o n1 cr)).setCell ⟨z + 1, 1, none⟩ (.slice gr 60 rc)) := (Kt.set HI.out.1.b1 (by omega)).trans (Kt.set f1 (by omega))
          obtain ⟨HF, cs, hr, hc⟩ := HI.out
          have eN : (fewG g).rs.length = n1 := by rw [hL1.out]; omega
          have eM : (fewG g).nd.length = 60 := by rw [hL2.out]; omega
          have hBel : Below w.heap.size w ((wr.setCell ⟨z + 1, 0, none⟩ (.slice o n1 cr)).setCell ⟨z + 1, 1, none⟩ (.slice gr 60 rc)) := by rw [HZ.out]; exact HF.bel.trans KS.bel
          refine bodyPost_ret (results_cell_row Try.results8 _ _ (z + 1) 25 _ (0, 0) _ rfl f2 Try.underlying25 rfl size25) rfl ⟨gr, rc, by show _ = Ending.returned (.agg #[.slice o (fewG g).rs.length cr, .slice gr (fewG g).nd.length rc]); rw [eN, eM]; rfl, ⟨(HG.out.rs.later hBel).take 60, ?_⟩, hBel⟩
          have hc' : NC w (fewG g).nd cs := by have h := hc; rwa [List.take_of_length_le (by rw [eM]; exact Nat.le_refl _)] at h
          have hr' : ((wr.setCell ⟨z + 1, 0, none⟩ (.slice o n1 cr)).setCell ⟨z + 1, 1, none⟩ (.slice gr 60 rc)).ownsRow (z + 3) 34 4 (.slice gr 60 rc) 60 cs := own_ky hr KS.ky (by decide) (fun _ _ => id)
          have hr2 : ((wr.setCell ⟨z + 1, 0, none⟩ (.slice o n1 cr)).setCell ⟨z + 1, 1, none⟩ (.slice gr 60 rc)).ownsRow (z + 3) 34 4 (.slice gr (fewG g).nd.length rc) (fewG g).nd.length cs := by rw [eM]; exact hr'
          exact hc'.nds hBel (by rw [eM]; omega) hr2
        case pos =>
        have hlt' : (i : Int) < 60 := by omega
        obtain ⟨q, off, p1, k1, p2, k2, rfl, _, _, P1, P2, a0, a1, a2, a3⟩ := HG.out.nd.nd (n := i) (by rw [HM.out]; omega)
        have hbw : Below w.heap.size w wr := by rw [HZ.out]; exact HI.out.1.bel
        have d0 := cellLater hbw a0
        have d1 := cellLater hbw a1
        have d2 := cellLater hbw a2
        have d3 := cellLater hbw a3
        have hc2 := P2.cap
        have hl2 := P2.len
        unfold maxLen at hl2
        have HTK : Hid ((fewG g).nd.take (i + 1) = (fewG g).nd.take i ++ [fewD (nd0 g.nd i)]) := ⟨by
          have h1 : i < (fewG g).nd.length := by rw [hL2.out]; omega
          have h2 : i < g.nd.length := by rw [HM.out]; omega
          rw [List.take_succ_eq_append_getElem h1, nd0_get h2]
          simp [fewG]⟩
        have HP1 := Hid.mk P1
        have HP2 := Hid.mk P2
        have HTD : Hid (fewD (nd0 g.nd i) = ⟨(nd0 g.nd i).k, (nd0 g.nd i).i, (nd0 g.nd i).ns, (nd0 g.nd i).ks.take 20⟩) := ⟨rfl⟩
        clear P1 P2 a0 a1 a2 a3
        generalize fewD (nd0 g.nd i) = Y at *
        generalize nd0 g.nd i = x at *
        obtain ⟨xk, xi, xns, xks⟩ := x
        dsimp only at *
        obtain ⟨u1, h1⟩ : ∃ n, xns.length = n := ⟨_, rfl⟩
        obtain ⟨u2, h2⟩ : ∃ n, xks.length = n := ⟨_, rfl⟩
        rw [h1] at d2
        rw [h2] at d3 hc2 hl2
        have HU1 := Hid.mk h1
        have HU2 := Hid.mk h2
        clear h1 h2
        obtain ⟨cs, hrow, hnc⟩ := HI.out.2
        have HROW := Hid.mk (And.intro hrow hnc)
        clear hrow hnc
        obtain ⟨i0, hi0, hz0, hz1, hz2⟩ := info_parts info34
        by_cases h20 : 20 < u2
        case pos =>
          have h20' : (u2 : Int) > 20 := by omega
          have HKT : Hid ((xks.take 20).length = 20) := ⟨by have := HU2.out; simp; omega⟩
          have hX : Hid (Below wr.heap.size wr ((wr.alloc (.cells #[.int .i64 xk, .int .i64 xi, .slice p1 u1 k1, .slice p2 20 k2] 34)).alloc (.cells #[.int .i64 xk, .int .i64 xi, .slice p1 u1 k1, .slice p2 20 k2] 34))) := ⟨by go_grown⟩
          have hb2 : Below wr.heap.size wr (wr.alloc (.cells #[.int .i64 xk, .int .i64 xi, .slice p1 u1 k1, .slice p2 20 k2] 34)) := by go_grown
          have e21 := cellLater hb2 c21
          clear hb2
          go_wp2_with (at_builtin; go_loud (refine wpList_append_lies _ rfl (.tmp 46) (.tmp 48) 23 rfl (z + 3) 34 i0 _ 4 64 Try.underlying23 hi0 hz0 hz1 hz2 rfl (by decide) (.slice gr i rc) i cs rfl (own_later HROW.out.1 hX.out) ⟨wr.heap.size + 1, 0, none⟩ 1 1 [.int .i64 xk, .int .i64 xi, .slice p1 u1 k1, .slice p2 20 k2] rfl rfl (World.news_of_block (by have q9 := heap_alloc_new (wr.alloc (.cells #[.int .i64 xk, .int .i64 xi, .slice p1 u1 k1, .slice p2 20 k2] 34)) (.cells #[.int .i64 xk, .int .i64 xi, .slice p1 u1 k1, .slice p2 20 k2] 34); simpa using q9)) (by simp [Value.oneCell']) (by decide) (by unfold Go.maxLen; omega) (by omega) (by simp; omega) _ rfl ?_; intro gz cz w9 hown hgr hat hlt9; have B9 : Below (z + 3) wr w9 := (hX.out.mono csz).trans (Ky.own (X := fun _ => False) (T := [34]) hgr (own_later HROW.out.1 hX.out) (by decide) (by simp; omega)).bel; have HF9 := Hid.mk (HI.out.1.below B9); obtain ⟨_, _, cc9, cf9, _⟩ := HF9.out.cells; have H9 := Hid.mk hown; clear hown hgr hat hlt9 B9))
          go_roundw
          case rel =>
            refine ⟨i + 1, _, cz, by go_num, by omega, ⟨HF9.out.put _ _ _, _, own_ky H9.out (Kt.set (base := z) (t := 25) HF9.out.b2 (by omega)).ky (by decide) (fun _ _ => id), ?_⟩⟩
            rw [HTK.out, HTD.out]
            have := HROW.out.2.snoc (x := ⟨xk, xi, xns, xks.take 20⟩) HP1.out (HP2.out.take 20)
            rw [HU1.out, HKT.out] at this
            exact this
          case measure => simp [intOf]; omega
        case neg =>
          have h20' : ¬ ((u2 : Int) > 20) := by omega
          have HKT : Hid ((xks.take 20).length = u2) := ⟨by have := HU2.out; simp; omega⟩
          have hX : Hid (Below wr.heap.size wr ((wr.alloc (.cells #[.int .i64 xk, .int .i64 xi, .slice p1 u1 k1, .slice p2 u2 k2] 34)).alloc (.cells #[.int .i64 xk, .int .i64 xi, .slice p1 u1 k1, .slice p2 u2 k2] 34))) := ⟨by go_grown⟩
          have hb2 : Below wr.heap.size wr (wr.alloc (.cells #[.int .i64 xk, .int .i64 xi, .slice p1 u1 k1, .slice p2 u2 k2] 34)) := by go_grown
          have e21 := cellLater hb2 c21
          clear hb2
          go_wp2_with (at_builtin; go_loud (refine wpList_append_lies _ rfl (.tmp 46) (.tmp 48) 23 rfl (z + 3) 34 i0 _ 4 64 Try.underlying23 hi0 hz0 hz1 hz2 rfl (by decide) (.slice gr i rc) i cs rfl (own_later HROW.out.1 hX.out) ⟨wr.heap.size + 1, 0, none⟩ 1 1 [.int .i64 xk, .int .i64 xi, .slice p1 u1 k1, .slice p2 u2 k2] rfl rfl (World.news_of_block (by have q9 := heap_alloc_new (wr.alloc (.cells #[.int .i64 xk, .int .i64 xi, .slice p1 u1 k1, .slice p2 u2 k2] 34)) (.cells #[.int .i64 xk, .int .i64 xi, .slice p1 u1 k1, .slice p2 u2 k2] 34); simpa using q9)) (by simp [Value.oneCell']) (by decide) (by unfold Go.maxLen; omega) (by omega) (by simp; omega) _ rfl ?_; intro gz cz w9 hown hgr hat hlt9; have B9 : Below (z + 3) wr w9 := (hX.out.mono csz).trans (Ky.own (X := fun _ => False) (T := [34]) hgr (own_later HROW.out.1 hX.out) (by decide) (by simp; omega)).bel; have HF9 := Hid.mk (HI.out.1.below B9); obtain ⟨_, _, cc9, cf9, _⟩ := HF9.out.cells; have H9 := Hid.mk hown; clear hown hgr hat hlt9 B9))
          go_roundw
          case rel =>
            refine ⟨i + 1, _, cz, by go_num, by omega, ⟨HF9.out.put _ _ _, _, own_ky H9.out (Kt.set (base := z) (t := 25) HF9.out.b2 (by omega)).ky (by decide) (fun _ _ => id), ?_⟩⟩
            rw [HTK.out, HTD.out]
            have := HROW.out.2.snoc (x := ⟨xk, xi, xns, xks.take 20⟩) HP1.out (HP2.out.take 20)
            rw [HU1.out, HKT.out] at this
            exact this
          case measure => simp [intOf]; omega
  · have hm1 : ¬ ((m : Int) > 60) := by omega
    by_cases hn : 60 < n1
    · have hn1 : (n1 : Int) > 60 := by omega
      go_enter Try.func8, Try.ntmps8
      go_wp2
      have HST := Hid.mk (Fw.start w n1 m 60 cr ca o a)
      have hbase : Hid ((((w.alloc (.cells #[.slice o n1 cr, .slice a m ca] 25)).alloc (.cells #[.slice none 0 0, .slice none 0 0] 25)).alloc (.cells #[.slice o 60 cr, .slice none 0 0] 25)).heap.size = w.heap.size + 3) := ⟨by simp⟩
      generalize ((w.alloc (.cells #[.slice o n1 cr, .slice a m ca] 25)).alloc (.cells #[.slice none 0 0, .slice none 0 0] 25)).alloc (.cells #[.slice o 60 cr, .slice none 0 0] 25) = W at *
      obtain ⟨z, hz⟩ : ∃ z, w.heap.size = z := ⟨_, rfl⟩
      have HZ := Hid.mk hz
      rw [hz] at HST hbase ⊢
      clear hz
      go_loopw [4, 5] (fun cv _ wr => ∃ (i : Nat) (gr : Option Addr) (rc : Nat), cv = .int .i64 i ∧ i ≤ m ∧ Hid (Fw w wr z n1 m 60 cr ca i rc o a gr ∧ ∃ cs, wr.ownsRow (z + 3) 34 4 (.slice gr i rc) i cs ∧ NC w ((fewG g).nd.take i) cs)) (fun cv _ _ => m - (intOf cv).toNat)
      case atStart => exact ⟨0, none, 0, rfl, Nat.zero_le _, ⟨HST.out, [], World.ownsRow_nil _ _ _ _, rfl⟩⟩
      case round =>
        obtain ⟨i, gr, rc, rfl, hi, HI⟩ := hrel
        obtain ⟨c1, c20, c21, cf, csz⟩ := HI.out.1.cells
        by_cases hlt : i < m
        case neg =>
          obtain rfl : m = i := by omega
          have hf1 := Joins.unfrozen_of_block HI.out.1.b1 0
          have hd0 : wr.cell? ⟨z + 1, 0, none⟩ = some (.slice none 0 0) := by rw [Joins.cell_of_block HI.out.1.b1]; rfl
          have hd1 : wr.cell? ⟨z + 1, 1, none⟩ = some (.slice none 0 0) := by rw [Joins.cell_of_block HI.out.1.b1]; rfl
          have hf2 := Joins.unfrozen_of_block HI.out.1.b1 1
          go_wp2
          have f1 := Joins.block_setCell HI.out.1.b1 (i := 0) (.slice o 60 cr)
          have f2 := Joins.block_setCell f1 (i := 1) (.slice gr m rc)
          have KS : Kt z 25 wr ((wr.setCell ⟨z + 1, 0, none⟩ (.slice o 60 cr)).setCell ⟨z + 1, 1, none⟩ (.slice gr m rc)) := (Kt.set HI.out.1.b1 (by omega)).trans (Kt.set f1 (by omega))
          obtain ⟨HF, cs, hr, hc⟩ := HI.out
          have eN : (fewG g).rs.length = 60 := by rw [hL1.out]; omega
          have eM : (fewG g).nd.length = m := by rw [hL2.out]; omega
          have hBel : Below w.heap.size w ((wr.setCell ⟨z + 1, 0, none⟩ (.slice o 60 cr)).setCell ⟨z + 1, 1, none⟩ (.slice gr m rc)) := by rw [HZ.out]; exact HF.bel.trans KS.bel
          refine bodyPost_ret (results_cell_row Try.results8 _ _ (z + 1) 25 _ (0, 0) _ rfl f2 Try.underlying25 rfl size25) rfl ⟨gr, rc, by show _ = Ending.returned (.agg #[.slice o (fewG g).rs.length cr, .slice gr (fewG g).nd.length rc]); rw [eN, eM]; rfl, ⟨(HG.out.rs.later hBel).take 60, ?_⟩, hBel⟩
          have hc' : NC w (fewG g).nd cs := by have h := hc; rwa [List.take_of_length_le (by rw [eM]; exact Nat.le_refl _)] at h
          have hr' : ((wr.setCell ⟨z + 1, 0, none⟩ (.slice o 60 cr)).setCell ⟨z + 1, 1, none⟩ (.slice gr m rc)).ownsRow (z + 3) 34 4 (.slice gr m rc) m cs := own_ky hr KS.ky (by decide) (fun _ _ => id)
          have hr2 : ((wr.setCell ⟨z + 1, 0, none⟩ (.slice o 60 cr)).setCell ⟨z + 1, 1, none⟩ (.slice gr m rc)).ownsRow (z + 3) 34 4 (.slice gr (fewG g).nd.length rc) (fewG g).nd.length cs := by rw [eM]; exact hr'
          exact hc'.nds hBel (by rw [eM]; omega) hr2
        case pos =>
        have hlt' : (i : Int) < m := by omega
        obtain ⟨q, off, p1, k1, p2, k2, rfl, _, _, P1, P2, a0, a1, a2, a3⟩ := HG.out.nd.nd (n := i) (by rw [HM.out]; omega)
        have hbw : Below w.heap.size w wr := by rw [HZ.out]; exact HI.out.1.bel
        have d0 := cellLater hbw a0
        have d1 := cellLater hbw a1
        have d2 := cellLater hbw a2
        have d3 := cellLater hbw a3
        have hc2 := P2.cap
        have hl2 := P2.len
        unfold maxLen at hl2
        have HTK : Hid ((fewG g).nd.take (i + 1) = (fewG g).nd.take i ++ [fewD (nd0 g.nd i)]) := ⟨by
          have h1 : i < (fewG g).nd.length := by rw [hL2.out]; omega
          have h2 : i < g.nd.length := by rw [HM.out]; omega
          rw [List.take_succ_eq_append_getElem h1, nd0_get h2]
          simp [fewG]⟩
        have HP1 := Hid.mk P1
        have HP2 := Hid.mk P2
        have HTD : Hid (fewD (nd0 g.nd i) = ⟨(nd0 g.nd i).k, (nd0 g.nd i).i, (nd0 g.nd i).ns, (nd0 g.nd i).ks.take 20⟩) := ⟨rfl⟩
        clear P1 P2 a0 a1 a2 a3
        generalize fewD (nd0 g.nd i) = Y at *
        generalize nd0 g.nd i = x at *
        obtain ⟨xk, xi, xns, xks⟩ := x
        dsimp only at *
        obtain ⟨u1, h1⟩ : ∃ n, xns.length = n := ⟨_, rfl⟩
        obtain ⟨u2, h2⟩ : ∃ n, xks.length = n := ⟨_, rfl⟩
        rw [h1] at d2
        rw [h2] at d3 hc2 hl2
        have HU1 := Hid.mk h1
        have HU2 := Hid.mk h2
        clear h1 h2
        obtain ⟨cs, hrow, hnc⟩ := HI.out.2
        have HROW := Hid.mk (And.intro hrow hnc)
        clear hrow hnc
        obtain ⟨i0, hi0, hz0, hz1, hz2⟩ := info_parts info34
        by_cases h20 : 20 < u2
        case pos =>
          have h20' : (u2 : Int) > 20 := by omega
          have HKT : Hid ((xks.take 20).length = 20) := ⟨by have := HU2.out; simp; omega⟩
          have hX : Hid (Below wr.heap.size wr ((wr.alloc (.cells #[.int .i64 xk, .int .i64 xi, .slice p1 u1 k1, .slice p2 20 k2] 34)).alloc (.cells #[.int .i64 xk, .int .i64 xi, .slice p1 u1 k1, .slice p2 20 k2] 34))) := ⟨by go_grown⟩
          have hb2 : Below wr.heap.size wr (wr.alloc (.cells #[.int .i64 xk, .int .i64 xi, .slice p1 u1 k1, .slice p2 20 k2] 34)) := by go_grown
          have e21 := cellLater hb2 c21
          clear hb2
          go_wp2_with (at_builtin; go_loud (refine wpList_append_lies _ rfl (.tmp 46) (.tmp 48) 23 rfl (z + 3) 34 i0 _ 4 64 Try.underlying23 hi0 hz0 hz1 hz2 rfl (by decide) (.slice gr i rc) i cs rfl (own_later HROW.out.1 hX.out) ⟨wr.heap.size + 1, 0, none⟩ 1 1 [.int .i64 xk, .int .i64 xi, .slice p1 u1 k1, .slice p2 20 k2] rfl rfl (World.news_of_block (by have q9 := heap_alloc_new (wr.alloc (.cells #[.int .i64 xk, .int .i64 xi, .slice p1 u1 k1, .slice p2 20 k2] 34)) (.cells #[.int .i64 xk, .int .i64 xi, .slice p1 u1 k1, .slice p2 20 k2] 34); simpa using q9)) (by simp [Value.oneCell']) (by decide) (by unfold Go.maxLen; omega) (by omega) (by simp; omega) _ rfl ?_; intro gz cz w9 hown hgr hat hlt9; have B9 : Below (z + 3) wr w9 := (hX.out.mono csz).trans (Ky.own (X := fun _ => False) (T := [34]) hgr (own_later HROW.out.1 hX.out) (by decide) (by simp; omega)).bel; have HF9 := Hid.mk (HI.out.1.below B9); obtain ⟨_, _, cc9, cf9, _⟩ := HF9.out.cells; have H9 := Hid.mk hown; clear hown hgr hat hlt9 B9))
          go_roundw
          case rel =>
            refine ⟨i + 1, _, cz, by go_num, by omega, ⟨HF9.out.put _ _ _, _, own_ky H9.out (Kt.set (base := z) (t := 25) HF9.out.b2 (by omega)).ky (by decide) (fun _ _ => id), ?_⟩⟩
            rw [HTK.out, HTD.out]
            have := HROW.out.2.snoc (x := ⟨xk, xi, xns, xks.take 20⟩) HP1.out (HP2.out.take 20)
            rw [HU1.out, HKT.out] at this
            exact this
          case measure => simp [intOf]; omega
        case neg =>
          have h20' : ¬ ((u2 : Int) > 20) := by omega
          have HKT : Hid ((xks.take 20).length = u2) := ⟨by have := HU2.out; simp; omega⟩
          have hX : Hid (Below wr.heap.size wr ((wr.alloc (.cells #[.int .i64 xk, .int .i64 xi, .slice p1 u1 k1, .slice p2 u2 k2] 34)).alloc (.cells #[.int .i64 xk, .int .i64 xi, .slice p1 u1 k1, .slice p2 u2 k2] 34))) := ⟨by go_grown⟩
          have hb2 : Below wr.heap.size wr (wr.alloc (.cells #[.int .i64 xk, .int .i64 xi, .slice p1 u1 k1, .slice p2 u2 k2] 34)) := by go_grown
          have e21 := cellLater hb2 c21
          clear hb2
          go_wp2_with (at_builtin; go_loud (refine wpList_append_lies _ rfl (.tmp 46) (.tmp 48) 23 rfl (z + 3) 34 i0 _ 4 64 Try.underlying23 hi0 hz0 hz1 hz2 rfl (by decide) (.slice gr i rc) i cs rfl (own_later HROW.out.1 hX.out) ⟨wr.heap.size + 1, 0, none⟩ 1 1 [.int .i64 xk, .int .i64 xi, .slice p1 u1 k1, .slice p2 u2 k2] rfl rfl (World.news_of_block (by have q9 := heap_alloc_new (wr.alloc (.cells #[.int .i64 xk, .int .i64 xi, .slice p1 u1 k1, .slice p2 u2 k2] 34)) (.cells #[.int .i64 xk, .int .i64 xi, .slice p1 u1 k1, .slice p2 u2 k2] 34); simpa using q9)) (by simp [Value.oneCell']) (by decide) (by unfold Go.maxLen; omega) (by omega) (by simp; omega) _ rfl ?_; intro gz cz w9 hown hgr hat hlt9; have B9 : Below (z + 3) wr w9 := (hX.out.mono csz).trans (Ky.own (X := fun _ => False) (T := [34]) hgr (own_later HROW.out.1 hX.out) (by decide) (by simp; omega)).bel; have HF9 := Hid.mk (HI.out.1.below B9); obtain ⟨_, _, cc9, cf9, _⟩ := HF9.out.cells; have H9 := Hid.mk hown; clear hown hgr hat hlt9 B9))
          go_roundw
          case rel =>
            refine ⟨i + 1, _, cz, by go_num, by omega, ⟨HF9.out.put _ _ _, _, own_ky H9.out (Kt.set (base := z) (t := 25) HF9.out.b2 (by omega)).ky (by decide) (fun _ _ => id), ?_⟩⟩
            rw [HTK.out, HTD.out]
            have := HROW.out.2.snoc (x := ⟨xk, xi, xns, xks.take 20⟩) HP1.out (HP2.out.take 20)
            rw [HU1.out, HKT.out] at this
            exact this
          case measure => simp [intOf]; omega
    · have hn1 : ¬ ((n1 : Int) > 60) := by omega
      go_enter Try.func8, Try.ntmps8
      go_wp2
      have HST := Hid.mk (Fw.start w n1 m n1 cr ca o a)
      have hbase : Hid ((((w.alloc (.cells #[.slice o n1 cr, .slice a m ca] 25)).alloc (.cells #[.slice none 0 0, .slice none 0 0] 25)).alloc (.cells #[.slice o n1 cr, .slice none 0 0] 25)).heap.size = w.heap.size + 3) := ⟨by simp⟩
      generalize ((w.alloc (.cells #[.slice o n1 cr, .slice a m ca] 25)).alloc (.cells #[.slice none 0 0, .slice none 0 0] 25)).alloc (.cells #[.slice o n1 cr, .slice none 0 0] 25) = W at *
      obtain ⟨z, hz⟩ : ∃ z, w.heap.size = z := ⟨_, rfl⟩
      have HZ := Hid.mk hz
      rw [hz] at HST hbase ⊢
      clear hz
      go_loopw [4, 5] (fun cv _ wr => ∃ (i : Nat) (gr : Option Addr) (rc : Nat), cv = .int .i64 i ∧ i ≤ m ∧ Hid (Fw w wr z n1 m n1 cr ca i rc o a gr ∧ ∃ cs, wr.ownsRow (z + 3) 34 4 (.slice gr i rc) i cs ∧ NC w ((fewG g).nd.take i) cs)) (fun cv _ _ => m - (intOf cv).toNat)
      case atStart => exact ⟨0, none, 0, rfl, Nat.zero_le _, ⟨HST.out, [], World.ownsRow_nil _ _ _ _, rfl⟩⟩
      case round =>
        obtain ⟨i, gr, rc, rfl, hi, HI⟩ := hrel
        obtain ⟨c1, c20, c21, cf, csz⟩ := HI.out.1.cells
        by_cases hlt : i < m
        case neg =>
          obtain rfl : m = i := by omega
          have hf1 := Joins.unfrozen_of_block HI.out.1.b1 0
          have hd0 : wr.cell? ⟨z + 1, 0, none⟩ = some (.slice none 0 0) := by rw [Joins.cell_of_block HI.out.1.b1]; rfl
          have hd1 : wr.cell? ⟨z + 1, 1, none⟩ = some (.slice none 0 0) := by rw [Joins.cell_of_block HI.out.1.b1]; rfl
          have hf2 := Joins.unfrozen_of_block HI.out.1.b1 1
          go_wp2
          have f1 := Joins.block_setCell HI.out.1.b1 (i := 0) (.slice o n1 cr)
          have f2 := Joins.block_setCell f1 (i := 1) (.slice gr m rc)
          have KS : Kt z 25 wr ((wr.setCell ⟨z + 1, 0, none⟩ (.slice o n1 cr)).setCell ⟨z + 1, 1, none⟩ (.slice gr m rc)) := (Kt.set HI.out.1.b1 (by omega)).trans (Kt.set f1 (by omega))
          obtain ⟨HF, cs, hr, hc⟩ := HI.out
          have eN : (fewG g).rs.length = n1 := by rw [hL1.out]; omega
          have eM : (fewG g).nd.length = m := by rw [hL2.out]; omega
          have hBel : Below w.heap.size w ((wr.setCell ⟨z + 1, 0, none⟩ (.slice o n1 cr)).setCell ⟨z + 1, 1, none⟩ (.slice gr m rc)) := by rw [HZ.out]; exact HF.bel.trans KS.bel
          refine bodyPost_ret (results_cell_row Try.results8 _ _ (z + 1) 25 _ (0, 0) _ rfl f2 Try.underlying25 rfl size25) rfl ⟨gr, rc, by show _ = Ending.returned (.agg #[.slice o (fewG g).rs.length cr, .slice gr (fewG g).nd.length rc]); rw [eN, eM]; rfl, ⟨(HG.out.rs.later hBel).take 60, ?_⟩, hBel⟩
          have hc' : NC w (fewG g).nd cs := by have h := hc; rwa [List.take_of_length_le (by rw [eM]; exact Nat.le_refl _)] at h
          have hr' : ((wr.setCell ⟨z + 1, 0, none⟩ (.slice o n1 cr)).setCell ⟨z + 1, 1, none⟩ (.slice gr m rc)).ownsRow (z + 3) 34 4 (.slice gr m rc) m cs := own_ky hr KS.ky (by decide) (fun _ _ => id)
          have hr2 : ((wr.setCell ⟨z + 1, 0, none⟩ (.slice o n1 cr)).setCell ⟨z + 1, 1, none⟩ (.slice gr m rc)).ownsRow (z + 3) 34 4 (.slice gr (fewG g).nd.length rc) (fewG g).nd.length cs := by rw [eM]; exact hr'
          exact hc'.nds hBel (by rw [eM]; omega) hr2
        case pos =>
        have hlt' : (i : Int) < m := by omega
        obtain ⟨q, off, p1, k1, p2, k2, rfl, _, _, P1, P2, a0, a1, a2, a3⟩ := HG.out.nd.nd (n := i) (by rw [HM.out]; omega)
        have hbw : Below w.heap.size w wr := by rw [HZ.out]; exact HI.out.1.bel
        have d0 := cellLater hbw a0
        have d1 := cellLater hbw a1
        have d2 := cellLater hbw a2
        have d3 := cellLater hbw a3
        have hc2 := P2.cap
        have hl2 := P2.len
        unfold maxLen at hl2
        have HTK : Hid ((fewG g).nd.take (i + 1) = (fewG g).nd.take i ++ [fewD (nd0 g.nd i)]) := ⟨by
          have h1 : i < (fewG g).nd.length := by rw [hL2.out]; omega
          have h2 : i < g.nd.length := by rw [HM.out]; omega
          rw [List.take_succ_eq_append_getElem h1, nd0_get h2]
          simp [fewG]⟩
        have HP1 := Hid.mk P1
        have HP2 := Hid.mk P2
        have HTD : Hid (fewD (nd0 g.nd i) = ⟨(nd0 g.nd i).k, (nd0 g.nd i).i, (nd0 g.nd i).ns, (nd0 g.nd i).ks.take 20⟩) := ⟨rfl⟩
        clear P1 P2 a0 a1 a2 a3
        generalize fewD (nd0 g.nd i) = Y at *
        generalize nd0 g.nd i = x at *
        obtain ⟨xk, xi, xns, xks⟩ := x
        dsimp only at *
        obtain ⟨u1, h1⟩ : ∃ n, xns.length = n := ⟨_, rfl⟩
        obtain ⟨u2, h2⟩ : ∃ n, xks.length = n := ⟨_, rfl⟩
        rw [h1] at d2
        rw [h2] at d3 hc2 hl2
        have HU1 := Hid.mk h1
        have HU2 := Hid.mk h2
        clear h1 h2
        obtain ⟨cs, hrow, hnc⟩ := HI.out.2
        have HROW := Hid.mk (And.intro hrow hnc)
        clear hrow hnc
        obtain ⟨i0, hi0, hz0, hz1, hz2⟩ := info_parts info34
        by_cases h20 : 20 < u2
        case pos =>
          have h20' : (u2 : Int) > 20 := by omega
          have HKT : Hid ((xks.take 20).length = 20) := ⟨by have := HU2.out; simp; omega⟩
          have hX : Hid (Below wr.heap.size wr ((wr.alloc (.cells #[.int .i64 xk, .int .i64 xi, .slice p1 u1 k1, .slice p2 20 k2] 34)).alloc (.cells #[.int .i64 xk, .int .i64 xi, .slice p1 u1 k1, .slice p2 20 k2] 34))) := ⟨by go_grown⟩
          have hb2 : Below wr.heap.size wr (wr.alloc (.cells #[.int .i64 xk, .int .i64 xi, .slice p1 u1 k1, .slice p2 20 k2] 34)) := by go_grown
          have e21 := cellLater hb2 c21
          clear hb2
          go_wp2_with (at_builtin; go_loud (refine wpList_append_lies _ rfl (.tmp 46) (.tmp 48) 23 rfl (z + 3) 34 i0 _ 4 64 Try.underlying23 hi0 hz0 hz1 hz2 rfl (by decide) (.slice gr i rc) i cs rfl (own_later HROW.out.1 hX.out) ⟨wr.heap.size + 1, 0, none⟩ 1 1 [.int .i64 xk, .int .i64 xi, .slice p1 u1 k1, .slice p2 20 k2] rfl rfl (World.news_of_block (by have q9 := heap_alloc_new (wr.alloc (.cells #[.int .i64 xk, .int .i64 xi, .slice p1 u1 k1, .slice p2 20 k2] 34)) (.cells #[.int .i64 xk, .int .i64 xi, .slice p1 u1 k1, .slice p2 20 k2] 34); simpa using q9)) (by simp [Value.oneCell']) (by decide) (by unfold Go.maxLen; omega) (by omega) (by simp; omega) _ rfl ?_; intro gz cz w9 hown hgr hat hlt9; have B9 : Below (z + 3) wr w9 := (hX.out.mono csz).trans (Ky.own (X := fun _ => False) (T := [34]) hgr (own_later HROW.out.1 hX.out) (by decide) (by simp; omega)).bel; have HF9 := Hid.mk (HI.out.1.below B9); obtain ⟨_, _, cc9, cf9, _⟩ := HF9.out.cells; have H9 := Hid.mk hown; clear hown hgr hat hlt9 B9))
          go_roundw
          case rel =>
            refine ⟨i + 1, _, cz, by go_num, by omega, ⟨HF9.out.put _ _ _, _, own_ky H9.out (Kt.set (base := z) (t := 25) HF9.out.b2 (by omega)).ky (by decide) (fun _ _ => id), ?_⟩⟩
            rw [HTK.out, HTD.out]
            have := HROW.out.2.snoc (x := ⟨xk, xi, xns, xks.take 20⟩) HP1.out (HP2.out.take 20)
            rw [HU1.out, HKT.out] at this
            exact this
          case measure => simp [intOf]; omega
        case neg =>
          have h20' : ¬ ((u2 : Int) > 20) := by omega
          have HKT : Hid ((xks.take 20).length = u2) := ⟨by have := HU2.out; simp; omega⟩
          have hX : Hid (Below wr.heap.size wr ((wr.alloc (.cells #[.int .i64 xk, .int .i64 xi, .slice p1 u1 k1, .slice p2 u2 k2] 34)).alloc (.cells #[.int .i64 xk, .int .i64 xi, .slice p1 u1 k1, .slice p2 u2 k2] 34))) := ⟨by go_grown⟩
          have hb2 : Below wr.heap.size wr (wr.alloc (.cells #[.int .i64 xk, .int .i64 xi, .slice p1 u1 k1, .slice p2 u2 k2] 34)) := by go_grown
          have e21 := cellLater hb2 c21
          clear hb2
          go_wp2_with (at_builtin; go_loud (refine wpList_append_lies _ rfl (.tmp 46) (.tmp 48) 23 rfl (z + 3) 34 i0 _ 4 64 Try.underlying23 hi0 hz0 hz1 hz2 rfl (by decide) (.slice gr i rc) i cs rfl (own_later HROW.out.1 hX.out) ⟨wr.heap.size + 1, 0, none⟩ 1 1 [.int .i64 xk, .int .i64 xi, .slice p1 u1 k1, .slice p2 u2 k2] rfl rfl (World.news_of_block (by have q9 := heap_alloc_new (wr.alloc (.cells #[.int .i64 xk, .int .i64 xi, .slice p1 u1 k1, .slice p2 u2 k2] 34)) (.cells #[.int .i64 xk, .int .i64 xi, .slice p1 u1 k1, .slice p2 u2 k2] 34); simpa using q9)) (by simp [Value.oneCell']) (by decide) (by unfold Go.maxLen; omega) (by omega) (by simp; omega) _ rfl ?_; intro gz cz w9 hown hgr hat hlt9; have B9 : Below (z + 3) wr w9 := (hX.out.mono csz).trans (Ky.own (X := fun _ => False) (T := [34]) hgr (own_later HROW.out.1 hX.out) (by decide) (by simp; omega)).bel; have HF9 := Hid.mk (HI.out.1.below B9); obtain ⟨_, _, cc9, cf9, _⟩ := HF9.out.cells; have H9 := Hid.mk hown; clear hown hgr hat hlt9 B9))
          go_roundw
          case rel =>
            refine ⟨i + 1, _, cz, by go_num, by omega, ⟨HF9.out.put _ _ _, _, own_ky H9.out (Kt.set (base := z) (t := 25) HF9.out.b2 (by omega)).ky (by decide) (fun _ _ => id), ?_⟩⟩
            rw [HTK.out, HTD.out]
            have := HROW.out.2.snoc (x := ⟨xk, xi, xns, xks.take 20⟩) HP1.out (HP2.out.take 20)
            rw [HU1.out, HKT.out] at this
            exact this
          case measure => simp [intOf]; omega
end Go.Proofs.Ytncimddgkgclpaa
