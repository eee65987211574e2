/- The document's meet: the walk. -/
import Derived.Test.YtncimddgkgclpaaMee
import Derived.Test.YtncimddgkgclpaaGre
namespace Go.Proofs.Ytncimddgkgclpaa
open Go.RowKit
set_option linter.unusedVariables false
set_option linter.unusedSimpArgs false
set_option maxRecDepth 100000

/-- a node's kids, as places -/
def ksN (g : List Nd) (n : Nat) : List Int := (nd0 g n).ks.map (kn g.length)
theorem ksN_plc (g : List Nd) (n : Nat) : Plc g.length (ksN g n) := fun x hx => by
  obtain ⟨y, _, rfl⟩ := List.mem_map.1 hx
  unfold kn
  split <;> omega
theorem Ms.rowSet {w0 w : World} {lo m sb : Nat} {v : Value} {met : List Nat} (h : Ms w0 w lo m sb v met) (p : Nat) (u : Value) : (w.setCell ⟨sb, p, none⟩ u).ownsRow lo 3 1 v met.length (nts met) := by
  obtain ⟨cs, s1, s2, s3⟩ := h.seen
  have hnb : v.ownBlock ≠ some sb := fun e => by
    rcases h.row.2 with ⟨q, _⟩ | ⟨pb, cap, cur, q, hb, hgg, _⟩
    · subst q; simp [Value.ownBlock] at e
    · subst q
      have e' : pb = sb := Option.some.inj e
      subst e'
      exact ne_kind hgg s1 (by decide) rfl
  exact own_set h.row hnb _ _
set_option maxHeartbeats 8000000 in
theorem meet24 {w0 : World} {lo sb : Nat} {g : Gr} {o a : Option Addr} {cr ca : Nat} (G : Gv w0 g o cr a ca) (hm : g.nd.length ≤ 1000) : ∀ (f : Nat) (met : List Nat) (x : Int) (v : Value) (w : World), Ms w0 w lo g.nd.length sb v met → unm g.nd.length met < f →
    Calls Try.prog 24 #[gv g o cr a ca, .int .i64 x, v, .slice (some ⟨sb, 0, none⟩) g.nd.length g.nd.length] w fun e w' => ∃ v', e = .returned v' ∧ Ms w0 w' lo g.nd.length sb v' (vis (ksN g.nd) f [kn g.nd.length x] met) ∧ Ky w0.heap.size (fun _ => False) [3, 4] w w' := by
  intro f
  induction f with
  | zero => intro met x v w h hf; omega
  | succ f ih =>
  intro met x v w h hf
  have HIH := Hid.mk ih
  clear ih
  have B0 : Below w.heap.size w (w.alloc (.cells #[.slice o g.rs.length cr, .slice a g.nd.length ca] 25)) := by go_grown
  have RE := fun (W : World) => real_any o a g.rs.length cr g.nd.length ca x W
  obtain ⟨y, hy⟩ : ∃ y, kn g.nd.length x = y := ⟨_, rfl⟩
  have hy1 : -1 ≤ kn g.nd.length x ∧ kn g.nd.length x < g.nd.length := by unfold kn; split <;> omega
  rw [hy] at RE hy1 ⊢
  have HG := Hid.mk G
  have HH := Hid.mk h
  have HF := Hid.mk hf
  have hb0 : w0.heap.size ≤ w.heap.size := h.bel.size
  have K0 : Ky w0.heap.size (fun _ => False) [3, 4] w (w.alloc (.cells #[.slice o g.rs.length cr, .slice a g.nd.length ca] 25)) := Ky.later hb0 B0
  have M1 := h.later B0
  have hfin : ∀ {W : World}, Below (w.alloc (.cells #[.slice o g.rs.length cr, .slice a g.nd.length ca] 25)).heap.size (w.alloc (.cells #[.slice o g.rs.length cr, .slice a g.nd.length ca] 25)) W → (¬ newP met y) → Ms w0 W lo g.nd.length sb v (vis (ksN g.nd) (f + 1) [y] met) ∧ Ky w0.heap.size (fun _ => False) [3, 4] w W := fun {W} B hn => by
    rw [vis_no _ hn]
    exact ⟨M1.later B, K0.trans (Ky.later (Nat.le_trans hb0 B0.size) B)⟩
  have HFIN := Hid.mk @hfin
  have HK0 := Hid.mk (And.intro M1 (And.intro K0 B0))
  clear hfin M1 K0 G h hf
  have bx : (w.alloc (.cells #[.slice o g.rs.length cr, .slice a g.nd.length ca] 25)).heap[w.heap.size]? = some (.cells #[.slice o g.rs.length cr, .slice a g.nd.length ca] 25 (0, 0)) := heap_alloc_new _ _
  have HBX := Hid.mk bx
  clear bx B0
  by_cases hneg : y < 0
  · unfold gv
    have hnew : Hid (¬ newP met y) := ⟨fun q => by have := q.1; omega⟩
    go_enter Try.func24, Try.ntmps24
    go_wp2_with (go_at_call 35; refine (RE _).mono ?_; rintro e w1 ⟨rfl, B1⟩)
    go_ret
    obtain ⟨m2, k2⟩ := HFIN.out B1 hnew.out
    exact ⟨v, rfl, m2, k2⟩
  obtain ⟨p, rfl⟩ : ∃ p : Nat, y = p := ⟨y.toNat, by omega⟩
  have hy2 := hy
  have hp : p < g.nd.length := by omega
  cases hpos : pos met p with
  | some i =>
    unfold gv
    have hnew : Hid (¬ newP met p) := ⟨fun q => by have := q.2; rw [show ((p : Int)).toNat = p by omega, hpos] at this; cases this⟩
    have CM : Hid (∀ W, Below (w.alloc (.cells #[.slice o g.rs.length cr, .slice a g.nd.length ca] 25)).heap.size (w.alloc (.cells #[.slice o g.rs.length cr, .slice a g.nd.length ca] 25)) W → W.cell? ⟨sb, p, none⟩ = some (.bool true)) := ⟨fun W B => by
      have := ((HK0.out.1.later B).mark hp).1
      rw [hpos] at this
      exact this⟩
    have hpi : (p : Int) < g.nd.length := by omega
    have hml : g.nd.length ≤ 9223372036854775807 := by omega
    clear hpos
    generalize g.nd.length = m at *
    generalize g.rs.length = n1 at *
    go_enter Try.func24, Try.ntmps24
    go_wp2_with (go_at_call 35; refine (RE _).mono ?_; rintro e w1 ⟨rfl, B1⟩; have cm := CM.out _ B1)
    go_ret
    obtain ⟨m2, k2⟩ := HFIN.out B1 hnew.out
    exact ⟨v, rfl, m2, k2⟩
  | none =>
    have HNEW : Hid (newP met p) := ⟨⟨by omega, by rw [show ((p : Int)).toNat = p by omega]; exact hpos⟩⟩
    obtain ⟨q, off, o1, c1, o2, c2, rfl, hca, _, P1, P2, a0, a1, a2, a3⟩ := HG.out.nd.nd hp
    obtain ⟨ga, pc, ev⟩ := HH.out.form
    subst ev
    obtain ⟨KS, hKS⟩ : ∃ l, (nd0 g.nd p).ks = l := ⟨_, rfl⟩
    have HKN : Hid (ksN g.nd p = KS.map (kn g.nd.length)) := ⟨by rw [← hKS]; rfl⟩
    rw [hKS] at P2 a3
    have hlk := P2.len
    have hck := P2.cap
    unfold maxLen at hlk
    have HP2 := Hid.mk P2
    have HA3 := Hid.mk a3
    have hcn := HH.out.cnt
    have HCN := Hid.mk hcn
    have HPO := Hid.mk hpos
    have HP := Hid.mk hp
    have HDP := Hid.mk (ksN_plc g.nd)
    have HKP : Hid (∀ z, -1 ≤ kn g.nd.length z ∧ kn g.nd.length z < g.nd.length) := ⟨fun z => by unfold kn; split <;> omega⟩
    clear P1 P2 a0 a1 a2 a3 hKS hpos RE
    have RE := fun (W : World) => real_any o (some ⟨q, off, none⟩) g.rs.length cr g.nd.length ca x W
    rw [show kn g.nd.length x = (p : Int) from hy2] at RE
    obtain ⟨k, hk⟩ : ∃ k, met.length = k := ⟨_, rfl⟩
    have HKL := Hid.mk hk
    have CM : Hid (∀ W, Below (w.alloc (.cells #[.slice o g.rs.length cr, .slice (some ⟨q, off, none⟩) g.nd.length ca] 25)).heap.size (w.alloc (.cells #[.slice o g.rs.length cr, .slice (some ⟨q, off, none⟩) g.nd.length ca] 25)) W → W.cell? ⟨sb, p, none⟩ = some (.bool false) ∧ W.frozen? ⟨sb, p, none⟩ = false) := ⟨fun W B => by
      have := (HK0.out.1.later B).mark hp
      rw [HPO.out] at this
      exact this⟩
    unfold gv at *
    rw [hk] at hcn ⊢
    have hpi : (p : Int) < g.nd.length := by omega
    generalize hD : ksN g.nd = D at *
    generalize hKn : kn g.nd.length = KN at *
    generalize g.nd.length = m at *
    generalize g.rs.length = n1 at *
    obtain ⟨n2, hn2⟩ : ∃ n, KS.length = n := ⟨_, rfl⟩
    rw [hn2] at HA3 hlk hck
    have HN2 := Hid.mk hn2
    clear hk hn2 hD hKn
    obtain ⟨i0, hi, hz0, hz1, hz2⟩ := info_parts info3
    go_enter Try.func24, Try.ntmps24
    go_wp2_with (first
      | (go_at_call 35; refine (RE _).mono ?_; rintro e w1 ⟨rfl, B1⟩; obtain ⟨cm, fm⟩ := CM.out _ B1; have H1 := Hid.mk (HK0.out.1.later B1); have HB1 := Hid.mk B1; have Hlo := (HK0.out.1.later B1).lo.2.1; have HR := Hid.mk ((HK0.out.1.later B1).rowSet p (.bool true)))
      | (at_builtin; go_loud (refine wpList_append_lies _ rfl (.tmp 25) (.tmp 27) 22 rfl lo 3 i0 _ 1 8 Try.underlying22 hi hz0 hz1 hz2 rfl (by decide) (.slice ga k pc) k (nts met) rfl (by have q9 := own_later HR.out (Joins.below_alloc1 _ (.cells #[.int .i64 p] 3)); rw [HKL.out] at q9; exact q9) ⟨w1.heap.size, 0, none⟩ 1 1 [.int .i64 p] rfl rfl (World.news_of_block (by have q9 := heap_alloc_new (w1.setCell ⟨sb, p, none⟩ (.bool true)) (.cells #[.int .i64 p] 3); simpa using q9)) (by simp [Value.oneCell']) (by decide) (by unfold Go.maxLen; omega) (by omega) (by simp; omega) _ rfl ?_; intro gz cz w9 hown hgr hat hlt; have H9 := Hid.mk (And.intro hown hgr); clear hown hgr hat hlt)))
    have hcn2 := HCN.out
    obtain ⟨hown, hgr⟩ := H9.out
    have hB9 : Below (w1.setCell ⟨sb, p, none⟩ (.bool true)).heap.size (w1.setCell ⟨sb, p, none⟩ (.bool true)) ((w1.setCell ⟨sb, p, none⟩ (.bool true)).alloc (.cells #[.int .i64 p] 3)) := (Below.refl _ _).alloc (Nat.le_refl _) _
    obtain ⟨M9, K9, hu9⟩ := H1.out.push HP.out HPO.out rfl hB9 (by rw [HKL.out]; exact hown) (by rw [HKL.out]; exact hgr)
    have HX : Hid (Ms w0 w9 lo m sb (.slice (some ⟨gz, 0, none⟩) (k + 1) cz) (met ++ [p]) ∧ Ky w0.heap.size (fun _ => False) [3, 4] (w.alloc (.cells #[.slice o n1 cr, .slice (some ⟨q, off, none⟩) m ca] 25)) w9 ∧ unm m (met ++ [p]) < f) := ⟨M9, (Ky.later (Nat.le_trans HH.out.bel.size (by simp)) HB1.out).trans K9, by have := HF.out; omega⟩
    clear hown hgr hB9 M9 K9 hu9 hcn2 cm fm
    generalize w.alloc (.cells #[.slice o n1 cr, .slice (some ⟨q, off, none⟩) m ca] 25) = W1 at *
    go_loopw [2, 9] (fun mv cv wr => ∃ (i : Nat) (mt : List Nat) (gr : Option Addr) (rl rc : Nat), cv = .int .i64 i ∧ mv = .slice gr rl rc ∧ i ≤ n2 ∧ Hid (Ms w0 wr lo m sb (.slice gr rl rc) mt ∧ Ky w0.heap.size (fun _ => False) [3, 4] W1 wr ∧ vis D f (KS.map KN) (met ++ [p]) = vis D f ((KS.drop i).map KN) mt ∧ unm m mt < f)) (fun _ cv _ => n2 - (intOf cv).toNat)
    case atStart => exact ⟨0, _, _, _, _, rfl, rfl, Nat.zero_le _, ⟨HX.out.1, HX.out.2.1, rfl, HX.out.2.2⟩⟩
    case round =>
      obtain ⟨i, mt, gr, rl, rc, rfl, rfl, hin, HI⟩ := hrel
      have bx := HI.out.2.1.keep _ _ _ _ HBX.out (by decide) id
      have x0 : wr.cell? ⟨w.heap.size, 0, none⟩ = some (.slice o n1 cr) := by rw [Joins.cell_of_block bx]; rfl
      have x1 : wr.cell? ⟨w.heap.size, 1, none⟩ = some (.slice (some ⟨q, off, none⟩) m ca) := by rw [Joins.cell_of_block bx]; rfl
      have x3 := cellLater HI.out.1.bel HA3.out
      have HBW := Hid.mk bx
      clear bx
      by_cases hlt : i < n2
      case neg =>
        obtain rfl : i = n2 := by omega
        go_wp2
        go_ret
        obtain ⟨hM, hK, hV, hU⟩ := HI.out
        rw [← HN2.out, List.drop_length] at hV
        have e : vis D (f + 1) [(p : Int)] met = mt := by
          rw [vis_yes HNEW.out, show ((p : Int)).toNat = p by omega, HKN.out, hV]
          exact vis_nil _ _ _
        exact ⟨_, rfl, by rw [e]; exact hM, HK0.out.2.1.trans hK⟩
      case pos =>
      have hlt' : (i : Int) < n2 := by omega
      have kl : i < KS.length := by rw [HN2.out]; exact hlt
      obtain ⟨g2, f2, rfl, y0⟩ := HP2.out.get i kl
      have y1 := cellLater HI.out.1.bel y0
      have HDR : Hid (KS.drop i = KS[i] :: KS.drop (i + 1)) := ⟨List.drop_eq_getElem_cons kl⟩
      generalize KS[i] = z at *
      have CI := HIH.out mt z (.slice gr rl rc) wr.drew (HI.out.1.later (Below.refl _ _).drew) HI.out.2.2.2
      have HCI := Hid.mk CI
      have HS : Hid (∀ W, Ky w0.heap.size (fun _ => False) [3, 4] wr.drew W → W.cell? ⟨w.heap.size, 0, none⟩ = some (.slice o n1 cr) ∧ W.cell? ⟨w.heap.size, 1, none⟩ = some (.slice (some ⟨q, off, none⟩) m ca) ∧ W.cell? ⟨q, off + p * 4 + 3, none⟩ = some (.slice (some ⟨g2, f2, none⟩) n2 c2) ∧ W.cell? ⟨g2, f2 + i, none⟩ = some (.int .i64 z)) := ⟨fun W K => by
        have b5 := K.keep _ _ _ _ (show wr.drew.heap[w.heap.size]? = _ from HBW.out) (by decide) id
        have bb := (HI.out.1.bel.drew).trans K.bel
        exact ⟨by rw [Joins.cell_of_block b5]; rfl, by rw [Joins.cell_of_block b5]; rfl, cellLater bb HA3.out, cellLater bb y0⟩⟩
      clear CI y0
      go_wp2
      go_region_held3 (fun W' => W'.cell? ⟨w.heap.size, 0, none⟩ = some (.slice o n1 cr) ∧ W'.cell? ⟨w.heap.size, 1, none⟩ = some (.slice (some ⟨q, off, none⟩) m ca) ∧ W'.cell? ⟨q, off + p * 4 + 3, none⟩ = some (.slice (some ⟨g2, f2, none⟩) n2 c2) ∧ W'.cell? ⟨g2, f2 + i, none⟩ = some (.int .i64 z)) (go_keep) (first
        | (go_at_call 24; with_reducible refine HCI.out.mono ?_; rintro e w5 ⟨v5, rfl, M5, K5⟩; have H5 := Hid.mk (And.intro M5 K5); obtain ⟨s0, s1, s2, s3⟩ := HS.out _ K5; clear M5 K5))
      obtain ⟨gv5, gc5, ev5⟩ := H5.out.1.form
      subst ev5
      go_wp2
      go_roundw
      case rel =>
        obtain ⟨hM, hK, hV, hU⟩ := HI.out
        have hz : Plc m [KN z] := fun t ht => by
          have : t = KN z := by simpa using ht
          subst this
          exact HKP.out z
        refine ⟨i + 1, _, gv5, _, gc5, by go_num, rfl, by omega, ⟨H5.out.1, (hK.trans (Ky.later hM.bel.size (Below.refl _ _).drew)).trans H5.out.2, ?_, Nat.lt_of_le_of_lt (vis_less HDP.out f _ _ hz) hU⟩⟩
        rw [hV, HDR.out, List.map_cons]
        exact vis_cons _ _ _ _
      case measure => simp [intOf]; omega
end Go.Proofs.Ytncimddgkgclpaa
