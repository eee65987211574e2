/- turned. -/
import Derived.Test.YtncimddgkgclpaaMtj
namespace Go.Proofs.Ytncimddgkgclpaa
open Go.RowKit
set_option linter.unusedVariables false
set_option linter.unusedSimpArgs false
set_option maxRecDepth 100000

theorem vis_len {D : Nat → List Int} {m : Nat} (hD : ∀ n, Plc m (D n)) : ∀ (f : Nat) (l : List Int) (met : List Nat), Plc m l → met.length + unm m met ≤ m → (vis D f l met).length + unm m (vis D f l met) ≤ m
  | 0, _, met, _, h => by simpa [vis] using h
  | f + 1, [], met, _, h => by simpa [vis] using h
  | f + 1, x :: l, met, hl, h => by
    have hl' : Plc m l := fun y hy => hl y (List.mem_cons_of_mem _ hy)
    unfold vis
    split
    · rename_i q
      have hx := hl x (by simp)
      have h2 := unm_app (m := m) (p := x.toNat) (by have := q.1; omega) q.2
      exact vis_len hD (f + 1) l _ hl' (vis_len hD f (D x.toNat) (met ++ [x.toNat]) (hD _) (by rw [List.length_append]; have : [x.toNat].length = 1 := rfl; omega))
    · exact vis_len hD (f + 1) l met hl' h
termination_by f l => (f, l.length)
/-- a node with its kids turned -/
def trD (tf : Int → Int) (g : List Nd) (n : Nat) : Nd := ⟨(nd0 g n).k, (nd0 g n).i, (nd0 g n).ns, (nd0 g n).ks.map tf⟩
/-- what is met, each root and each kid being turned -/
def trV (tf : Int → Int) (g : Gr) : List Nat := vis (fun n => (trD tf g.nd n).ks) (g.nd.length + 1) (g.rs.map tf) []
/-- the graph that is met -/
def trG (tf : Int → Int) (g : Gr) : Gr := ⟨(g.rs.map tf).map (numI (trV tf g)), (trV tf g).map fun n => numD (trV tf g) (trD tf g.nd n)⟩
/-- how great a graph may be -/
structure Sm (g : Gr) : Prop where
  nd : g.nd.length ≤ 1000
  rs : g.rs.length ≤ 1000000
  ks : ∀ n, (nd0 g.nd n).ks.length ≤ 1000000
  ns : ∀ n, (nd0 g.nd n).ns.length * 8 ≤ 140737488355328
/-- a graph of one's own -/
def Gb (w : World) (g : Gr) (o : Option Addr) (c : Nat) (a : Option Addr) (ca : Nat) : Prop :=
  ∃ lo X cs, Fs lo X w .i64 3 o c g.rs ∧ w.ownsRow lo 34 4 (.slice a g.nd.length ca) g.nd.length cs ∧ NL lo X w g.nd cs ∧ g.nd.length ≤ 1000000
theorem Gb.gv {w : World} {g : Gr} {o a : Option Addr} {c ca : Nat} (h : Gb w g o c a ca) : Gv w g o c a ca := by
  obtain ⟨lo, X, cs, f, r, n, hl⟩ := h
  exact ⟨f.ps, n.nds r hl⟩
theorem Gb.ky {w w' : World} {g : Gr} {o a : Option Addr} {c ca base : Nat} {T : List Nat} (h : Gb w g o c a ca) (K : Ky base (fun _ => False) T w w') (h1 : 3 ∉ T) (h2 : 34 ∉ T) (h3 : 40 ∉ T) : Gb w' g o c a ca := by
  obtain ⟨lo, X, cs, f, r, n, hl⟩ := h
  exact ⟨lo, X, cs, f.ky K.any h1, own_ky r K h2 (fun _ _ => id), n.map (fun q => q.ky K.any h3) (fun q => q.ky K.any h1), hl⟩
theorem Gb.later {w w' : World} {g : Gr} {o a : Option Addr} {c ca : Nat} (h : Gb w g o c a ca) (B : Below w.heap.size w w') : Gb w' g o c a ca := h.ky (T := []) (Ky.later (Nat.le_refl _) B) (by simp) (by simp) (by simp)
theorem Fs.gv {lo : Nat} {X : Nat → Prop} {w : World} {rs : List Int} {l : List Nd} {o : Option Addr} {c : Nat} {cs : List Value} {nv : Value} (f : Fs lo X w .i64 3 o c rs) (r : w.ownsRow lo 34 4 nv l.length cs) (n : NL lo X w l cs) (hl : l.length ≤ 1000000) : ∃ a ca, nv = .slice a l.length ca ∧ Gb w ⟨rs, l⟩ o c a ca := by
  have h := n.nds r hl
  obtain ⟨a, ca, rfl, _⟩ := h
  exact ⟨a, ca, rfl, lo, X, cs, f, r, n, hl⟩

set_option maxHeartbeats 8000000 in
theorem turned21S {w0 w : World} {X : Nat → Prop} {J : World → Prop} {tf : Int → Int} {zb : Nat} (T : TnS w0 X J tf zb) (hJ : J w) (g : Gr) (o a : Option Addr) (cr ca : Nat) (G : Gv w0 g o cr a ca) (sm : Sm g)
    (hX : ∀ k, X k → k < w.heap.size) (htf : ∀ n, -1 ≤ tf n ∧ tf n < g.nd.length) :
    Calls Try.prog 21 #[gv g o cr a ca, .func (.func 27) #[pt zb] #[]] w fun e w' => ∃ o1 c1 a1 ca1, e = .returned (gv (trG tf g) o1 c1 a1 ca1) ∧ Gb w' (trG tf g) o1 c1 a1 ca1 ∧ Ky w0.heap.size X [67, 34, 22, 71] w w' := by
  have hb0 := (T.bel w hJ).size
  obtain ⟨W4, hW4⟩ : ∃ W4, W4 = (((w.alloc (.cells #[.slice o g.rs.length cr, .slice a g.nd.length ca] 25)).alloc (.cells #[.func (.func 27) #[pt zb] #[]] 44)).alloc (.cells #[.slice none 0 0, .slice none 0 0] 25)).alloc (.cells #[.func (.func 36) #[] #[pt (w.heap.size + 1)]] 31) := ⟨_, rfl⟩
  have B4 : Below w.heap.size w W4 := by rw [hW4]; go_grown
  have s4 : W4.heap.size = w.heap.size + 4 := by rw [hW4]; simp
  have y0 : W4.heap[w.heap.size]? = some (.cells #[.slice o g.rs.length cr, .slice a g.nd.length ca] 25 (0, 0)) := by
    rw [hW4]
    exact (Below.heap_alloc _ _ _ (by simp <;> omega)).trans ((Below.heap_alloc _ _ _ (by simp <;> omega)).trans ((Below.heap_alloc _ _ _ (by simp)).trans (heap_alloc_new _ _)))
  have y1 : W4.heap[w.heap.size + 1]? = some (.cells #[.func (.func 27) #[pt zb] #[]] 44 (0, 0)) := by
    rw [hW4]
    have := heap_alloc_new (w.alloc (.cells #[.slice o g.rs.length cr, .slice a g.nd.length ca] 25)) (.cells #[.func (.func 27) #[pt zb] #[]] 44)
    have e : (w.alloc (.cells #[.slice o g.rs.length cr, .slice a g.nd.length ca] 25)).heap.size = w.heap.size + 1 := by simp
    rw [e] at this
    exact (Below.heap_alloc _ _ _ (by simp <;> omega)).trans ((Below.heap_alloc _ _ _ (by simp)).trans this)
  have y2 : W4.heap[w.heap.size + 1 + 1]? = some (.cells #[.slice none 0 0, .slice none 0 0] 25 (0, 0)) := by
    rw [hW4]
    have := heap_alloc_new ((w.alloc (.cells #[.slice o g.rs.length cr, .slice a g.nd.length ca] 25)).alloc (.cells #[.func (.func 27) #[pt zb] #[]] 44)) (.cells #[.slice none 0 0, .slice none 0 0] 25)
    have e : ((w.alloc (.cells #[.slice o g.rs.length cr, .slice a g.nd.length ca] 25)).alloc (.cells #[.func (.func 27) #[pt zb] #[]] 44)).heap.size = w.heap.size + 2 := by simp
    rw [e] at this
    exact (Below.heap_alloc _ _ _ (by simp)).trans this
  have y3 : W4.heap[w.heap.size + 1 + 1 + 1]? = some (.cells #[.func (.func 36) #[] #[pt (w.heap.size + 1)]] 31 (0, 0)) := by
    rw [hW4]
    have := heap_alloc_new (((w.alloc (.cells #[.slice o g.rs.length cr, .slice a g.nd.length ca] 25)).alloc (.cells #[.func (.func 27) #[pt zb] #[]] 44)).alloc (.cells #[.slice none 0 0, .slice none 0 0] 25)) (.cells #[.func (.func 36) #[] #[pt (w.heap.size + 1)]] 31)
    simpa using this
  have nX : ∀ k, w.heap.size ≤ k → ¬ X k := fun k h q => by have := hX k q; omega
  have C4 : CpS W4 X w.heap.size (w.heap.size + 1 + 1 + 1) (w.heap.size + 1) zb o a g.rs.length cr g.nd.length ca := ⟨y0, y3, y1, nX _ (Nat.le_refl _), nX _ (by omega), nX _ (by omega)⟩
  have J4 := T.keep _ _ hJ (Ky.later hb0 B4)
  have hX4 : ∀ k, X k → k < W4.heap.size := fun k q => Nat.lt_of_lt_of_le (hX k q) B4.size
  have CA := all36S (lo := W4.heap.size) T J4 g.rs o cr G.rs (w.heap.size + 1) y1 (nX _ (by omega)) (Nat.le_refl _) hX4 sm.rs
  have LK : Lk w0.heap.size W4.heap.size X (fun W => J W ∧ CpS W X w.heap.size (w.heap.size + 1 + 1 + 1) (w.heap.size + 1) zb o a g.rs.length cr g.nd.length ca) (trD tf g.nd) g.nd.length w.heap.size (w.heap.size + 1 + 1 + 1) :=
    ⟨fun W hW hs n hn => by
      refine (look38S (lo := W4.heap.size) T hW.1 hW.2 G.nd hs (fun k q => Nat.lt_of_lt_of_le (hX4 k q) hs) hn (sm.ns n) (sm.ks n)).mono ?_
      rintro e w' ⟨⟨o1, c1, o2, c2, rfl, F1, F2⟩, J1, K1⟩
      exact ⟨⟨o1, c1, o2, c2, by simp [trD], F1, F2⟩, ⟨J1, hW.2.kx K1⟩, K1⟩,
    fun W W' hW K => ⟨T.keep _ _ hW.1 K, hW.2.ky K.any (by decide) (by decide) (by decide)⟩, by omega⟩
  have hpl : ∀ l : List Int, Plc g.nd.length (l.map tf) := fun l x hx => by
    obtain ⟨y, _, rfl⟩ := List.mem_map.1 hx
    exact htf y
  have hVl : (trV tf g).length ≤ 1000 := by
    have := vis_len (D := fun n => (trD tf g.nd n).ks) (m := g.nd.length) (fun n => hpl _) (g.nd.length + 1) (g.rs.map tf) [] (hpl _) (by rw [List.length_nil, Nat.zero_add]; exact cnt_max _ _)
    have h2 := sm.nd
    unfold trV
    omega
  have CM := fun (W : World) (hW : J W ∧ CpS W X w.heap.size (w.heap.size + 1 + 1 + 1) (w.heap.size + 1) zb o a g.rs.length cr g.nd.length ca) (hs : W4.heap.size ≤ W.heap.size) (o0 : Option Addr) (c0 : Nat) (F : Fs W4.heap.size X W .i64 3 o0 c0 (g.rs.map tf)) =>
    meetAll37 LK hW hs hX4 sm.nd (g.rs.map tf) o0 c0 F (hpl _) (by rw [List.length_map]; exact sm.rs) (fun n => hpl _) (fun n => by simp [trD]; exact sm.ks n) (trV tf g) rfl hVl
  have hfin : Hid (∀ W o1 c1 nv, Fs W4.heap.size X W .i64 3 o1 c1 ((g.rs.map tf).map (numI (trV tf g))) → (∃ cs, W.ownsRow W4.heap.size 34 4 nv (trV tf g).length cs ∧ NL W4.heap.size X W ((trV tf g).map fun n => numD (trV tf g) (trD tf g.nd n)) cs) → ∃ a1 ca1, nv = .slice a1 (trG tf g).nd.length ca1 ∧ Gb W (trG tf g) o1 c1 a1 ca1) := ⟨fun W o1 c1 nv f ⟨cs, r, n⟩ => by
    have hl : ((trV tf g).map fun n => numD (trV tf g) (trD tf g.nd n)).length = (trV tf g).length := by simp
    rw [← hl] at r
    exact Fs.gv f r n (by have q : (trG tf g).nd.length = (trV tf g).length := (by simp [trG]); omega)⟩
  have hrl : Hid ((trG tf g).rs.length = g.rs.length) := ⟨by simp [trG]⟩
  unfold gv
  obtain ⟨n1, e1⟩ : ∃ n, g.rs.length = n := ⟨_, rfl⟩
  obtain ⟨n2, e2⟩ : ∃ n, g.nd.length = n := ⟨_, rfl⟩
  have HJ4 := Hid.mk (And.intro J4 C4)
  have HN := Hid.mk (And.intro y2 (And.intro B4 (And.intro s4 hb0)))
  have H0 : Hid (∀ k, w.heap.size ≤ k → ¬ X k) := ⟨nX⟩
  rw [List.length_map] at CM
  rw [e1] at CA CM HJ4 hW4 hrl ⊢
  rw [e2] at hW4 ⊢
  have HCA := Hid.mk CA
  have HCM := Hid.mk CM
  subst hW4
  clear B4 s4 y0 y1 y2 y3 nX C4 J4 hX4 CA LK hpl hVl CM e1 e2 T hJ hX htf sm G
  go_enter Try.func21, Try.ntmps21
  go_wp2_with (first | (go_at_call 36; refine HCA.out.mono ?_; clear HCA; rintro e w5 ⟨⟨g5, rfl, F5⟩, J5, K5⟩; have H5 := Hid.mk (And.intro F5 (And.intro J5 K5)); clear F5 J5 K5) | (go_at_call 37; go_loud (refine (HCM.out _ ⟨H5.out.2.1, HJ4.out.2.kx H5.out.2.2⟩ H5.out.2.2.bel.size _ _ H5.out.1).mono ?_); clear HCM; rintro e w6 ⟨o6, c6, nv6, rfl, F6, N6, B6⟩; obtain ⟨a6, ca6, rfl, G6⟩ := hfin.out w6 o6 c6 nv6 F6 N6; have H6 := Hid.mk (And.intro F6 (And.intro N6 B6)); clear G6; have hb6 := B6.keep _ _ _ _ (H5.out.2.2.keep _ _ HN.out.1 (H0.out _ (by omega)) (fun c f e => by cases e)) (by decide) (H0.out _ (by omega)); have b60 : w6.cell? ⟨w.heap.size + 1 + 1, 0, none⟩ = some (.slice none 0 0) := (by rw [Joins.cell_of_block hb6]; rfl); have b61 : w6.cell? ⟨w.heap.size + 1 + 1, 1, none⟩ = some (.slice none 0 0) := (by rw [Joins.cell_of_block hb6]; rfl); have z60 := Joins.unfrozen_of_block hb6 0; have z61 := Joins.unfrozen_of_block hb6 1; have l6 := (Array.getElem?_eq_some_iff.1 hb6).1; have Hb6 := Hid.mk hb6; clear F6 N6 B6 hb6))
  have f1 := Joins.block_setCell Hb6.out (i := 0) (.slice o6 n1 c6)
  have f2 := Joins.block_setCell f1 (i := 1) (.slice a6 (trG tf g).nd.length ca6)
  have f3 := (Below.heap_alloc ((w6.setCell ⟨w.heap.size + 1 + 1, 0, none⟩ (.slice o6 n1 c6)).setCell ⟨w.heap.size + 1 + 1, 1, none⟩ (.slice a6 (trG tf g).nd.length ca6)) (.cells #[.slice o6 n1 c6, .slice a6 (trG tf g).nd.length ca6] 25) _ (Array.getElem?_eq_some_iff.1 f2).1).trans f2
  have br : w0.heap.size ≤ w.heap.size + 1 + 1 := by omega
  have KS : Kt w0.heap.size 25 w6 ((w6.setCell ⟨w.heap.size + 1 + 1, 0, none⟩ (.slice o6 n1 c6)).setCell ⟨w.heap.size + 1 + 1, 1, none⟩ (.slice a6 (trG tf g).nd.length ca6)) := (Kt.set Hb6.out br).trans (Kt.set f1 br)
  have KF := KS.ky.trans (Ky.later (X := fun _ => False) (T := [25]) (Nat.le_trans (by omega) KS.bel.size) (Joins.below_alloc1 _ (.cells #[.slice o6 n1 c6, .slice a6 (trG tf g).nd.length ca6] 25)))
  obtain ⟨F6, ⟨cs, r6, n6⟩, B6⟩ := H6.out
  obtain ⟨a7, ca7, e7, G7⟩ := hfin.out _ _ _ _ (F6.ky KF.any (by decide)) ⟨cs, own_ky r6 KF (by decide) (fun _ _ => id), n6.map (fun q => q.ky KF.any (by decide)) (fun q => q.ky KF.any (by decide))⟩
  simp only [Value.slice.injEq] at e7
  obtain ⟨rfl, _, rfl⟩ := e7
  refine bodyPost_ret (results_cell_row Try.results21 _ _ (w.heap.size + 1 + 1) 25 _ (0, 0) _ rfl f3 Try.underlying25 rfl size25) rfl ⟨o6, c6, a6, ca6, by rw [hrl.out]; rfl, G7, ?_⟩
  have KW := (Ky.later (X := X) (T := [67, 34, 22, 71]) hb0 HN.out.2.1).trans ((H5.out.2.2.ky (T := [67, 34, 22, 71]) (by simp)).trans B6)
  refine ⟨KW.bel.trans KF.bel, fun q c t f h1 h2 h3 => ?_⟩
  have hq := (Array.getElem?_eq_some_iff.1 h1).1
  have hq2 : q ≠ w.heap.size + 1 + 1 := by omega
  have q6 := KW.keep q c t f h1 h2 h3
  exact (Below.heap_alloc _ _ _ (by have := (Array.getElem?_eq_some_iff.1 q6).1; simp; omega)).trans (((Below.heap_setCell _ _ _ _ hq2).trans (Below.heap_setCell _ _ _ _ hq2)).trans q6)

set_option maxHeartbeats 8000000 in
theorem turned21N {w0 w : World} {X : Nat → Prop} {J : World → Prop} {tf : Int → Int} {zb : Nat} (T : TnN w0 X J tf zb) (hJ : J w) (g : Gr) (o a : Option Addr) (cr ca : Nat) (G : Gv w0 g o cr a ca) (sm : Sm g)
    (hX : ∀ k, X k → k < w.heap.size) (htf : ∀ n, -1 ≤ tf n ∧ tf n < g.nd.length) :
    Calls Try.prog 21 #[gv g o cr a ca, .func (.func 22) #[] #[pt zb]] w fun e w' => ∃ o1 c1 a1 ca1, e = .returned (gv (trG tf g) o1 c1 a1 ca1) ∧ Gb w' (trG tf g) o1 c1 a1 ca1 ∧ Ky w0.heap.size X [67, 34, 22, 71] w w' := by
  have hb0 := (T.bel w hJ).size
  obtain ⟨W4, hW4⟩ : ∃ W4, W4 = (((w.alloc (.cells #[.slice o g.rs.length cr, .slice a g.nd.length ca] 25)).alloc (.cells #[.func (.func 22) #[] #[pt zb]] 44)).alloc (.cells #[.slice none 0 0, .slice none 0 0] 25)).alloc (.cells #[.func (.func 36) #[] #[pt (w.heap.size + 1)]] 31) := ⟨_, rfl⟩
  have B4 : Below w.heap.size w W4 := by rw [hW4]; go_grown
  have s4 : W4.heap.size = w.heap.size + 4 := by rw [hW4]; simp
  have y0 : W4.heap[w.heap.size]? = some (.cells #[.slice o g.rs.length cr, .slice a g.nd.length ca] 25 (0, 0)) := by
    rw [hW4]
    exact (Below.heap_alloc _ _ _ (by simp <;> omega)).trans ((Below.heap_alloc _ _ _ (by simp <;> omega)).trans ((Below.heap_alloc _ _ _ (by simp)).trans (heap_alloc_new _ _)))
  have y1 : W4.heap[w.heap.size + 1]? = some (.cells #[.func (.func 22) #[] #[pt zb]] 44 (0, 0)) := by
    rw [hW4]
    have := heap_alloc_new (w.alloc (.cells #[.slice o g.rs.length cr, .slice a g.nd.length ca] 25)) (.cells #[.func (.func 22) #[] #[pt zb]] 44)
    have e : (w.alloc (.cells #[.slice o g.rs.length cr, .slice a g.nd.length ca] 25)).heap.size = w.heap.size + 1 := by simp
    rw [e] at this
    exact (Below.heap_alloc _ _ _ (by simp <;> omega)).trans ((Below.heap_alloc _ _ _ (by simp)).trans this)
  have y2 : W4.heap[w.heap.size + 1 + 1]? = some (.cells #[.slice none 0 0, .slice none 0 0] 25 (0, 0)) := by
    rw [hW4]
    have := heap_alloc_new ((w.alloc (.cells #[.slice o g.rs.length cr, .slice a g.nd.length ca] 25)).alloc (.cells #[.func (.func 22) #[] #[pt zb]] 44)) (.cells #[.slice none 0 0, .slice none 0 0] 25)
    have e : ((w.alloc (.cells #[.slice o g.rs.length cr, .slice a g.nd.length ca] 25)).alloc (.cells #[.func (.func 22) #[] #[pt zb]] 44)).heap.size = w.heap.size + 2 := by simp
    rw [e] at this
    exact (Below.heap_alloc _ _ _ (by simp)).trans this
  have y3 : W4.heap[w.heap.size + 1 + 1 + 1]? = some (.cells #[.func (.func 36) #[] #[pt (w.heap.size + 1)]] 31 (0, 0)) := by
    rw [hW4]
    have := heap_alloc_new (((w.alloc (.cells #[.slice o g.rs.length cr, .slice a g.nd.length ca] 25)).alloc (.cells #[.func (.func 22) #[] #[pt zb]] 44)).alloc (.cells #[.slice none 0 0, .slice none 0 0] 25)) (.cells #[.func (.func 36) #[] #[pt (w.heap.size + 1)]] 31)
    simpa using this
  have nX : ∀ k, w.heap.size ≤ k → ¬ X k := fun k h q => by have := hX k q; omega
  have C4 : CpN W4 X w.heap.size (w.heap.size + 1 + 1 + 1) (w.heap.size + 1) zb o a g.rs.length cr g.nd.length ca := ⟨y0, y3, y1, nX _ (Nat.le_refl _), nX _ (by omega), nX _ (by omega)⟩
  have J4 := T.keep _ _ hJ (Ky.later hb0 B4)
  have hX4 : ∀ k, X k → k < W4.heap.size := fun k q => Nat.lt_of_lt_of_le (hX k q) B4.size
  have CA := all36N (lo := W4.heap.size) T J4 g.rs o cr G.rs (w.heap.size + 1) y1 (nX _ (by omega)) (Nat.le_refl _) hX4 sm.rs
  have LK : Lk w0.heap.size W4.heap.size X (fun W => J W ∧ CpN W X w.heap.size (w.heap.size + 1 + 1 + 1) (w.heap.size + 1) zb o a g.rs.length cr g.nd.length ca) (trD tf g.nd) g.nd.length w.heap.size (w.heap.size + 1 + 1 + 1) :=
    ⟨fun W hW hs n hn => by
      refine (look38N (lo := W4.heap.size) T hW.1 hW.2 G.nd hs (fun k q => Nat.lt_of_lt_of_le (hX4 k q) hs) hn (sm.ns n) (sm.ks n)).mono ?_
      rintro e w' ⟨⟨o1, c1, o2, c2, rfl, F1, F2⟩, J1, K1⟩
      exact ⟨⟨o1, c1, o2, c2, by simp [trD], F1, F2⟩, ⟨J1, hW.2.kx K1⟩, K1⟩,
    fun W W' hW K => ⟨T.keep _ _ hW.1 K, hW.2.ky K.any (by decide) (by decide) (by decide)⟩, by omega⟩
  have hpl : ∀ l : List Int, Plc g.nd.length (l.map tf) := fun l x hx => by
    obtain ⟨y, _, rfl⟩ := List.mem_map.1 hx
    exact htf y
  have hVl : (trV tf g).length ≤ 1000 := by
    have := vis_len (D := fun n => (trD tf g.nd n).ks) (m := g.nd.length) (fun n => hpl _) (g.nd.length + 1) (g.rs.map tf) [] (hpl _) (by rw [List.length_nil, Nat.zero_add]; exact cnt_max _ _)
    have h2 := sm.nd
    unfold trV
    omega
  have CM := fun (W : World) (hW : J W ∧ CpN W X w.heap.size (w.heap.size + 1 + 1 + 1) (w.heap.size + 1) zb o a g.rs.length cr g.nd.length ca) (hs : W4.heap.size ≤ W.heap.size) (o0 : Option Addr) (c0 : Nat) (F : Fs W4.heap.size X W .i64 3 o0 c0 (g.rs.map tf)) =>
    meetAll37 LK hW hs hX4 sm.nd (g.rs.map tf) o0 c0 F (hpl _) (by rw [List.length_map]; exact sm.rs) (fun n => hpl _) (fun n => by simp [trD]; exact sm.ks n) (trV tf g) rfl hVl
  have hfin : Hid (∀ W o1 c1 nv, Fs W4.heap.size X W .i64 3 o1 c1 ((g.rs.map tf).map (numI (trV tf g))) → (∃ cs, W.ownsRow W4.heap.size 34 4 nv (trV tf g).length cs ∧ NL W4.heap.size X W ((trV tf g).map fun n => numD (trV tf g) (trD tf g.nd n)) cs) → ∃ a1 ca1, nv = .slice a1 (trG tf g).nd.length ca1 ∧ Gb W (trG tf g) o1 c1 a1 ca1) := ⟨fun W o1 c1 nv f ⟨cs, r, n⟩ => by
    have hl : ((trV tf g).map fun n => numD (trV tf g) (trD tf g.nd n)).length = (trV tf g).length := by simp
    rw [← hl] at r
    exact Fs.gv f r n (by have q : (trG tf g).nd.length = (trV tf g).length := (by simp [trG]); omega)⟩
  have hrl : Hid ((trG tf g).rs.length = g.rs.length) := ⟨by simp [trG]⟩
  unfold gv
  obtain ⟨n1, e1⟩ : ∃ n, g.rs.length = n := ⟨_, rfl⟩
  obtain ⟨n2, e2⟩ : ∃ n, g.nd.length = n := ⟨_, rfl⟩
  have HJ4 := Hid.mk (And.intro J4 C4)
  have HN := Hid.mk (And.intro y2 (And.intro B4 (And.intro s4 hb0)))
  have H0 : Hid (∀ k, w.heap.size ≤ k → ¬ X k) := ⟨nX⟩
  rw [List.length_map] at CM
  rw [e1] at CA CM HJ4 hW4 hrl ⊢
  rw [e2] at hW4 ⊢
  have HCA := Hid.mk CA
  have HCM := Hid.mk CM
  subst hW4
  clear B4 s4 y0 y1 y2 y3 nX C4 J4 hX4 CA LK hpl hVl CM e1 e2 T hJ hX htf sm G
  go_enter Try.func21, Try.ntmps21
  go_wp2_with (first | (go_at_call 36; refine HCA.out.mono ?_; clear HCA; rintro e w5 ⟨⟨g5, rfl, F5⟩, J5, K5⟩; have H5 := Hid.mk (And.intro F5 (And.intro J5 K5)); clear F5 J5 K5) | (go_at_call 37; go_loud (refine (HCM.out _ ⟨H5.out.2.1, HJ4.out.2.kx H5.out.2.2⟩ H5.out.2.2.bel.size _ _ H5.out.1).mono ?_); clear HCM; rintro e w6 ⟨o6, c6, nv6, rfl, F6, N6, B6⟩; obtain ⟨a6, ca6, rfl, G6⟩ := hfin.out w6 o6 c6 nv6 F6 N6; have H6 := Hid.mk (And.intro F6 (And.intro N6 B6)); clear G6; have hb6 := B6.keep _ _ _ _ (H5.out.2.2.keep _ _ HN.out.1 (H0.out _ (by omega)) (fun c f e => by cases e)) (by decide) (H0.out _ (by omega)); have b60 : w6.cell? ⟨w.heap.size + 1 + 1, 0, none⟩ = some (.slice none 0 0) := (by rw [Joins.cell_of_block hb6]; rfl); have b61 : w6.cell? ⟨w.heap.size + 1 + 1, 1, none⟩ = some (.slice none 0 0) := (by rw [Joins.cell_of_block hb6]; rfl); have z60 := Joins.unfrozen_of_block hb6 0; have z61 := Joins.unfrozen_of_block hb6 1; have l6 := (Array.getElem?_eq_some_iff.1 hb6).1; have Hb6 := Hid.mk hb6; clear F6 N6 B6 hb6))
  have f1 := Joins.block_setCell Hb6.out (i := 0) (.slice o6 n1 c6)
  have f2 := Joins.block_setCell f1 (i := 1) (.slice a6 (trG tf g).nd.length ca6)
  have f3 := (Below.heap_alloc ((w6.setCell ⟨w.heap.size + 1 + 1, 0, none⟩ (.slice o6 n1 c6)).setCell ⟨w.heap.size + 1 + 1, 1, none⟩ (.slice a6 (trG tf g).nd.length ca6)) (.cells #[.slice o6 n1 c6, .slice a6 (trG tf g).nd.length ca6] 25) _ (Array.getElem?_eq_some_iff.1 f2).1).trans f2
  have br : w0.heap.size ≤ w.heap.size + 1 + 1 := by omega
  have KS : Kt w0.heap.size 25 w6 ((w6.setCell ⟨w.heap.size + 1 + 1, 0, none⟩ (.slice o6 n1 c6)).setCell ⟨w.heap.size + 1 + 1, 1, none⟩ (.slice a6 (trG tf g).nd.length ca6)) := (Kt.set Hb6.out br).trans (Kt.set f1 br)
  have KF := KS.ky.trans (Ky.later (X := fun _ => False) (T := [25]) (Nat.le_trans (by omega) KS.bel.size) (Joins.below_alloc1 _ (.cells #[.slice o6 n1 c6, .slice a6 (trG tf g).nd.length ca6] 25)))
  obtain ⟨F6, ⟨cs, r6, n6⟩, B6⟩ := H6.out
  obtain ⟨a7, ca7, e7, G7⟩ := hfin.out _ _ _ _ (F6.ky KF.any (by decide)) ⟨cs, own_ky r6 KF (by decide) (fun _ _ => id), n6.map (fun q => q.ky KF.any (by decide)) (fun q => q.ky KF.any (by decide))⟩
  simp only [Value.slice.injEq] at e7
  obtain ⟨rfl, _, rfl⟩ := e7
  refine bodyPost_ret (results_cell_row Try.results21 _ _ (w.heap.size + 1 + 1) 25 _ (0, 0) _ rfl f3 Try.underlying25 rfl size25) rfl ⟨o6, c6, a6, ca6, by rw [hrl.out]; rfl, G7, ?_⟩
  have KW := (Ky.later (X := X) (T := [67, 34, 22, 71]) hb0 HN.out.2.1).trans ((H5.out.2.2.ky (T := [67, 34, 22, 71]) (by simp)).trans B6)
  refine ⟨KW.bel.trans KF.bel, fun q c t f h1 h2 h3 => ?_⟩
  have hq := (Array.getElem?_eq_some_iff.1 h1).1
  have hq2 : q ≠ w.heap.size + 1 + 1 := by omega
  have q6 := KW.keep q c t f h1 h2 h3
  exact (Below.heap_alloc _ _ _ (by have := (Array.getElem?_eq_some_iff.1 q6).1; simp; omega)).trans (((Below.heap_setCell _ _ _ _ hq2).trans (Below.heap_setCell _ _ _ _ hq2)).trans q6)
end Go.Proofs.Ytncimddgkgclpaa
