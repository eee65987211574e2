/- turned's functions: the look. -/
import Derived.Test.YtncimddgkgclpaaMtc
namespace Go.Proofs.Ytncimddgkgclpaa
open Go.RowKit
set_option linter.unusedVariables false
set_option linter.unusedSimpArgs false
set_option maxRecDepth 100000

theorem Ky.any {base : Nat} {X : Nat → Prop} {T : List Nat} {w w' : World} (h : Ky base (fun _ => False) T w w') : Ky base X T w w' := ⟨h.bel, fun _ _ _ _ h1 h2 _ => h.keep _ _ _ _ h1 h2 id⟩
theorem results_cell_row2 {P : Program} {fn : Func} {p u : Tmp} {ty : TypeId} (h : fn.results = #[.cell p ty, .tmp u]) (tmps : Array Value) (w : World) (g : Nat) (t : TypeId) (cs : Array Value) (fr : Nat × Nat) (d : TypeDesc)
    (hp : tmps.getD p undef = .pointer (some ⟨g, 0, none⟩)) (hg : w.heap[g]? = some (.cells cs t fr))
    (hu : P.underlying ty = some d) (hd : (match d with | .struct _ | .array _ _ => true | _ => false) = true) (hi : (P.info? ty).map (·.size) = some cs.size) :
    (results fn tmps).run P w = .ok (.tuple #[.agg cs, tmps.getD u undef]) w := by
  have hp' : tmps[p]?.getD undef = .pointer (some ⟨g, 0, none⟩) := by simpa using hp
  simp [results, h, hp', asAddr, run_loadVar_row w g t ty cs fr d hg hu hd hi]
theorem size34 : (Try.prog.info? 34).map (·.size) = some 4 := by kernel_rfl
theorem size25 : (Try.prog.info? 25).map (·.size) = some 2 := by kernel_rfl
theorem store4 {W : World} {h : Nat} {t : Nat} {v0 v1 v2 v3 : Value} (E : W.heap[h]? = some (.cells #[v0, v1, v2, v3] t (0, 0))) (u0 u1 u2 u3 : Value) :
    ((((W.setCell ⟨h, 0, none⟩ u0).setCell ⟨h, 1, none⟩ u1).setCell ⟨h, 2, none⟩ u2).setCell ⟨h, 3, none⟩ u3).heap[h]? = some (.cells #[u0, u1, u2, u3] t (0, 0)) := by
  have e1 := Joins.block_setCell E (i := 0) u0
  have e2 := Joins.block_setCell e1 (i := 1) u1
  have e3 := Joins.block_setCell e2 (i := 2) u2
  exact Joins.block_setCell e3 (i := 3) u3
theorem st4_far (W : World) (h : Nat) (u0 u1 u2 u3 : Value) (k : Nat) (hk : k ≠ h) :
    ((((W.setCell ⟨h, 0, none⟩ u0).setCell ⟨h, 1, none⟩ u1).setCell ⟨h, 2, none⟩ u2).setCell ⟨h, 3, none⟩ u3).heap[k]? = W.heap[k]? :=
  (Below.heap_setCell _ _ _ _ hk).trans ((Below.heap_setCell _ _ _ _ hk).trans ((Below.heap_setCell _ _ _ _ hk).trans (Below.heap_setCell _ _ _ _ hk)))

/-- what turned's functions have captured -/
structure CpS (w : World) (X : Nat → Prop) (gb ab tb zb : Nat) (ro a : Option Addr) (rl rc m ca : Nat) : Prop where
  g : w.heap[gb]? = some (.cells #[.slice ro rl rc, .slice a m ca] 25 (0, 0))
  a : w.heap[ab]? = some (.cells #[.func (.func 36) #[] #[pt tb]] 31 (0, 0))
  t : w.heap[tb]? = some (.cells #[.func (.func 27) #[pt zb] #[]] 44 (0, 0))
  no : ¬ X gb ∧ ¬ X ab ∧ ¬ X tb
theorem CpS.kx {w w' : World} {X : Nat → Prop} {base gb ab tb zb rl rc m ca : Nat} {ro a : Option Addr} (h : CpS w X gb ab tb zb ro a rl rc m ca) (K : Kx base X w w') : CpS w' X gb ab tb zb ro a rl rc m ca :=
  ⟨K.keep _ _ h.g h.no.1 (fun c f e => by cases e), K.keep _ _ h.a h.no.2.1 (fun c f e => by cases e), K.keep _ _ h.t h.no.2.2 (fun c f e => by cases e), h.no⟩
theorem CpS.ky {w w' : World} {X : Nat → Prop} {T : List Nat} {base gb ab tb zb rl rc m ca : Nat} {ro a : Option Addr} (h : CpS w X gb ab tb zb ro a rl rc m ca) (K : Ky base X T w w') (h1 : 25 ∉ T) (h2 : 31 ∉ T) (h3 : 44 ∉ T) : CpS w' X gb ab tb zb ro a rl rc m ca :=
  ⟨K.keep _ _ _ _ h.g h1 h.no.1, K.keep _ _ _ _ h.a h2 h.no.2.1, K.keep _ _ _ _ h.t h3 h.no.2.2, h.no⟩
set_option maxHeartbeats 8000000 in
theorem look38S {w0 w : World} {X : Nat → Prop} {J : World → Prop} {tf : Int → Int} {zb lo : Nat} (T : TnS w0 X J tf zb) (hJ : J w) {g : List Nd} {a ro : Option Addr} {gb ab tb rl rc ca : Nat} (C : CpS w X gb ab tb zb ro a rl rc g.length ca) (G : Nds w0 g (.slice a g.length ca))
    (hlo : lo ≤ w.heap.size) (hX : ∀ k, X k → k < w.heap.size) {n : Nat} (hn : n < g.length) (hns : (nd0 g n).ns.length * 8 ≤ 140737488355328) (hks : (nd0 g n).ks.length ≤ 1000000) :
    Calls Try.prog 38 #[.int .i64 n, pt gb, pt ab] w fun e w' => (∃ o1 c1 o2 c2, e = .returned (.tuple #[.agg #[.int .i64 (nd0 g n).k, .int .i64 (nd0 g n).i, .slice o1 (nd0 g n).ns.length c1, .slice o2 (nd0 g n).ks.length c2], .int .i64 0]) ∧ Fs lo X w' .u64 40 o1 c1 (nd0 g n).ns ∧ Fs lo X w' .i64 3 o2 c2 ((nd0 g n).ks.map tf)) ∧ J w' ∧ Kx w0.heap.size X w w' := by
  have hb0 := (T.bel w hJ)
  obtain ⟨q, off, cap, c, e, hca, hca2, pc, hx⟩ := G.get n hn
  simp only [Value.slice.injEq] at e
  obtain ⟨rfl, _, rfl⟩ := e
  rw [← nd0_get hn] at pc
  obtain ⟨p1, k1, p2, k2, rfl, P1, P2⟩ := pc
  have a0 : w.cell? ⟨q, off + n * 4, none⟩ = some (.int .i64 (nd0 g n).k) := cellLater hb0 (hx 0 _ rfl)
  have a1 := cellLater hb0 (hx 1 _ rfl)
  have a2 := cellLater hb0 (hx 2 _ rfl)
  have a3 := cellLater hb0 (hx 3 _ rfl)
  have CL := fun (W : World) (j : J W) (hs : lo ≤ W.heap.size) (hx : ∀ k, X k → k < W.heap.size) => clone39 (lo := lo) (X := X) (nd0 g n).ns p1 k1 W (P1.later (T.bel W j)) hns hs hx
  have CA := fun (W : World) (j : J W) (c : CpS W X gb ab tb zb ro (some ⟨q, off, none⟩) rl rc g.length ca) (hs : lo ≤ W.heap.size) (hx : ∀ k, X k → k < W.heap.size) => all36S (lo := lo) T j (nd0 g n).ks p2 k2 P2 tb c.t c.no.2.2 hs hx hks
  have hfin : ∀ W o1 c1 o2 c2, Fs lo X W .u64 40 o1 c1 (nd0 g n).ns → Fs lo X W .i64 3 o2 c2 ((nd0 g n).ks.map tf) → (Fs lo X W .u64 40 o1 c1 (nd0 g n).ns ∧ Fs lo X W .i64 3 o2 c2 ((nd0 g n).ks.map tf)) := fun _ _ _ _ _ x y => ⟨x, y⟩
  obtain ⟨m, hm⟩ : ∃ m, g.length = m := ⟨_, rfl⟩
  rw [hm] at C hn CA hca hca2
  unfold maxLen at hca2
  generalize nd0 g n = x at *
  obtain ⟨xk, xi, xns, xks⟩ := x
  dsimp only at *
  obtain ⟨n1, h1⟩ : ∃ n, xns.length = n := ⟨_, rfl⟩
  obtain ⟨n2, h2⟩ : ∃ n, xks.length = n := ⟨_, rfl⟩
  rw [h1] at CL a2
  rw [h2] at CA a3
  rw [h1, h2]
  have cg : w.cell? ⟨gb, 1, none⟩ = some (.slice (some ⟨q, off, none⟩) m ca) := by rw [Joins.cell_of_block C.g]; rfl
  have hn' : (n : Int) < m := by omega
  have B1 : Below w.heap.size w ((w.alloc (.cells #[.int .i64 0, .int .i64 0, .slice none 0 0, .slice none 0 0] 34)).alloc (.cells #[.int .i64 xk, .int .i64 xi, .slice p1 n1 k1, .slice p2 n2 k2] 34)) := by go_grown
  have b1 : Below w.heap.size w (w.alloc (.cells #[.int .i64 0, .int .i64 0, .slice none 0 0, .slice none 0 0] 34)) := by go_grown
  have d0 := cellLater b1 a0
  have d1 := cellLater b1 a1
  have d2 := cellLater b1 a2
  have d3 := cellLater b1 a3
  have dg := cellLater b1 cg
  have K1 : Kx w0.heap.size X w ((w.alloc (.cells #[.int .i64 0, .int .i64 0, .slice none 0 0, .slice none 0 0] 34)).alloc (.cells #[.int .i64 xk, .int .i64 xi, .slice p1 n1 k1, .slice p2 n2 k2] 34)) := Kx.later hb0.size B1
  have J1 := T.keep _ _ hJ (Ky.later hb0.size B1)
  have C1 := C.kx K1
  have hx1 : ∀ k, X k → k < ((w.alloc (.cells #[.int .i64 0, .int .i64 0, .slice none 0 0, .slice none 0 0] 34)).alloc (.cells #[.int .i64 xk, .int .i64 xi, .slice p1 n1 k1, .slice p2 n2 k2] 34)).heap.size := fun k q => Nat.lt_of_lt_of_le (hX k q) B1.size
  have hs1 : lo ≤ ((w.alloc (.cells #[.int .i64 0, .int .i64 0, .slice none 0 0, .slice none 0 0] 34)).alloc (.cells #[.int .i64 xk, .int .i64 xi, .slice p1 n1 k1, .slice p2 n2 k2] 34)).heap.size := Nat.le_trans hlo B1.size
  have y0 : ((w.alloc (.cells #[.int .i64 0, .int .i64 0, .slice none 0 0, .slice none 0 0] 34)).alloc (.cells #[.int .i64 xk, .int .i64 xi, .slice p1 n1 k1, .slice p2 n2 k2] 34)).heap[w.heap.size]? = some (.cells #[.int .i64 0, .int .i64 0, .slice none 0 0, .slice none 0 0] 34 (0, 0)) := by
    have := heap_alloc_new w (.cells #[.int .i64 0, .int .i64 0, .slice none 0 0, .slice none 0 0] 34)
    exact (Below.heap_alloc _ _ _ (by simp)).trans this
  have y1 : ((w.alloc (.cells #[.int .i64 0, .int .i64 0, .slice none 0 0, .slice none 0 0] 34)).alloc (.cells #[.int .i64 xk, .int .i64 xi, .slice p1 n1 k1, .slice p2 n2 k2] 34)).heap[w.heap.size + 1]? = some (.cells #[.int .i64 xk, .int .i64 xi, .slice p1 n1 k1, .slice p2 n2 k2] 34 (0, 0)) := by
    have := heap_alloc_new (w.alloc (.cells #[.int .i64 0, .int .i64 0, .slice none 0 0, .slice none 0 0] 34)) (.cells #[.int .i64 xk, .int .i64 xi, .slice p1 n1 k1, .slice p2 n2 k2] 34)
    simpa using this
  have nx0 : ¬ X w.heap.size := fun q => by have := hX _ q; omega
  have nx1 : ¬ X (w.heap.size + 1) := fun q => by have := hX _ q; omega
  have lab : ab < w.heap.size := (Array.getElem?_eq_some_iff.1 C.a).1
  have nab : ab ≠ w.heap.size := by omega
  have nab2 : ¬ (w.heap.size = ab) := by omega
  have HN1 := Hid.mk h1
  have HN2 := Hid.mk h2
  have HCL := Hid.mk CL
  have HCA := Hid.mk CA
  have HT := Hid.mk T
  have HC1 := Hid.mk C1
  have HHX := Hid.mk (And.intro hx1 hs1)
  have HYY := Hid.mk (And.intro y0 (And.intro y1 (And.intro nx0 nx1)))
  have HJ1 := Hid.mk J1
  have HK1 := Hid.mk K1
  have HB0 := Hid.mk hb0
  clear B1 b1 a0 a1 a2 a3 cg h1 h2 CL CA T C C1 hx1 hs1 y0 y1 nx0 nx1 J1 K1 hb0 hfin hX hlo hJ G hx P1 P2 hm
  go_enter Try.func38, Try.ntmps38
  go_wp2
  have hyb : Hid (((w.alloc (.cells #[.int .i64 0, .int .i64 0, .slice none 0 0, .slice none 0 0] 34)).alloc (.cells #[.int .i64 xk, .int .i64 xi, .slice p1 n1 k1, .slice p2 n2 k2] 34)).heap.size = w.heap.size + 2) := ⟨by simp⟩
  generalize (w.alloc (.cells #[.int .i64 0, .int .i64 0, .slice none 0 0, .slice none 0 0] 34)).alloc (.cells #[.int .i64 xk, .int .i64 xi, .slice p1 n1 k1, .slice p2 n2 k2] 34) = W at *
  have hS : Hid (∀ W', Kx w0.heap.size X W W' → (W'.cell? ⟨w.heap.size + 1, 0, none⟩ = some (.int .i64 xk) ∧ W'.cell? ⟨w.heap.size + 1, 1, none⟩ = some (.int .i64 xi) ∧ W'.cell? ⟨w.heap.size + 1, 2, none⟩ = some (.slice p1 n1 k1) ∧ W'.cell? ⟨w.heap.size + 1, 3, none⟩ = some (.slice p2 n2 k2) ∧ W'.cell? ⟨ab, 0, none⟩ = some (.func (.func 36) #[] #[pt tb]))) := ⟨fun W' K => by
    have q1 := K.keep _ _ HYY.out.2.1 HYY.out.2.2.2 (fun c f e => by cases e)
    have q2 := (HC1.out.kx K).a
    exact ⟨by rw [Joins.cell_of_block q1]; rfl, by rw [Joins.cell_of_block q1]; rfl, by rw [Joins.cell_of_block q1]; rfl, by rw [Joins.cell_of_block q1]; rfl, by rw [Joins.cell_of_block q2]; rfl⟩⟩
  have hD : Hid (∀ W', Kx w0.heap.size X W W' → (W'.cell? ⟨w.heap.size, 0, none⟩ = some (.int .i64 0) ∧ W'.cell? ⟨w.heap.size, 1, none⟩ = some (.int .i64 0) ∧ W'.cell? ⟨w.heap.size, 2, none⟩ = some (.slice none 0 0) ∧ W'.cell? ⟨w.heap.size, 3, none⟩ = some (.slice none 0 0) ∧ ∀ i, W'.frozen? ⟨w.heap.size, i, none⟩ = false)) := ⟨fun W' K => by
    have q1 := K.keep _ _ HYY.out.1 HYY.out.2.2.1 (fun c f e => by cases e)
    exact ⟨by rw [Joins.cell_of_block q1]; rfl, by rw [Joins.cell_of_block q1]; rfl, by rw [Joins.cell_of_block q1]; rfl, by rw [Joins.cell_of_block q1]; rfl, fun i => Joins.unfrozen_of_block q1 i⟩⟩
  have BD : Below W.heap.size W W.drew := (Below.refl _ _).drew
  have bW : w0.heap.size ≤ W.heap.size := Nat.le_trans HB0.out.size HK1.out.bel.size
  have KD : Kx w0.heap.size X W W.drew := Kx.later bW BD
  obtain ⟨s0, s1, s2, s3, s4⟩ := hS.out _ (Kx.refl _ _ _)
  have HX : Hid (J W.drew ∧ Kx w0.heap.size X W W.drew) := ⟨HT.out.keep _ _ HJ1.out (Ky.later bW BD), KD⟩
  clear BD KD
  go_region_held3 (fun W' => W'.cell? ⟨w.heap.size + 1, 0, none⟩ = some (.int .i64 xk) ∧ W'.cell? ⟨w.heap.size + 1, 1, none⟩ = some (.int .i64 xi) ∧ W'.cell? ⟨w.heap.size + 1, 2, none⟩ = some (.slice p1 n1 k1) ∧ W'.cell? ⟨w.heap.size + 1, 3, none⟩ = some (.slice p2 n2 k2) ∧ W'.cell? ⟨ab, 0, none⟩ = some (.func (.func 36) #[] #[pt tb])) (go_keep) (first
    | (go_at_call 39; refine (HCL.out _ HX.out.1 (Nat.le_trans HHX.out.2 HX.out.2.bel.size) (fun k q => Nat.lt_of_lt_of_le (HHX.out.1 k q) HX.out.2.bel.size)).mono ?_; rintro e w7 ⟨⟨o7, c7, rfl, F7⟩, B7⟩; have HF7 := Hid.mk F7; replace HX := Hid.mk (And.intro (HT.out.keep _ _ HX.out.1 (Ky.later (Nat.le_trans bW HX.out.2.bel.size) B7)) (HX.out.2.trans (Kx.later (Nat.le_trans bW HX.out.2.bel.size) B7))); obtain ⟨q0, q1, q2, q3, q4⟩ := hS.out _ HX.out.2; clear F7 B7)
    | (go_at_call 36; refine (HCA.out _ HX.out.1 (HC1.out.kx HX.out.2) (Nat.le_trans HHX.out.2 HX.out.2.bel.size) (fun k q => Nat.lt_of_lt_of_le (HHX.out.1 k q) HX.out.2.bel.size)).mono ?_; rintro e w8 ⟨⟨g8, rfl, F8⟩, J8, K8⟩; have HF8 := Hid.mk F8; replace HF7 := Hid.mk (HF7.out.kx K8 (by decide)); replace HX := Hid.mk (And.intro J8 (HX.out.2.trans K8)); obtain ⟨q0, q1, q2, q3, q4⟩ := hS.out _ HX.out.2; obtain ⟨y0, y1, y2, y3, y4⟩ := hD.out _ HX.out.2; clear F8 J8 K8))
  go_wp2
  have q1 := HX.out.2.keep _ _ HYY.out.1 HYY.out.2.2.1 (fun c f e => by cases e)
  have q2 := store4 q1 (.int .i64 xk) (.int .i64 xi) (.slice o7 n1 c7) (.slice (some ⟨g8, 0, none⟩) n2 n2)
  have q3 := st4_far w8 w.heap.size (.int .i64 xk) (.int .i64 xi) (.slice o7 n1 c7) (.slice (some ⟨g8, 0, none⟩) n2 n2)
  have bw0 : w0.heap.size ≤ w.heap.size := HB0.out.size
  have bs : Below w0.heap.size w8 ((((w8.setCell ⟨w.heap.size, 0, none⟩ (.int .i64 xk)).setCell ⟨w.heap.size, 1, none⟩ (.int .i64 xi)).setCell ⟨w.heap.size, 2, none⟩ (.slice o7 n1 c7)).setCell ⟨w.heap.size, 3, none⟩ (.slice (some ⟨g8, 0, none⟩) n2 n2)) := ((((Below.refl _ _).setCell bw0 _).setCell bw0 _).setCell bw0 _).setCell bw0 _
  have ky : Ky w0.heap.size (fun _ => False) [34, 22, 71] w8 ((((w8.setCell ⟨w.heap.size, 0, none⟩ (.int .i64 xk)).setCell ⟨w.heap.size, 1, none⟩ (.int .i64 xi)).setCell ⟨w.heap.size, 2, none⟩ (.slice o7 n1 c7)).setCell ⟨w.heap.size, 3, none⟩ (.slice (some ⟨g8, 0, none⟩) n2 n2)) := ⟨bs, fun k c t f h1 h2 _ => (q3 k (fun e => by subst e; rw [q1] at h1; cases h1; exact h2 (by simp))).trans h1⟩
  refine bodyPost_ret (results_cell_row2 Try.results38 _ _ w.heap.size 34 _ (0, 0) _ rfl q2 Try.underlying34 rfl size34) rfl ⟨⟨o7, c7, some ⟨g8, 0, none⟩, n2, rfl, ?_, ?_⟩, HT.out.keep _ _ HX.out.1 ky, (HK1.out.trans HX.out.2).bel.trans bs, fun k o h1 h2 h3 => (q3 k (fun e => by have := (Array.getElem?_eq_some_iff.1 h1).1; omega)).trans ((HK1.out.trans HX.out.2).keep k o h1 h2 h3)⟩
  · exact HF7.out.ky (X := X) ky.any (by decide)
  · have := HF8.out.ky (X := X) ky.any (by decide)
    exact this

/-- what turned's functions have captured -/
structure CpN (w : World) (X : Nat → Prop) (gb ab tb zb : Nat) (ro a : Option Addr) (rl rc m ca : Nat) : Prop where
  g : w.heap[gb]? = some (.cells #[.slice ro rl rc, .slice a m ca] 25 (0, 0))
  a : w.heap[ab]? = some (.cells #[.func (.func 36) #[] #[pt tb]] 31 (0, 0))
  t : w.heap[tb]? = some (.cells #[.func (.func 22) #[] #[pt zb]] 44 (0, 0))
  no : ¬ X gb ∧ ¬ X ab ∧ ¬ X tb
theorem CpN.kx {w w' : World} {X : Nat → Prop} {base gb ab tb zb rl rc m ca : Nat} {ro a : Option Addr} (h : CpN w X gb ab tb zb ro a rl rc m ca) (K : Kx base X w w') : CpN w' X gb ab tb zb ro a rl rc m ca :=
  ⟨K.keep _ _ h.g h.no.1 (fun c f e => by cases e), K.keep _ _ h.a h.no.2.1 (fun c f e => by cases e), K.keep _ _ h.t h.no.2.2 (fun c f e => by cases e), h.no⟩
theorem CpN.ky {w w' : World} {X : Nat → Prop} {T : List Nat} {base gb ab tb zb rl rc m ca : Nat} {ro a : Option Addr} (h : CpN w X gb ab tb zb ro a rl rc m ca) (K : Ky base X T w w') (h1 : 25 ∉ T) (h2 : 31 ∉ T) (h3 : 44 ∉ T) : CpN w' X gb ab tb zb ro a rl rc m ca :=
  ⟨K.keep _ _ _ _ h.g h1 h.no.1, K.keep _ _ _ _ h.a h2 h.no.2.1, K.keep _ _ _ _ h.t h3 h.no.2.2, h.no⟩
set_option maxHeartbeats 8000000 in
theorem look38N {w0 w : World} {X : Nat → Prop} {J : World → Prop} {tf : Int → Int} {zb lo : Nat} (T : TnN w0 X J tf zb) (hJ : J w) {g : List Nd} {a ro : Option Addr} {gb ab tb rl rc ca : Nat} (C : CpN w X gb ab tb zb ro a rl rc g.length ca) (G : Nds w0 g (.slice a g.length ca))
    (hlo : lo ≤ w.heap.size) (hX : ∀ k, X k → k < w.heap.size) {n : Nat} (hn : n < g.length) (hns : (nd0 g n).ns.length * 8 ≤ 140737488355328) (hks : (nd0 g n).ks.length ≤ 1000000) :
    Calls Try.prog 38 #[.int .i64 n, pt gb, pt ab] w fun e w' => (∃ o1 c1 o2 c2, e = .returned (.tuple #[.agg #[.int .i64 (nd0 g n).k, .int .i64 (nd0 g n).i, .slice o1 (nd0 g n).ns.length c1, .slice o2 (nd0 g n).ks.length c2], .int .i64 0]) ∧ Fs lo X w' .u64 40 o1 c1 (nd0 g n).ns ∧ Fs lo X w' .i64 3 o2 c2 ((nd0 g n).ks.map tf)) ∧ J w' ∧ Kx w0.heap.size X w w' := by
  have hb0 := (T.bel w hJ)
  obtain ⟨q, off, cap, c, e, hca, hca2, pc, hx⟩ := G.get n hn
  simp only [Value.slice.injEq] at e
  obtain ⟨rfl, _, rfl⟩ := e
  rw [← nd0_get hn] at pc
  obtain ⟨p1, k1, p2, k2, rfl, P1, P2⟩ := pc
  have a0 : w.cell? ⟨q, off + n * 4, none⟩ = some (.int .i64 (nd0 g n).k) := cellLater hb0 (hx 0 _ rfl)
  have a1 := cellLater hb0 (hx 1 _ rfl)
  have a2 := cellLater hb0 (hx 2 _ rfl)
  have a3 := cellLater hb0 (hx 3 _ rfl)
  have CL := fun (W : World) (j : J W) (hs : lo ≤ W.heap.size) (hx : ∀ k, X k → k < W.heap.size) => clone39 (lo := lo) (X := X) (nd0 g n).ns p1 k1 W (P1.later (T.bel W j)) hns hs hx
  have CA := fun (W : World) (j : J W) (c : CpN W X gb ab tb zb ro (some ⟨q, off, none⟩) rl rc g.length ca) (hs : lo ≤ W.heap.size) (hx : ∀ k, X k → k < W.heap.size) => all36N (lo := lo) T j (nd0 g n).ks p2 k2 P2 tb c.t c.no.2.2 hs hx hks
  have hfin : ∀ W o1 c1 o2 c2, Fs lo X W .u64 40 o1 c1 (nd0 g n).ns → Fs lo X W .i64 3 o2 c2 ((nd0 g n).ks.map tf) → (Fs lo X W .u64 40 o1 c1 (nd0 g n).ns ∧ Fs lo X W .i64 3 o2 c2 ((nd0 g n).ks.map tf)) := fun _ _ _ _ _ x y => ⟨x, y⟩
  obtain ⟨m, hm⟩ : ∃ m, g.length = m := ⟨_, rfl⟩
  rw [hm] at C hn CA hca hca2
  unfold maxLen at hca2
  generalize nd0 g n = x at *
  obtain ⟨xk, xi, xns, xks⟩ := x
  dsimp only at *
  obtain ⟨n1, h1⟩ : ∃ n, xns.length = n := ⟨_, rfl⟩
  obtain ⟨n2, h2⟩ : ∃ n, xks.length = n := ⟨_, rfl⟩
  rw [h1] at CL a2
  rw [h2] at CA a3
  rw [h1, h2]
  have cg : w.cell? ⟨gb, 1, none⟩ = some (.slice (some ⟨q, off, none⟩) m ca) := by rw [Joins.cell_of_block C.g]; rfl
  have hn' : (n : Int) < m := by omega
  have B1 : Below w.heap.size w ((w.alloc (.cells #[.int .i64 0, .int .i64 0, .slice none 0 0, .slice none 0 0] 34)).alloc (.cells #[.int .i64 xk, .int .i64 xi, .slice p1 n1 k1, .slice p2 n2 k2] 34)) := by go_grown
  have b1 : Below w.heap.size w (w.alloc (.cells #[.int .i64 0, .int .i64 0, .slice none 0 0, .slice none 0 0] 34)) := by go_grown
  have d0 := cellLater b1 a0
  have d1 := cellLater b1 a1
  have d2 := cellLater b1 a2
  have d3 := cellLater b1 a3
  have dg := cellLater b1 cg
  have K1 : Kx w0.heap.size X w ((w.alloc (.cells #[.int .i64 0, .int .i64 0, .slice none 0 0, .slice none 0 0] 34)).alloc (.cells #[.int .i64 xk, .int .i64 xi, .slice p1 n1 k1, .slice p2 n2 k2] 34)) := Kx.later hb0.size B1
  have J1 := T.keep _ _ hJ (Ky.later hb0.size B1)
  have C1 := C.kx K1
  have hx1 : ∀ k, X k → k < ((w.alloc (.cells #[.int .i64 0, .int .i64 0, .slice none 0 0, .slice none 0 0] 34)).alloc (.cells #[.int .i64 xk, .int .i64 xi, .slice p1 n1 k1, .slice p2 n2 k2] 34)).heap.size := fun k q => Nat.lt_of_lt_of_le (hX k q) B1.size
  have hs1 : lo ≤ ((w.alloc (.cells #[.int .i64 0, .int .i64 0, .slice none 0 0, .slice none 0 0] 34)).alloc (.cells #[.int .i64 xk, .int .i64 xi, .slice p1 n1 k1, .slice p2 n2 k2] 34)).heap.size := Nat.le_trans hlo B1.size
  have y0 : ((w.alloc (.cells #[.int .i64 0, .int .i64 0, .slice none 0 0, .slice none 0 0] 34)).alloc (.cells #[.int .i64 xk, .int .i64 xi, .slice p1 n1 k1, .slice p2 n2 k2] 34)).heap[w.heap.size]? = some (.cells #[.int .i64 0, .int .i64 0, .slice none 0 0, .slice none 0 0] 34 (0, 0)) := by
    have := heap_alloc_new w (.cells #[.int .i64 0, .int .i64 0, .slice none 0 0, .slice none 0 0] 34)
    exact (Below.heap_alloc _ _ _ (by simp)).trans this
  have y1 : ((w.alloc (.cells #[.int .i64 0, .int .i64 0, .slice none 0 0, .slice none 0 0] 34)).alloc (.cells #[.int .i64 xk, .int .i64 xi, .slice p1 n1 k1, .slice p2 n2 k2] 34)).heap[w.heap.size + 1]? = some (.cells #[.int .i64 xk, .int .i64 xi, .slice p1 n1 k1, .slice p2 n2 k2] 34 (0, 0)) := by
    have := heap_alloc_new (w.alloc (.cells #[.int .i64 0, .int .i64 0, .slice none 0 0, .slice none 0 0] 34)) (.cells #[.int .i64 xk, .int .i64 xi, .slice p1 n1 k1, .slice p2 n2 k2] 34)
    simpa using this
  have nx0 : ¬ X w.heap.size := fun q => by have := hX _ q; omega
  have nx1 : ¬ X (w.heap.size + 1) := fun q => by have := hX _ q; omega
  have lab : ab < w.heap.size := (Array.getElem?_eq_some_iff.1 C.a).1
  have nab : ab ≠ w.heap.size := by omega
  have nab2 : ¬ (w.heap.size = ab) := by omega
  have HN1 := Hid.mk h1
  have HN2 := Hid.mk h2
  have HCL := Hid.mk CL
  have HCA := Hid.mk CA
  have HT := Hid.mk T
  have HC1 := Hid.mk C1
  have HHX := Hid.mk (And.intro hx1 hs1)
  have HYY := Hid.mk (And.intro y0 (And.intro y1 (And.intro nx0 nx1)))
  have HJ1 := Hid.mk J1
  have HK1 := Hid.mk K1
  have HB0 := Hid.mk hb0
  clear B1 b1 a0 a1 a2 a3 cg h1 h2 CL CA T C C1 hx1 hs1 y0 y1 nx0 nx1 J1 K1 hb0 hfin hX hlo hJ G hx P1 P2 hm
  go_enter Try.func38, Try.ntmps38
  go_wp2
  have hyb : Hid (((w.alloc (.cells #[.int .i64 0, .int .i64 0, .slice none 0 0, .slice none 0 0] 34)).alloc (.cells #[.int .i64 xk, .int .i64 xi, .slice p1 n1 k1, .slice p2 n2 k2] 34)).heap.size = w.heap.size + 2) := ⟨by simp⟩
  generalize (w.alloc (.cells #[.int .i64 0, .int .i64 0, .slice none 0 0, .slice none 0 0] 34)).alloc (.cells #[.int .i64 xk, .int .i64 xi, .slice p1 n1 k1, .slice p2 n2 k2] 34) = W at *
  have hS : Hid (∀ W', Kx w0.heap.size X W W' → (W'.cell? ⟨w.heap.size + 1, 0, none⟩ = some (.int .i64 xk) ∧ W'.cell? ⟨w.heap.size + 1, 1, none⟩ = some (.int .i64 xi) ∧ W'.cell? ⟨w.heap.size + 1, 2, none⟩ = some (.slice p1 n1 k1) ∧ W'.cell? ⟨w.heap.size + 1, 3, none⟩ = some (.slice p2 n2 k2) ∧ W'.cell? ⟨ab, 0, none⟩ = some (.func (.func 36) #[] #[pt tb]))) := ⟨fun W' K => by
    have q1 := K.keep _ _ HYY.out.2.1 HYY.out.2.2.2 (fun c f e => by cases e)
    have q2 := (HC1.out.kx K).a
    exact ⟨by rw [Joins.cell_of_block q1]; rfl, by rw [Joins.cell_of_block q1]; rfl, by rw [Joins.cell_of_block q1]; rfl, by rw [Joins.cell_of_block q1]; rfl, by rw [Joins.cell_of_block q2]; rfl⟩⟩
  have hD : Hid (∀ W', Kx w0.heap.size X W W' → (W'.cell? ⟨w.heap.size, 0, none⟩ = some (.int .i64 0) ∧ W'.cell? ⟨w.heap.size, 1, none⟩ = some (.int .i64 0) ∧ W'.cell? ⟨w.heap.size, 2, none⟩ = some (.slice none 0 0) ∧ W'.cell? ⟨w.heap.size, 3, none⟩ = some (.slice none 0 0) ∧ ∀ i, W'.frozen? ⟨w.heap.size, i, none⟩ = false)) := ⟨fun W' K => by
    have q1 := K.keep _ _ HYY.out.1 HYY.out.2.2.1 (fun c f e => by cases e)
    exact ⟨by rw [Joins.cell_of_block q1]; rfl, by rw [Joins.cell_of_block q1]; rfl, by rw [Joins.cell_of_block q1]; rfl, by rw [Joins.cell_of_block q1]; rfl, fun i => Joins.unfrozen_of_block q1 i⟩⟩
  have BD : Below W.heap.size W W.drew := (Below.refl _ _).drew
  have bW : w0.heap.size ≤ W.heap.size := Nat.le_trans HB0.out.size HK1.out.bel.size
  have KD : Kx w0.heap.size X W W.drew := Kx.later bW BD
  obtain ⟨s0, s1, s2, s3, s4⟩ := hS.out _ (Kx.refl _ _ _)
  have HX : Hid (J W.drew ∧ Kx w0.heap.size X W W.drew) := ⟨HT.out.keep _ _ HJ1.out (Ky.later bW BD), KD⟩
  clear BD KD
  go_region_held3 (fun W' => W'.cell? ⟨w.heap.size + 1, 0, none⟩ = some (.int .i64 xk) ∧ W'.cell? ⟨w.heap.size + 1, 1, none⟩ = some (.int .i64 xi) ∧ W'.cell? ⟨w.heap.size + 1, 2, none⟩ = some (.slice p1 n1 k1) ∧ W'.cell? ⟨w.heap.size + 1, 3, none⟩ = some (.slice p2 n2 k2) ∧ W'.cell? ⟨ab, 0, none⟩ = some (.func (.func 36) #[] #[pt tb])) (go_keep) (first
    | (go_at_call 39; refine (HCL.out _ HX.out.1 (Nat.le_trans HHX.out.2 HX.out.2.bel.size) (fun k q => Nat.lt_of_lt_of_le (HHX.out.1 k q) HX.out.2.bel.size)).mono ?_; rintro e w7 ⟨⟨o7, c7, rfl, F7⟩, B7⟩; have HF7 := Hid.mk F7; replace HX := Hid.mk (And.intro (HT.out.keep _ _ HX.out.1 (Ky.later (Nat.le_trans bW HX.out.2.bel.size) B7)) (HX.out.2.trans (Kx.later (Nat.le_trans bW HX.out.2.bel.size) B7))); obtain ⟨q0, q1, q2, q3, q4⟩ := hS.out _ HX.out.2; clear F7 B7)
    | (go_at_call 36; refine (HCA.out _ HX.out.1 (HC1.out.kx HX.out.2) (Nat.le_trans HHX.out.2 HX.out.2.bel.size) (fun k q => Nat.lt_of_lt_of_le (HHX.out.1 k q) HX.out.2.bel.size)).mono ?_; rintro e w8 ⟨⟨g8, rfl, F8⟩, J8, K8⟩; have HF8 := Hid.mk F8; replace HF7 := Hid.mk (HF7.out.kx K8 (by decide)); replace HX := Hid.mk (And.intro J8 (HX.out.2.trans K8)); obtain ⟨q0, q1, q2, q3, q4⟩ := hS.out _ HX.out.2; obtain ⟨y0, y1, y2, y3, y4⟩ := hD.out _ HX.out.2; clear F8 J8 K8))
  go_wp2
  have q1 := HX.out.2.keep _ _ HYY.out.1 HYY.out.2.2.1 (fun c f e => by cases e)
  have q2 := store4 q1 (.int .i64 xk) (.int .i64 xi) (.slice o7 n1 c7) (.slice (some ⟨g8, 0, none⟩) n2 n2)
  have q3 := st4_far w8 w.heap.size (.int .i64 xk) (.int .i64 xi) (.slice o7 n1 c7) (.slice (some ⟨g8, 0, none⟩) n2 n2)
  have bw0 : w0.heap.size ≤ w.heap.size := HB0.out.size
  have bs : Below w0.heap.size w8 ((((w8.setCell ⟨w.heap.size, 0, none⟩ (.int .i64 xk)).setCell ⟨w.heap.size, 1, none⟩ (.int .i64 xi)).setCell ⟨w.heap.size, 2, none⟩ (.slice o7 n1 c7)).setCell ⟨w.heap.size, 3, none⟩ (.slice (some ⟨g8, 0, none⟩) n2 n2)) := ((((Below.refl _ _).setCell bw0 _).setCell bw0 _).setCell bw0 _).setCell bw0 _
  have ky : Ky w0.heap.size (fun _ => False) [34, 22, 71] w8 ((((w8.setCell ⟨w.heap.size, 0, none⟩ (.int .i64 xk)).setCell ⟨w.heap.size, 1, none⟩ (.int .i64 xi)).setCell ⟨w.heap.size, 2, none⟩ (.slice o7 n1 c7)).setCell ⟨w.heap.size, 3, none⟩ (.slice (some ⟨g8, 0, none⟩) n2 n2)) := ⟨bs, fun k c t f h1 h2 _ => (q3 k (fun e => by subst e; rw [q1] at h1; cases h1; exact h2 (by simp))).trans h1⟩
  refine bodyPost_ret (results_cell_row2 Try.results38 _ _ w.heap.size 34 _ (0, 0) _ rfl q2 Try.underlying34 rfl size34) rfl ⟨⟨o7, c7, some ⟨g8, 0, none⟩, n2, rfl, ?_, ?_⟩, HT.out.keep _ _ HX.out.1 ky, (HK1.out.trans HX.out.2).bel.trans bs, fun k o h1 h2 h3 => (q3 k (fun e => by have := (Array.getElem?_eq_some_iff.1 h1).1; omega)).trans ((HK1.out.trans HX.out.2).keep k o h1 h2 h3)⟩
  · exact HF7.out.ky (X := X) ky.any (by decide)
  · have := HF8.out.ky (X := X) ky.any (by decide)
    exact this
end Go.Proofs.Ytncimddgkgclpaa
