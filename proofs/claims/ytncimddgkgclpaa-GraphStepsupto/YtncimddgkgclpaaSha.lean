/- The document's Short: what its rounds leave in memory. -/
import Derived.Test.YtncimddgkgclpaaNom
namespace Go.Proofs.Ytncimddgkgclpaa
open Go.RowKit
set_option linter.unusedVariables false
set_option linter.unusedSimpArgs false
set_option linter.unusedSectionVars false

/-- what is not a number's cell plays no part in numbers -/
theorem PS.farz {kd : IntKind} {w w' : World} {z cap : Nat} {o : Option Addr} {l : List Int} (h : PS kd w o cap l) (hz : ∀ off k n, w.cell? ⟨z, off, none⟩ ≠ some (.int k n)) (hk : ∀ k off v, k ≠ z → w.cell? ⟨k, off, none⟩ = some v → w'.cell? ⟨k, off, none⟩ = some v) : PS kd w' o cap l :=
  ⟨h.cap, h.len, fun hn => by
    obtain ⟨g, off, e, hx⟩ := h.num hn
    exact ⟨g, off, e, fun i hi => hk g _ _ (fun q => hz (off + i) kd l[i] (by rw [← q]; exact hx i hi)) (hx i hi)⟩⟩
theorem Gv.farz {w w' : World} {z c d : Nat} {g : Gr} {o a : Option Addr} (G : Gv w g o c a d) (hz : ∀ off k n, w.cell? ⟨z, off, none⟩ ≠ some (.int k n)) (hk : ∀ k off v, k ≠ z → w.cell? ⟨k, off, none⟩ = some v → w'.cell? ⟨k, off, none⟩ = some v) : Gv w' g o c a d := by
  refine ⟨G.rs.farz hz hk, ?_⟩
  obtain ⟨ga, cap, e, hc, hx⟩ := G.nd
  refine ⟨ga, cap, e, hc, fun hn => ?_⟩
  obtain ⟨q, off, rfl, hy⟩ := hx hn
  refine ⟨q, off, rfl, fun i x hi => ?_⟩
  obtain ⟨cs, ⟨o1, c1, o2, c2, rfl, p1, p2⟩, h4⟩ := hy i x hi
  have h0 := h4 0 _ rfl
  have hq : q ≠ z := fun e => hz (off + i * 4 + 0) .i64 x.k (by rw [← e]; exact h0)
  exact ⟨_, ⟨o1, c1, o2, c2, rfl, p1.farz hz hk, p2.farz hz hk⟩, fun j u hj => hk q _ _ hq (h4 j u hj)⟩
/-- storing into a graph's box -/
theorem Gv.box {w : World} {z c d n1 k1 n2 k2 : Nat} {g : Gr} {o a p1 p2 : Option Addr} (G : Gv w g o c a d) (hb : w.heap[z]? = some (.cells #[.slice p1 n1 k1, .slice p2 n2 k2] 25 (0, 0))) (u v : Value) : Gv ((w.setCell ⟨z, 0, none⟩ u).setCell ⟨z, 1, none⟩ v) g o c a d :=
  G.farz (z := z) (fun off k n => by
    rw [Joins.cell_of_block hb]
    match off with
    | 0 => simp
    | 1 => simp
    | _ + 2 => simp) (fun k off v hk hv => (World.cell?_setCell_far _ _ _ _ (Ne.symm hk)).trans ((World.cell?_setCell_far _ _ _ _ (Ne.symm hk)).trans hv))
/-- the cells of nodes whose words are old and whose kids are new -/
def NM (lo : Nat) (wo w : World) : List Nd → List Value → Prop
  | [], cs => cs = []
  | n :: r, cs => ∃ o1 c1 o2 c2 cs', cs = .int .i64 n.k :: .int .i64 n.i :: .slice o1 n.ns.length c1 :: .slice o2 n.ks.length c2 :: cs' ∧ PS .u64 wo o1 c1 n.ns ∧ Fs lo (fun _ => False) w .i64 3 o2 c2 n.ks ∧ NM lo wo w r cs'
theorem NM.map {lo : Nat} {wo w w' : World} (h2 : ∀ {o c l}, Fs lo (fun _ => False) w .i64 3 o c l → Fs lo (fun _ => False) w' .i64 3 o c l) : ∀ {l : List Nd} {cs : List Value}, NM lo wo w l cs → NM lo wo w' l cs
  | [], _, h => h
  | n :: r, _, ⟨o1, c1, o2, c2, cs', e, p, q, t⟩ => ⟨o1, c1, o2, c2, cs', e, p, h2 q, NM.map h2 t⟩
theorem NM.snoc {lo : Nat} {wo w : World} : ∀ {l : List Nd} {cs : List Value}, NM lo wo w l cs → ∀ {x : Nd} {o1 o2 : Option Addr} {c1 c2 : Nat}, PS .u64 wo o1 c1 x.ns → Fs lo (fun _ => False) w .i64 3 o2 c2 x.ks → NM lo wo w (l ++ [x]) (cs ++ [.int .i64 x.k, .int .i64 x.i, .slice o1 x.ns.length c1, .slice o2 x.ks.length c2])
  | [], cs, h, x, o1, o2, c1, c2, f1, f2 => by
    have e : cs = [] := h
    subst e
    exact ⟨o1, c1, o2, c2, [], rfl, f1, f2, rfl⟩
  | n :: r, cs, ⟨p1, k1, p2, k2, cs', e, q1, q2, t⟩, x, o1, o2, c1, c2, f1, f2 => by
    subst e
    exact ⟨p1, k1, p2, k2, _, rfl, q1, q2, NM.snoc t f1 f2⟩
theorem NM.nc {lo : Nat} {wo w : World} (B : Below wo.heap.size wo w) : ∀ {l : List Nd} {cs : List Value}, NM lo wo w l cs → NC w l cs
  | [], _, h => h
  | n :: r, _, ⟨o1, c1, o2, c2, cs', e, p, q, t⟩ => ⟨o1, c1, o2, c2, cs', e, p.later B, q.ps, NM.nc B t⟩

/-! ## The round, piece by piece -/
def rdx (f : Int → Int) (x : Nd) : Nd := ⟨x.k, x.i, x.ns, x.ks.map f⟩
def chN (f : Int → Int) (l : List Nd) : Bool := l.any fun x => chL f x.ks
theorem chL_take (f : Int → Int) {l : List Int} {i : Nat} (h : i < l.length) : chL f (l.take (i + 1)) = (chL f (l.take i) || f l[i] != l[i]) := by
  unfold chL
  rw [List.take_succ_eq_append_getElem h, List.any_append]
  simp only [List.any_cons, List.any_nil, Bool.or_false]
theorem chN_take (f : Int → Int) {l : List Nd} {i : Nat} (h : i < l.length) : chN f (l.take (i + 1)) = (chN f (l.take i) || chL f l[i].ks) := by
  unfold chN
  rw [List.take_succ_eq_append_getElem h, List.any_append]
  simp only [List.any_cons, List.any_nil, Bool.or_false]
theorem chG_parts (g : Gr) : chG g = (chL (rdL g.nd) g.rs || chN (rdL g.nd) g.nd) := rfl
theorem rdG_parts (g : Gr) : rdG g = ⟨g.rs.map (rdL g.nd), g.nd.map (rdx (rdL g.nd))⟩ := rfl
theorem Pt.range {g0 : List Nd} {p0 p : Int} (h : Pt g0 p0 p) : -2 ≤ p ∧ p < g0.length := by
  rcases h with ⟨_, rfl⟩ | ⟨n, _, hn, ⟨k, rfl, hs⟩ | ⟨rfl, _⟩⟩
  · omega
  · have := hs.lt hn; omega
  · omega
theorem RdG.okd {g0 g : Gr} (R : RdG g0 g) (ok : ∀ n, n < g0.nd.length → OkD (nd0 g0.nd n)) (hm : g0.nd.length ≤ 1000) (n : Nat) (hn : n < g.nd.length) : OkD (nd0 g.nd n) := by
  rw [R.len] at hn
  obtain ⟨d1, d2, d3⟩ := R.d n hn
  obtain ⟨k1, k2, k3, _⟩ := ok n hn
  refine ⟨by rw [d1]; exact k1, by rw [d2]; exact k2, by rw [d3]; exact k3, fun p hp => ?_⟩
  obtain ⟨i, hi⟩ := List.getElem?_of_mem hp
  have hl := (List.getElem?_eq_some_iff.1 hi).1
  rw [R.ksl n hn] at hl
  have := (R.ks n hn i _ _ (List.getElem?_eq_getElem hl) hi).range
  unfold In64
  omega
theorem RdG.sm {g0 g : Gr} (R : RdG g0 g) (sm : Sm g0) : Sm g := by
  refine ⟨by rw [R.len]; exact sm.nd, by rw [R.rsl]; exact sm.rs, fun n => ?_, fun n => ?_⟩
  · rcases Nat.lt_or_ge n g0.nd.length with q | q
    · rw [R.ksl n q]; exact sm.ks n
    · rw [nd0_far (by rw [R.len]; exact q)]; simp
  · rcases Nat.lt_or_ge n g0.nd.length with q | q
    · rw [(R.d n q).2.2]; exact sm.ns n
    · rw [nd0_far (by rw [R.len]; exact q)]; simp
/-- between two rounds; k: more than is left -/
structure OutS (g0 T : Gr) (w wr : World) (n1 m : Nat) (gr : Gr) (b : Bool) (o1 : Option Addr) (c1 : Nat) (a1 : Option Addr) (d1 k : Nat) : Prop where
  bel : Below w.heap.size w wr
  gv : Gv wr gr o1 c1 a1 d1
  par : wr.heap[w.heap.size]? = some (.cells #[.slice o1 n1 c1, .slice a1 m d1] 25 (0, 0))
  res : wr.heap[w.heap.size + 1]? = some (.cells #[.slice none 0 0, .slice none 0 0] 25 (0, 0))
  l1 : gr.rs.length = n1
  l2 : gr.nd.length = m
  rd : RdG g0 gr
  done : b = false → trG (kn m) gr = T
  meas : b = true → nu gr < k
/-- the round's graph, its roots in the making -/
structure RtS (wo wr : World) (ob : Nat) (f : Int → Int) (l : List Int) (i : Nat) : Prop where
  bel : Below wo.heap.size wo wr
  out : ∃ gn cn, wr.heap[ob]? = some (.cells #[.slice gn i cn, .slice none 0 0] 25 (0, 0)) ∧ wr.ownsRow wo.heap.size 3 1 (.slice gn i cn) i (its ((l.take i).map f))
  lo : wo.heap.size ≤ ob
/-- its nodes in the making -/
structure NdS (wo wr : World) (ob : Nat) (f : Int → Int) (o1 : Option Addr) (n1 c1 : Nat) (R : List Int) (l : List Nd) (i : Nat) : Prop where
  bel : Below wo.heap.size wo wr
  out : ∃ gn cn, wr.heap[ob]? = some (.cells #[.slice o1 n1 c1, .slice gn i cn] 25 (0, 0)) ∧ ∃ cs, wr.ownsRow wo.heap.size 34 4 (.slice gn i cn) i cs ∧ NM wo.heap.size wo wr ((l.take i).map (rdx f)) cs
  rs : Fs wo.heap.size (fun _ => False) wr .i64 3 o1 c1 R
  lo : wo.heap.size ≤ ob
/-- a node's kids in the making -/
structure KdS (wj wr : World) (nb yb : Nat) (f : Int → Int) (x : Nd) (p1 : Option Addr) (k1 : Nat) (p2 : Option Addr) (k2 : Nat) (j : Nat) : Prop where
  bel : Below wj.heap.size wj wr
  nbx : wr.heap[nb]? = some (.cells #[.int .i64 x.k, .int .i64 x.i, .slice p1 x.ns.length k1, .slice p2 x.ks.length k2] 34 (0, 0))
  out : ∃ gn cn, wr.heap[yb]? = some (.cells #[.int .i64 x.k, .int .i64 x.i, .slice p1 x.ns.length k1, .slice gn j cn] 34 (0, 0)) ∧ wr.ownsRow wj.heap.size 3 1 (.slice gn j cn) j (its ((x.ks.take j).map f))
  lo : wj.heap.size ≤ nb ∧ nb < yb
section
variable {wo wr Y Z : World} {ob i : Nat} {f : Int → Int} {l : List Int} {gn gz : Option Addr} {cn cz : Nat}
/-- what is no row of numbers stays when one grows -/
theorem grown_keep {base t size n b : Nat} {v : Value} {xs : List Value} {cs : Array Value} {t' : TypeId} {fz : Nat × Nat} (gr : Y.grownBy Z v.ownBlock) (r : Y.ownsRow base t size v n xs) (hb : base ≤ Y.heap.size) (h : Y.heap[b]? = some (.cells cs t' fz)) (ht : t' ≠ t) : Z.heap[b]? = some (.cells cs t' fz) :=
  (Kt.own gr r hb).keep _ _ h (fun c f e => by cases e; exact ht rfl)
theorem RtS.push (h : RtS wo wr ob f l i) (hb : wr.heap[ob]? = some (.cells #[.slice gn i cn, .slice none 0 0] 25 (0, 0))) (hr : wr.ownsRow wo.heap.size 3 1 (.slice gn i cn) i (its ((l.take i).map f)))
    (B : Below wr.heap.size wr Y) (hi : i < l.length) (r : Z.ownsRow wo.heap.size 3 1 (.slice gz (i + 1) cz) (i + 1) (its ((l.take i).map f) ++ [.int .i64 (f l[i])])) (gr : Y.grownBy Z (Value.slice gn i cn).ownBlock) :
    RtS wo (Z.setCell ⟨ob, 0, none⟩ (.slice gz (i + 1) cz)) ob f l (i + 1) := by
  have hy := Nat.le_trans h.bel.size B.size
  have rY := own_later hr B
  have KT : Kt wo.heap.size 3 Y Z := Kt.own gr rY hy
  have ob1 := (B.block _ (Array.getElem?_eq_some_iff.1 hb).1).trans hb
  have ob2 := KT.keep _ _ ob1 (fun c f e => by cases e)
  have KS : Kt wo.heap.size 25 Z (Z.setCell ⟨ob, 0, none⟩ (.slice gz (i + 1) cz)) := Kt.set ob2 h.lo
  refine ⟨((h.bel.trans (B.mono h.bel.size)).trans KT.bel).trans KS.bel, ⟨gz, cz, Joins.block_setCell ob2 (i := 0) _, own_ky ?_ KS.ky (by decide) (fun _ _ => id)⟩, h.lo⟩
  have e : its ((l.take (i + 1)).map f) = its ((l.take i).map f) ++ [.int .i64 (f l[i])] := by unfold its; rw [List.take_succ_eq_append_getElem hi]; simp only [List.map_append, List.map_cons, List.map_nil]
  rw [e]
  exact r
end
section
variable {wj wr Y Z : World} {nb yb j : Nat} {f : Int → Int} {x : Nd} {p1 p2 gn gz : Option Addr} {k1 k2 cn cz : Nat}
theorem KdS.push (h : KdS wj wr nb yb f x p1 k1 p2 k2 j) (hb : wr.heap[yb]? = some (.cells #[.int .i64 x.k, .int .i64 x.i, .slice p1 x.ns.length k1, .slice gn j cn] 34 (0, 0))) (hr : wr.ownsRow wj.heap.size 3 1 (.slice gn j cn) j (its ((x.ks.take j).map f)))
    (B : Below wr.heap.size wr Y) (hj : j < x.ks.length) (r : Z.ownsRow wj.heap.size 3 1 (.slice gz (j + 1) cz) (j + 1) (its ((x.ks.take j).map f) ++ [.int .i64 (f x.ks[j])])) (gr : Y.grownBy Z (Value.slice gn j cn).ownBlock) :
    KdS wj (Z.setCell ⟨yb, 3, none⟩ (.slice gz (j + 1) cz)) nb yb f x p1 k1 p2 k2 (j + 1) := by
  have hy := Nat.le_trans h.bel.size B.size
  have rY := own_later hr B
  have KT : Kt wj.heap.size 3 Y Z := Kt.own gr rY hy
  have ob1 := (B.block _ (Array.getElem?_eq_some_iff.1 hb).1).trans hb
  have ob2 := KT.keep _ _ ob1 (fun c f e => by cases e)
  have n1 := (B.block _ (Array.getElem?_eq_some_iff.1 h.nbx).1).trans h.nbx
  have n2 := KT.keep _ _ n1 (fun c f e => by cases e)
  have l := h.lo
  have KS : Kt wj.heap.size 34 Z (Z.setCell ⟨yb, 3, none⟩ (.slice gz (j + 1) cz)) := Kt.set ob2 (by omega)
  refine ⟨((h.bel.trans (B.mono h.bel.size)).trans KT.bel).trans KS.bel, (Below.heap_setCell _ _ _ _ (show nb ≠ yb by omega)).trans n2, ⟨gz, cz, Joins.block_setCell ob2 (i := 3) _, own_ky ?_ KS.ky (by decide) (fun _ _ => id)⟩, h.lo⟩
  have e : its ((x.ks.take (j + 1)).map f) = its ((x.ks.take j).map f) ++ [.int .i64 (f x.ks[j])] := by unfold its; rw [List.take_succ_eq_append_getElem hj]; simp only [List.map_append, List.map_cons, List.map_nil]
  rw [e]
  exact r
end
section
variable {wo wr X Y Z : World} {ob i n1 c1 : Nat} {f : Int → Int} {R : List Int} {l : List Nd} {o1 gn gz p1 p2 : Option Addr} {cn cz k1 k2 : Nat} {cs : List Value}
theorem NdS.push (h : NdS wo wr ob f o1 n1 c1 R l i) (hb : wr.heap[ob]? = some (.cells #[.slice o1 n1 c1, .slice gn i cn] 25 (0, 0))) (hr : wr.ownsRow wo.heap.size 34 4 (.slice gn i cn) i cs) (hn : NM wo.heap.size wo wr ((l.take i).map (rdx f)) cs)
    (B : Below wr.heap.size wr X) (hi : i < l.length) (f1 : PS .u64 wo p1 k1 (l[i]).ns) (f2 : Fs wo.heap.size (fun _ => False) X .i64 3 p2 k2 ((l[i]).ks.map f)) (BY : Below X.heap.size X Y)
    (r : Z.ownsRow wo.heap.size 34 4 (.slice gz (i + 1) cz) (i + 1) (cs ++ [.int .i64 (l[i]).k, .int .i64 (l[i]).i, .slice p1 (l[i]).ns.length k1, .slice p2 (l[i]).ks.length k2])) (gr : Y.grownBy Z (Value.slice gn i cn).ownBlock) :
    NdS wo (Z.setCell ⟨ob, 1, none⟩ (.slice gz (i + 1) cz)) ob f o1 n1 c1 R l (i + 1) := by
  have Bw := belowOn B BY
  have hy : wo.heap.size ≤ Y.heap.size := Nat.le_trans h.bel.size Bw.size
  have rY := own_later hr Bw
  have KT : Kt wo.heap.size 34 Y Z := Kt.own gr rY hy
  have ob1 := (Bw.block _ (Array.getElem?_eq_some_iff.1 hb).1).trans hb
  have ob2 := KT.keep _ _ ob1 (fun c f e => by cases e)
  have KS : Kt wo.heap.size 25 Z (Z.setCell ⟨ob, 1, none⟩ (.slice gz (i + 1) cz)) := Kt.set ob2 h.lo
  have K1 : Ky wo.heap.size (fun _ => False) [25, 34] wr Y := Ky.later h.bel.size Bw
  have K2 : Ky wo.heap.size (fun _ => False) [25, 34] Y Z := KT.ky.mono (by simp)
  have K3 : Ky wo.heap.size (fun _ => False) [25, 34] Z (Z.setCell ⟨ob, 1, none⟩ (.slice gz (i + 1) cz)) := KS.ky.mono (by simp)
  have KA := (K1.trans K2).trans K3
  have K4 : Ky wo.heap.size (fun _ => False) [25, 34] X (Z.setCell ⟨ob, 1, none⟩ (.slice gz (i + 1) cz)) := ((Ky.later (Nat.le_trans h.bel.size B.size) BY).trans K2).trans K3
  refine ⟨h.bel.trans KA.bel, ⟨gz, cz, Joins.block_setCell ob2 (i := 1) _, _, own_ky r KS.ky (by decide) (fun _ _ => id), ?_⟩, h.rs.ky KA (by decide), h.lo⟩
  have e : (l.take (i + 1)).map (rdx f) = (l.take i).map (rdx f) ++ [rdx f l[i]] := by rw [List.take_succ_eq_append_getElem hi]; simp only [List.map_append, List.map_cons, List.map_nil]
  rw [e]
  have := (hn.map (fun q => q.ky KA (by decide))).snoc (x := rdx f l[i]) f1 (f2.ky K4 (by decide))
  simpa [rdx] using this
end
end Go.Proofs.Ytncimddgkgclpaa
