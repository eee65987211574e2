/- The document's Norm: rows that are made, and what is written down. -/
import Derived.Test.YtncimddgkgclpaaNug
import Derived.Test.YtncimddgkgclpaaRdp
namespace Go.Proofs.Ytncimddgkgclpaa
open Go.RowKit
set_option linter.unusedVariables false
set_option linter.unusedSimpArgs false
set_option linter.unusedSectionVars false

theorem info4 : (Try.prog.info? 4).map (fun i => (i.zero, i.size, i.bytes)) = some (some (.bool false), 1, 1) := by kernel_rfl
theorem made45 (n : Nat) (hn : n ≤ 1000) : ∃ CS : Array Value, (CS.size = n ∧ ∀ i, i < n → CS[i]? = some (.bool false)) ∧ ∀ W : World, (Instr.makeSlice 45 (.int .i64 (n : Int)) (.int .i64 (n : Int))).run Try.prog W = .ok (.slice (some ⟨W.heap.size, 0, none⟩) n n) (W.alloc (.cells CS 4)) := by
  obtain ⟨i0, hi0, hz0, hz1, hz2⟩ := info_parts info4
  refine ⟨madeCells (Value.bool false).cells (n * 1), ⟨by simp [size_madeCells], fun i hi => by simp [madeCells, Value.cells, hi, Nat.mod_one]⟩, fun W => ?_⟩
  have := run_make (P := Try.prog) W 45 4 i0 _ Try.underlying45 hi0 hz0 .i64 .i64 (n : Int) (n : Int) (by omega) (Int.le_refl _) (by rw [hz2]; omega) (by omega)
  rw [hz1] at this
  simpa using this
theorem made22 (n : Nat) (hn : n ≤ 1000) : ∃ CS : Array Value, (CS.size = n ∧ ∀ i, i < n → CS[i]? = some (.int .i64 0)) ∧ ∀ W : World, (Instr.makeSlice 22 (.int .i64 (n : Int)) (.int .i64 (n : Int))).run Try.prog W = .ok (.slice (some ⟨W.heap.size, 0, none⟩) n n) (W.alloc (.cells CS 3)) := by
  obtain ⟨i0, hi0, hz0, hz1, hz2⟩ := info_parts info3
  refine ⟨madeCells (Value.int .i64 0).cells (n * 1), ⟨by simp [size_madeCells], fun i hi => by simp [madeCells, Value.cells, hi, Nat.mod_one]⟩, fun W => ?_⟩
  have := run_make (P := Try.prog) W 22 3 i0 _ Try.underlying22 hi0 hz0 .i64 .i64 (n : Int) (n : Int) (by omega) (Int.le_refl _) (by rw [hz2]; omega) (by omega)
  rw [hz1] at this
  simpa using this
/-- append to an empty slice, in a region that draws its order -/
theorem step_app0 {w : World} {ops : Array Oper} {o : Oper} {a : Act} {K : Act → World → Prop} {Q : Exit → Act → World → Prop} {E : Prop} (hgd : o.guard = none) (s x : Operand) (t : TypeId)
    (ho : o.op = .call { callee := .builtin .append, args := #[s, x], argTypes := #[t, t] })
    (base : Nat) (e : TypeId) (z : Value) (size bytes : Nat) (ht : Try.prog.underlying t = some (.slice e)) (hi : (Try.prog.info? e).map (fun i => (i.zero, i.size, i.bytes)) = some (some z, size, bytes)) (hb : 0 < size) (hzs : z.cells.size = size)
    (g0 : Option Addr) (hs : a.eval s = .slice g0 0 0)
    (ga : Option Addr) (m c : Nat) (news : List Value) (hx : a.eval x = .slice ga m c) (hl : news.length = m * size) (hnews : 0 < m → ∃ ad, ga = some ad ∧ ∀ j u, news[j]? = some u → w.cell? (ad.add j) = some u) (h1 : ∀ u ∈ news, u.oneCell' = true)
    (h63 : m ≤ Go.maxLen) (hbytes : m * bytes ≤ 140737488355328) (hbase : base ≤ w.heap.size)
    (h : ∀ ga' cap' w', RowS w' base e size (.slice ga' m cap') m news → Below w.heap.size w w' → K (a.put o.dst (.slice ga' m cap')) w') :
    if Region.wanted o (yielded ops a.tmps) = true then Oper.wp Try.prog o a w K Q else E := by
  obtain ⟨i0, hi, hz0, hz1, hz2⟩ := info_parts hi
  obtain ⟨ga', cap', w', hr, h2, h3⟩ := run_append_S (P := Try.prog) w t o.type e base i0 z size bytes ht hi hz0 hz1 hz2 hzs hb (.slice g0 0 0) 0 [] (.inl ⟨rfl, rfl, g0, rfl⟩) ga m c news hl hnews h1 (by omega) (by simpa using hbytes) hbase
  have hB := app_below h3 (Nat.le_refl _) (fun q => absurd q (by omega))
  rw [Nat.zero_add, List.nil_append] at h2
  rw [Nat.zero_add] at hr
  have hw : Region.wanted o (yielded ops a.tmps) = true := by unfold Region.wanted; rw [hgd]
  rw [if_pos hw]
  unfold Oper.wp execOp
  simp only [ho, resolve, invoke, builtin, Sem.run_bind, Sem.run_pure, Result.andThen_ok, List.map_toArray, List.map_cons, List.map_nil, hs, hx, hr]
  exact h ga' cap' w' h2 hB
def itu (l : List Int) : List Value := l.map fun (n : Int) => Value.int .u64 n
theorem rows_fs {w : World} {base n c : Nat} {o : Option Addr} {l : List Int} (h : RowS w base 40 1 (.slice o n c) n (itu l)) (hn : l.length = n) : Fs base (fun _ => False) w .u64 40 o c l := by
  rcases h with ⟨rfl, _, ga, e⟩ | ⟨_, hl, ⟨q, e⟩ | ⟨g, cap, cur, q, h1, h2, h3, h4, h5, h6⟩⟩
  · simp only [Value.slice.injEq] at e
    obtain ⟨rfl, _, rfl⟩ := e
    exact ⟨by omega, by omega, fun hp => by omega⟩
  · simp only [Value.slice.injEq] at q
    obtain ⟨rfl, _, rfl⟩ := q
    exact ⟨by omega, by omega, fun hp => by omega⟩
  · simp only [Value.slice.injEq] at q
    obtain ⟨rfl, _, rfl⟩ := q
    have h4' : c ≤ 9223372036854775807 := h4
    refine ⟨by omega, by omega, fun hp => ⟨g, 0, cur, rfl, h1, id, h2, fun i hi => ?_⟩⟩
    have e1 : (cur.toList.take (n * 1))[i]? = (itu l)[i]? := by rw [h6]
    rw [List.getElem?_take_of_lt (by omega)] at e1
    unfold itu at e1
    rw [List.getElem?_map, List.getElem?_eq_getElem hi] at e1
    rw [Nat.zero_add]
    simpa using e1
theorem Fs.lowr {lo lo' t cap : Nat} {X : Nat → Prop} {w : World} {kd : IntKind} {o : Option Addr} {l : List Int} (h : Fs lo X w kd t o cap l) (hl : lo' ≤ lo) : Fs lo' X w kd t o cap l :=
  ⟨h.1, h.2.1, fun hn => by
    obtain ⟨q, off, c, e, h0, hx, h1, h2⟩ := h.2.2 hn
    exact ⟨q, off, c, e, Nat.le_trans hl h0, hx, h1, h2⟩⟩
theorem NL.snoc {lo : Nat} {X : Nat → Prop} {w : World} : ∀ {l : List Nd} {cs : List Value}, NL lo X w l cs → ∀ {x : Nd} {o1 o2 : Option Addr} {c1 c2 : Nat}, Fs lo X w .u64 40 o1 c1 x.ns → Fs lo X w .i64 3 o2 c2 x.ks → NL lo X w (l ++ [x]) (cs ++ [.int .i64 x.k, .int .i64 x.i, .slice o1 x.ns.length c1, .slice o2 x.ks.length c2])
  | [], cs, h, x, o1, o2, c1, c2, f1, f2 => by
    have e : cs = [] := h
    subst e
    exact ⟨o1, c1, o2, c2, [], rfl, f1, f2, rfl⟩
  | n :: r, cs, ⟨p1, k1, p2, k2, cs', e, q1, q2, t⟩, x, o1, o2, c1, c2, f1, f2 => by
    subst e
    exact ⟨p1, k1, p2, k2, _, rfl, q1, q2, NL.snoc t f1 f2⟩
/-- the numbers in memory name what numI numbers -/
theorem nm_num {V : List Nat} {E : Nat → Int} {m : Nat} (hE : ∀ j (h : j < V.length), E V[j] = (j : Int)) (nd : NoD V) {z : Int} (hz : 0 ≤ kn m z → (kn m z).toNat ∈ V) : nmI m E z = numI V (kn m z) := by
  unfold nmI numI
  by_cases q : 0 ≤ kn m z
  · rw [if_pos q, if_pos q]
    obtain ⟨j, hj, e⟩ := List.mem_iff_getElem.1 (hz q)
    rw [← e, hE j hj, nd j hj]
    rfl
  · rw [if_neg q, if_neg q]
/-- the graph in the making: its first i nodes -/
structure Nmk (b0 ob lo : Nat) (pv : Array Value) (W3 wr : World) (i : Nat) (o1 : Option Addr) (n1 c1 : Nat) (R : List Int) (N : List Nd) : Prop where
  ky : Ky b0 (fun _ => False) [25, 34] W3 wr
  par : wr.heap[b0]? = some (.cells pv 25 (0, 0))
  res : wr.heap[b0 + 1]? = some (.cells #[.slice none 0 0, .slice none 0 0] 25 (0, 0))
  out : ∃ gn cn, wr.heap[ob]? = some (.cells #[.slice o1 n1 c1, .slice gn i cn] 25 (0, 0)) ∧ ∃ cs, wr.ownsRow lo 34 4 (.slice gn i cn) i cs ∧ NL lo (fun _ => False) wr N cs
  rs : Fs lo (fun _ => False) wr .i64 3 o1 c1 R
  lo : b0 + 1 < ob ∧ b0 ≤ lo ∧ lo ≤ wr.heap.size ∧ lo ≤ ob
/-- a node is written down: behind its making -/
theorem Nmk.push {b0 ob lo i n1 c1 : Nat} {pv : Array Value} {W3 wr X Y Z : World} {o1 : Option Addr} {R : List Int} {N : List Nd} {x : Nd} {p1 p2 gn gz : Option Addr} {k1 k2 cn cz : Nat} {cs : List Value}
    (h : Nmk b0 ob lo pv W3 wr i o1 n1 c1 R N) (hb : wr.heap[ob]? = some (.cells #[.slice o1 n1 c1, .slice gn i cn] 25 (0, 0))) (hr : wr.ownsRow lo 34 4 (.slice gn i cn) i cs) (hn : NL lo (fun _ => False) wr N cs)
    (B : Below wr.heap.size wr X) (f1 : Fs lo (fun _ => False) X .u64 40 p1 k1 x.ns) (f2 : Fs lo (fun _ => False) X .i64 3 p2 k2 x.ks) (BY : Below X.heap.size X Y)
    (r : Z.ownsRow lo 34 4 (.slice gz (i + 1) cz) (i + 1) (cs ++ [.int .i64 x.k, .int .i64 x.i, .slice p1 x.ns.length k1, .slice p2 x.ks.length k2])) (gr : Y.grownBy Z (Value.slice gn i cn).ownBlock) :
    Nmk b0 ob lo pv W3 (Z.setCell ⟨ob, 1, none⟩ (.slice gz (i + 1) cz)) (i + 1) o1 n1 c1 R (N ++ [x]) := by
  obtain ⟨l1, l2, l3, l4⟩ := h.lo
  have Bw := belowOn B BY
  have K1 : Ky b0 (fun _ => False) [25, 34] wr Y := Ky.later (Nat.le_trans l2 l3) Bw
  have hy : lo ≤ Y.heap.size := Nat.le_trans l3 Bw.size
  have rY := own_later hr Bw
  have KT : Kt b0 34 Y Z := Kt.own gr (own_mono rY l2) (Nat.le_trans l2 hy)
  have K2 : Ky b0 (fun _ => False) [25, 34] Y Z := KT.ky.mono (by simp)
  have ob1 := (Bw.block _ (Array.getElem?_eq_some_iff.1 hb).1).trans hb
  have ob2 := KT.keep _ _ ob1 (fun c f e => by cases e)
  have par1 := (Bw.block _ (Array.getElem?_eq_some_iff.1 h.par).1).trans h.par
  have par2 := KT.keep _ _ par1 (fun c f e => by cases e)
  have res1 := (Bw.block _ (Array.getElem?_eq_some_iff.1 h.res).1).trans h.res
  have res2 := KT.keep _ _ res1 (fun c f e => by cases e)
  have KS : Kt b0 25 Z (Z.setCell ⟨ob, 1, none⟩ (.slice gz (i + 1) cz)) := Kt.set ob2 (by omega)
  have K3 : Ky b0 (fun _ => False) [25, 34] Z (Z.setCell ⟨ob, 1, none⟩ (.slice gz (i + 1) cz)) := KS.ky.mono (by simp)
  have KA := (K1.trans K2).trans K3
  refine ⟨h.ky.trans KA, (Below.heap_setCell _ _ _ _ (show b0 ≠ ob by omega)).trans par2, (Below.heap_setCell _ _ _ _ (show b0 + 1 ≠ ob by omega)).trans res2, ⟨gz, cz, Joins.block_setCell ob2 (i := 1) _, _, own_ky r KS.ky (by decide) (fun _ _ => id), ?_⟩, h.rs.ky KA (by decide), l1, l2, ?_, l4⟩
  · have n1 : NL lo (fun _ => False) (Z.setCell ⟨ob, 1, none⟩ (.slice gz (i + 1) cz)) N cs := hn.map (fun q => q.ky KA (by decide)) (fun q => q.ky KA (by decide))
    have K4 : Ky b0 (fun _ => False) [25, 34] X (Z.setCell ⟨ob, 1, none⟩ (.slice gz (i + 1) cz)) := ((Ky.later (Nat.le_trans l2 (Nat.le_trans l3 B.size)) BY).trans K2).trans K3
    exact n1.snoc (f1.ky K4 (by decide)) (f2.ky K4 (by decide))
  · have := KT.bel.size
    have : Z.heap.size ≤ (Z.setCell ⟨ob, 1, none⟩ (.slice gz (i + 1) cz)).heap.size := by simp
    have := gr.size
    omega
end Go.Proofs.Ytncimddgkgclpaa
