/- A meeting: meet. -/
import Derived.Test.YtncimddgkgclpaaMte
import Derived.Maps.AppendAt
namespace Go.Proofs.Ytncimddgkgclpaa
open Go.RowKit
set_option linter.unusedVariables false
set_option linter.unusedSimpArgs false
set_option maxRecDepth 100000

/-- append of one item of several cells, in a region that draws its order -/
theorem step_appN {w : World} {ops : Array Oper} {o : Oper} {a : Act} {K : Act → World → Prop} {Q : Exit → Act → World → Prop} {E : Prop} (hgd : o.guard = none) (s x : Operand) (t : TypeId)
    (ho : o.op = .call { callee := .builtin .append, args := #[s, x], argTypes := #[t, t] })
    (base : Nat) (e : TypeId) (z : Value) (size bytes : Nat) (ht : Try.prog.underlying t = some (.slice e)) (hi : (Try.prog.info? e).map (fun i => (i.zero, i.size, i.bytes)) = some (some z, size, bytes)) (hb : 0 < bytes ∧ bytes ≤ 100 ∧ 0 < size) (hzs : z.cells.size = size)
    (v : Value) (n : Nat) (xs : List Value) (hs : a.eval s = v) (hown : w.ownsRow base e size v n xs)
    (p : Nat) (us : List Value) (hx : a.eval x = .slice (some ⟨p, 0, none⟩) 1 1) (hus : us.length = 1 * size) (hp : ∀ j u, us[j]? = some u → w.cell? ((⟨p, 0, none⟩ : Addr).add j) = some u) (h1 : ∀ u ∈ us, u.oneCell' = true)
    (hn : n ≤ 1000000) (hbase : base ≤ w.heap.size)
    (h : ∀ v' w', w'.ownsRow base e size v' (n + 1) (xs ++ us) → w.grownBy w' v.ownBlock → (v'.ownBlock = v.ownBlock ∨ v'.ownBlock = some w.heap.size) → K (a.put o.dst v') w') :
    if Region.wanted o (yielded ops a.tmps) = true then Oper.wp Try.prog o a w K Q else E := by
  obtain ⟨i0, hi, hz0, hz1, hz2⟩ := info_parts hi
  obtain ⟨v', w', hr, h2, h3, h4, h5⟩ := run_append_own_at (P := Try.prog) w base t o.type e i0 z size bytes ht hi hz0 hz1 hz2 hzs hb.2.2 v n xs hown ⟨p, 0, none⟩ 1 1 us hus hp h1 (by unfold Go.maxLen; omega) (by have : (n + 1) * bytes ≤ (n + 1) * 100 := Nat.mul_le_mul_left _ hb.2.1; omega) hbase
  have hw : Region.wanted o (yielded ops a.tmps) = true := by unfold Region.wanted; rw [hgd]
  rw [if_pos hw]
  unfold Oper.wp execOp
  simp only [ho, resolve, invoke, builtin, Sem.run_bind, Sem.run_pure, Result.andThen_ok, List.map_toArray, List.map_cons, List.map_nil, hs, hx, hr]
  exact h v' w' h2 h3 h5
theorem own_no {v v' : Value} {b N : Nat} (h : v.ownBlock ≠ some b) (hb : b < N) (o : v'.ownBlock = v.ownBlock ∨ v'.ownBlock = some N) : v'.ownBlock ≠ some b := by
  rcases o with q | q
  · rw [q]; exact h
  · rw [q]; intro e; have := Option.some.inj e; omega
theorem own_mono {w : World} {base lo e size n : Nat} {v : Value} {xs : List Value} (h : w.ownsRow lo e size v n xs) (hb : base ≤ lo) : w.ownsRow base e size v n xs :=
  ⟨h.1, h.2.imp id fun ⟨g, cap, cur, e, q, r⟩ => ⟨g, cap, cur, e, Nat.le_trans hb q, r⟩⟩
theorem Ky.mono {base : Nat} {X : Nat → Prop} {T T' : List Nat} {w w' : World} (h : Ky base X T w w') (ht : ∀ t ∈ T, t ∈ T') : Ky base X T' w w' := ⟨h.bel, fun k c t f h1 h2 h3 => h.keep k c t f h1 (fun q => h2 (ht t q)) h3⟩
theorem row_sl {w : World} {base size n : Nat} {e : TypeId} {v : Value} {xs : List Value} (h : w.ownsRow base e size v n xs) : ∃ ga cap, v = .slice ga n cap := by
  rcases h.2 with ⟨rfl, e0⟩ | ⟨g, cap, cur, rfl, _⟩
  · exact ⟨none, 0, by rw [e0]⟩
  · exact ⟨_, _, rfl⟩
abbrev lkv (gb ab : Nat) : Value := .func (.func 38) #[] #[pt gb, pt ab]
/-- how nodes are asked -/
structure Lk (base lo : Nat) (X : Nat → Prop) (J : World → Prop) (D : Nat → Nd) (m gb ab : Nat) : Prop where
  call : ∀ W, J W → lo ≤ W.heap.size → ∀ n, n < m → Calls Try.prog 38 #[.int .i64 n, pt gb, pt ab] W fun e w' => (∃ o1 c1 o2 c2, e = .returned (.tuple #[.agg #[.int .i64 (D n).k, .int .i64 (D n).i, .slice o1 (D n).ns.length c1, .slice o2 (D n).ks.length c2], .int .i64 0]) ∧ Fs lo X w' .u64 40 o1 c1 (D n).ns ∧ Fs lo X w' .i64 3 o2 c2 (D n).ks) ∧ J w' ∧ Kx base X W w'
  keep : ∀ W W', J W → Ky base (fun _ => False) [34, 22, 71] W W' → J W'
  lo : base ≤ lo
theorem info34 : (Try.prog.info? 34).map (fun i => (i.zero, i.size, i.bytes)) = some (some (.agg #[.int .i64 0, .int .i64 0, .slice none 0 0, .slice none 0 0]), 4, 64) := by kernel_rfl
section
variable {base lo mb mm m gb ab : Nat} {X : Nat → Prop} {J : World → Prop} {w w' : World} {nv : Value} {D : Nat → Nd} {met : List Nat}
theorem Mt.form {lv : Value} (h : Mt base lo X w mb mm lv nv D met) : ∃ ga cap, nv = .slice ga met.length cap := by
  obtain ⟨cs, r, _⟩ := h.row
  rcases r.2 with ⟨rfl, e⟩ | ⟨pb, cap, cur, rfl, _⟩
  · exact ⟨none, 0, by rw [e]⟩
  · exact ⟨_, _, rfl⟩
/-- a number is written -/
theorem Mt.put {lv : Value} (h : Mt base lo X w mb mm lv nv D met) {p : Nat} (hp : p ≤ 1000000) (hl : met.length ≤ 1000000) :
    ∃ w', (Instr.mapUpdate 69 (.map (some mm)) (.int .i64 p) (.int .i64 met.length)).run Try.prog w = .ok () w' ∧ Ky base (fun _ => False) [] w w' ∧ w.grownBy w' (some mm) ∧
      ∃ n f, n ≤ met.length + 1 ∧ VM 3 w' mm n f ∧ ∀ x, isI x → f (.int .i64 x) = if x = p then some (.int .i64 met.length) else mfI met x := by
  obtain ⟨n, f, h1, h2, h3⟩ := h.map
  have hip : isI (p : Int) := by unfold isI; omega
  obtain ⟨w', hr, hv, hg⟩ := h2.store lawI Try.underlying69 (by unfold Go.maxLen; omega) (keyI hip) (val := .int .i64 met.length)
  obtain ⟨es, c, hm⟩ := h2.isMap
  refine ⟨w', hr, ⟨⟨hg.os, hg.tape, hg.output, hg.size, fun k hk => hg.block k (Nat.lt_of_lt_of_le hk (Nat.le_trans (Nat.le_trans h.lo.1 h.lo.2.2.1) (Nat.le_of_lt h2.lt))) (fun e => by cases e; have := h.lo; omega)⟩, fun k c' t f' q1 _ _ => (hg.block k (Array.getElem?_eq_some_iff.1 q1).1 (fun e => by cases e; rw [hm] at q1; cases q1)).trans q1⟩, hg, n + 1, _, by omega, hv, fun x hx => ?_⟩
  by_cases e : x = p
  · subst e
    rw [if_pos rfl]
    exact upd_same f (lawI.key (keyI hip)) _
  · rw [if_neg e, upd_other f (fun q => e (by cases q; rfl)) _]
    exact h3 x hx
set_option maxHeartbeats 8000000 in
theorem meet51 (L : Lk base lo X J D m gb ab) (hJ : J w) (h : Mt base lo X w mb mm (lkv gb ab) nv D met) (hw : lo ≤ w.heap.size) {p : Nat} (hp : p < m) (hm : m ≤ 1000) (hn : pos met p = none) (hl : met.length ≤ 1000) :
    Calls Try.prog 51 #[pt mb, .int .i64 p] w fun e w' => ∃ o2 c2 nv', e = .returned (.tuple #[.slice o2 (D p).ks.length c2, .int .i64 0]) ∧ Fs lo X w' .i64 3 o2 c2 (D p).ks ∧ Mt base lo X w' mb mm (lkv gb ab) nv' D (met ++ [p]) ∧ J w' ∧ Ky base X [67, 34, 71] w w' := by
  obtain ⟨c0, c1, c2, c3⟩ := h.c0
  have CL := L.call w hJ hw p hp
  obtain ⟨ga, pc, ev⟩ := h.form
  subst ev
  have HL := Hid.mk L
  have HH := Hid.mk h
  have HJ := Hid.mk hJ
  have HW := Hid.mk hw
  have HN := Hid.mk hn
  obtain ⟨k, hk⟩ : ∃ k, met.length = k := ⟨_, rfl⟩
  have HK := Hid.mk hk
  rw [hk] at c3 hl
  have hD : Hid (D p = D p) := ⟨rfl⟩
  obtain ⟨n1, h1⟩ : ∃ n, (D p).ns.length = n := ⟨_, rfl⟩
  obtain ⟨n2, h2⟩ : ∃ n, (D p).ks.length = n := ⟨_, rfl⟩
  rw [h1, h2] at CL
  rw [h2]
  have HN1 := Hid.mk h1
  have HN2 := Hid.mk h2
  have HCL := Hid.mk CL
  clear L h hJ hw hn hk h1 h2 CL
  go_enter Try.func51, Try.ntmps51
  go_wp2_with (go_at_call 38; refine HCL.out.mono ?_; rintro e w1 ⟨⟨o1, q1, o2, q2, rfl, F1, F2⟩, J1, K1⟩; have HF1 := Hid.mk F1; have HF2 := Hid.mk F2; have HJ1 := Hid.mk J1; have HK1 := Hid.mk K1; clear F1 F2 J1 K1)
  have bl := HL.out.lo
  have bw1 : base ≤ w1.heap.size := Nat.le_trans bl (Nat.le_trans HW.out HK1.out.bel.size)
  have B2 : Below w1.heap.size w1 (w1.alloc (.cells #[.int .i64 (D p).k, .int .i64 (D p).i, .slice o1 n1 q1, .slice o2 n2 q2] 34)) := by go_grown
  have K2 := HK1.out.trans (Kx.later bw1 B2)
  have y1 : (w1.alloc (.cells #[.int .i64 (D p).k, .int .i64 (D p).i, .slice o1 n1 q1, .slice o2 n2 q2] 34)).heap[w1.heap.size]? = some (.cells #[.int .i64 (D p).k, .int .i64 (D p).i, .slice o1 n1 q1, .slice o2 n2 q2] 34 (0, 0)) := heap_alloc_new _ _
  have ylo : lo ≤ w1.heap.size := Nat.le_trans HW.out HK1.out.bel.size
  have f1 := HF1.out.later B2
  have f2 := HF2.out.later B2
  have j2 := HL.out.keep _ _ HJ1.out (Ky.later bw1 B2)
  have HY := Hid.mk (And.intro y1 (And.intro f1 (And.intro f2 j2)))
  have ybs : Hid ((w1.alloc (.cells #[.int .i64 (D p).k, .int .i64 (D p).i, .slice o1 n1 q1, .slice o2 n2 q2] 34)).heap.size = w1.heap.size + 1) := ⟨by simp⟩
  clear y1 f1 f2 j2 B2
  generalize w1.alloc (.cells #[.int .i64 (D p).k, .int .i64 (D p).i, .slice o1 n1 q1, .slice o2 n2 q2] 34) = W2 at *
  have M2 := HH.out.kx K2
  have bw2 : base ≤ W2.heap.size := Nat.le_trans bw1 (by have := ybs.out; omega)
  have BD : Below W2.heap.size W2 W2.drew := (Below.refl _ _).drew
  have M3 := M2.kx (Kx.later bw2 BD)
  obtain ⟨w3, hr, ky, gr, nn, f, g1, g2, g3⟩ := M3.put (p := p) (by omega) (by have := HK.out; omega)
  rw [HK.out] at hr g1 g3
  obtain ⟨e0, e1, e2, e3⟩ := M2.c0
  rw [HK.out] at e3
  have HM3 := Hid.mk M3
  have HM2 := Hid.mk M2
  have HKY := Hid.mk ky
  have HGR := Hid.mk gr
  have HG := Hid.mk (And.intro g1 (And.intro g2 g3))
  have HK2 := Hid.mk K2
  clear M2 M3 ky gr g1 g2 g3 K2 c0 c1 c2 c3
  go_region
  have bw3 : base ≤ w3.heap.size := by have h1 : W2.heap.size ≤ w3.heap.size := HGR.out.size; omega
  have K3 : Ky base (fun _ => False) [] W2 w3 := (Ky.later bw2 BD).trans HKY.out
  have y3 := K3.keep _ _ _ _ HY.out.1 (by simp) id
  have m3 := K3.keep _ _ _ _ HM2.out.box (by simp) id
  obtain ⟨cs, r2, nr2⟩ := HM2.out.row
  have nr3 := nr2.map (w' := w3) (fun q => q.ky (X := X) K3.any (by simp)) (fun q => q.ky (X := X) K3.any (by simp))
  have f13 := HY.out.2.1.ky (X := X) K3.any (by simp)
  have f23 := HY.out.2.2.1.ky (X := X) K3.any (by simp)
  have r3 : w3.ownsRow lo 34 4 (.slice ga k pc) k cs := by
    rw [HK.out] at r2
    obtain ⟨hl, r⟩ := r2
    refine ⟨hl, ?_⟩
    rcases r with e | ⟨pb, cap, cur, e, hb, hg, r⟩
    · exact .inl e
    · exact .inr ⟨pb, cap, cur, e, hb, K3.keep _ _ _ _ hg (by simp) id, r⟩
  have HR3 : Hid (∀ W, Below w3.heap.size w3 W → W.ownsRow lo 34 4 (.slice ga k pc) k cs) := ⟨fun W b => own_later r3 b⟩
  have cm3 : w3.cell? ⟨mb, 3, none⟩ = some (.slice ga k pc) := by rw [Joins.cell_of_block m3, ← HK.out]; rfl
  have cy0 : w3.cell? ⟨w1.heap.size, 0, none⟩ = some (.int .i64 (D p).k) := by rw [Joins.cell_of_block y3]; rfl
  have cy1 : w3.cell? ⟨w1.heap.size, 1, none⟩ = some (.int .i64 (D p).i) := by rw [Joins.cell_of_block y3]; rfl
  have cy2 : w3.cell? ⟨w1.heap.size, 2, none⟩ = some (.slice o1 n1 q1) := by rw [Joins.cell_of_block y3]; rfl
  have cy3 : w3.cell? ⟨w1.heap.size, 3, none⟩ = some (.slice o2 n2 q2) := by rw [Joins.cell_of_block y3]; rfl
  have HY3 := Hid.mk (And.intro m3 (And.intro nr3 (And.intro f13 f23)))
  have HKK := Hid.mk K3
  obtain ⟨i0, hi, hz0, hz1, hz2⟩ := info_parts' info34
  have hw3 : lo ≤ w3.heap.size := by have h1 : W2.heap.size ≤ w3.heap.size := HGR.out.size; have := ybs.out; omega
  have HYB := Hid.mk y3
  have HOW : Hid ((Value.slice ga k pc).ownBlock ≠ some w1.heap.size) := ⟨fun e => by
    obtain ⟨cs0, r0, _⟩ := HH.out.row
    rw [HK.out] at r0
    have q1 := (r0.lt _ e).2
    have q2 := HK1.out.bel.size
    omega⟩
  have HOM : Hid ((Value.slice ga k pc).ownBlock ≠ some mb) := ⟨fun e => by
    rcases r3.2 with ⟨e1, _⟩ | ⟨pb, cap, cur, e1, hb, hg, _⟩
    · rw [e1] at e; simp [Value.ownBlock] at e
    · rw [e1] at e
      have e2 : pb = mb := Option.some.inj e
      subst e2
      rw [m3] at hg
      cases hg⟩
  clear hr y3 m3 r2 nr2 nr3 f13 f23 r3 K3 BD e0 e1 e2 e3
  go_wp2
  have BA : Below w3.heap.size w3 (w3.alloc (.cells #[.int .i64 (D p).k, .int .i64 (D p).i, .slice o1 n1 q1, .slice o2 n2 q2] 34)).drew := (Joins.below_alloc1 w3 _).drew
  have HRA : Hid ((w3.alloc (.cells #[.int .i64 (D p).k, .int .i64 (D p).i, .slice o1 n1 q1, .slice o2 n2 q2] 34)).drew.ownsRow lo 34 4 (.slice ga k pc) k cs) := ⟨HR3.out _ BA⟩
  have HNW : Hid (∀ j u, [Value.int .i64 (D p).k, .int .i64 (D p).i, .slice o1 n1 q1, .slice o2 n2 q2][j]? = some u → (w3.alloc (.cells #[.int .i64 (D p).k, .int .i64 (D p).i, .slice o1 n1 q1, .slice o2 n2 q2] 34)).drew.cell? ((⟨w3.heap.size, 0, none⟩ : Addr).add j) = some u) := ⟨World.news_of_block (heap_alloc_new _ _)⟩
  have HLO : Hid (lo ≤ (w3.alloc (.cells #[.int .i64 (D p).k, .int .i64 (D p).i, .slice o1 n1 q1, .slice o2 n2 q2] 34)).drew.heap.size) := ⟨Nat.le_trans hw3 BA.size⟩
  have HBA := Hid.mk BA
  have am : (w3.alloc (.cells #[.int .i64 (D p).k, .int .i64 (D p).i, .slice o1 n1 q1, .slice o2 n2 q2] 34)).drew.cell? ⟨mb, 3, none⟩ = some (.slice ga k pc) := cellLater BA cm3
  have sA : (w3.alloc (.cells #[.int .i64 (D p).k, .int .i64 (D p).i, .slice o1 n1 q1, .slice o2 n2 q2] 34)).drew.cell? ⟨w1.heap.size, 0, none⟩ = some (.int .i64 (D p).k) ∧ (w3.alloc (.cells #[.int .i64 (D p).k, .int .i64 (D p).i, .slice o1 n1 q1, .slice o2 n2 q2] 34)).drew.cell? ⟨w1.heap.size, 1, none⟩ = some (.int .i64 (D p).i) ∧ (w3.alloc (.cells #[.int .i64 (D p).k, .int .i64 (D p).i, .slice o1 n1 q1, .slice o2 n2 q2] 34)).drew.cell? ⟨w1.heap.size, 2, none⟩ = some (.slice o1 n1 q1) ∧ (w3.alloc (.cells #[.int .i64 (D p).k, .int .i64 (D p).i, .slice o1 n1 q1, .slice o2 n2 q2] 34)).drew.cell? ⟨w1.heap.size, 3, none⟩ = some (.slice o2 n2 q2) := ⟨cellLater BA cy0, cellLater BA cy1, cellLater BA cy2, cellLater BA cy3⟩
  have HYA := Hid.mk (HBA.out.block _ (Array.getElem?_eq_some_iff.1 HYB.out).1 |>.trans HYB.out)
  have HMA := Hid.mk (HBA.out.block _ (Array.getElem?_eq_some_iff.1 HY3.out.1).1 |>.trans HY3.out.1)
  clear BA
  refine wp_region_held_drew (S := (fun W' => W'.cell? ⟨w1.heap.size, 0, none⟩ = some (.int .i64 (D p).k) ∧ W'.cell? ⟨w1.heap.size, 1, none⟩ = some (.int .i64 (D p).i) ∧ W'.cell? ⟨w1.heap.size, 2, none⟩ = some (.slice o1 n1 q1) ∧ W'.cell? ⟨w1.heap.size, 3, none⟩ = some (.slice o2 n2 q2))) (by kernel_rfl) ?_ (fun hHeld => ?_)
  · first | trivial | (try dsimp only; go_keep) | go_keep
  refine wpAnyH_take (i := 0) (v := ?_) rfl (by kernel_rfl) (by kernel_rfl) (by kernel_rfl) (fun _ _ _ h => h) (Or.inl ⟨by rfl, ?_⟩) (by assumption) ?_
  rotate_left
  · intro w' hSw
    try dsimp only at hSw
    go_simp
    try with_reducible rfl
  try simp only [Act.put, List.getElem_toArray, List.getElem_cons_zero, List.getElem_cons_succ, List.setIfInBounds_toArray, List.set_cons_zero, List.set_cons_succ]
  refine wpAnyH_take (i := 1) (v := ?_) rfl (by kernel_rfl) (by kernel_rfl) (by kernel_rfl) (fun _ _ _ h => h) (Or.inl ⟨by rfl, ?_⟩) (by assumption) ?_
  rotate_left
  · intro w' hSw
    try dsimp only at hSw
    go_simp
    try with_reducible rfl
  try simp only [Act.put, List.getElem_toArray, List.getElem_cons_zero, List.getElem_cons_succ, List.setIfInBounds_toArray, List.set_cons_zero, List.set_cons_succ]
  refine wpAnyH_take (i := 2) (v := ?_) rfl (by kernel_rfl) (by kernel_rfl) (by kernel_rfl) (fun _ _ _ h => h) (Or.inl ⟨by rfl, ?_⟩) (by assumption) ?_
  rotate_left
  · intro w' hSw
    try dsimp only at hSw
    go_simp
    try with_reducible rfl
  try simp only [Act.put, List.getElem_toArray, List.getElem_cons_zero, List.getElem_cons_succ, List.setIfInBounds_toArray, List.set_cons_zero, List.set_cons_succ]
  refine wpAnyH_take (i := 3) (v := ?_) rfl (by kernel_rfl) (by kernel_rfl) (by kernel_rfl) (fun _ _ _ h => h) (Or.inl ⟨by rfl, ?_⟩) (by assumption) ?_
  rotate_left
  · intro w' hSw
    try dsimp only at hSw
    go_simp
    try with_reducible rfl
  try simp only [Act.put, List.getElem_toArray, List.getElem_cons_zero, List.getElem_cons_succ, List.setIfInBounds_toArray, List.set_cons_zero, List.set_cons_succ]
  refine wpAnyH_take (i := 5) (v := ?_) rfl (by kernel_rfl) (by kernel_rfl) (by kernel_rfl) (fun _ _ _ h => h) (Or.inl ⟨by rfl, ?_⟩) (by assumption) ?_
  rotate_left
  · intro w' hSw
    try dsimp only at hSw
    go_simp
    try with_reducible rfl
  try simp only [Act.put, List.getElem_toArray, List.getElem_cons_zero, List.getElem_cons_succ, List.setIfInBounds_toArray, List.set_cons_zero, List.set_cons_succ]
  refine wpAnyH_ready (rs := [4, 6]) (by kernel_rfl) (by simp) ?_
  refine AllReadyH.cons rfl (fun K' hK => ?_) (AllReadyH.cons rfl (fun K' hK => ?_) AllReadyH.nil)
  · go_simp
    refine hK.out _ _ (by first | exact s9 | exact sA | exact s8 | trivial | (try dsimp only; go_keep) | go_keep) (fun hHeld => ?_)
    clear hK K'
    try simp only [Act.put, List.getElem_toArray, List.getElem_cons_zero, List.getElem_cons_succ, List.setIfInBounds_toArray, List.set_cons_zero, List.set_cons_succ]
    refine wpAnyH_ready (rs := [6]) (by kernel_rfl) (by simp) ?_
    refine AllReadyH.cons rfl (fun K' hK => ?_) AllReadyH.nil
    go_simp
    refine hK.out _ _ (by first | exact s9 | exact sA | exact s8 | trivial | (try dsimp only; go_keep) | go_keep) (fun hHeld => ?_)
    clear hK K'
    try simp only [Act.put, List.getElem_toArray, List.getElem_cons_zero, List.getElem_cons_succ, List.setIfInBounds_toArray, List.set_cons_zero, List.set_cons_succ]
    generalize (w3.alloc (.cells #[.int .i64 (D p).k, .int .i64 (D p).i, .slice o1 n1 q1, .slice o2 n2 q2] 34)).drew = WA at *
    refine wpAnyH_ready (rs := [7]) (by kernel_rfl) (by simp) ?_
    refine AllReadyH.cons rfl (fun K' hK => ?_) AllReadyH.nil
    refine step_appN rfl (.tmp 34) (.tmp 36) 23 rfl lo 34 (.agg #[.int .i64 0, .int .i64 0, .slice none 0 0, .slice none 0 0]) 4 64 Try.underlying23 info34 (by decide) rfl (.slice ga k pc) k cs rfl HRA.out w3.heap.size [.int .i64 (D p).k, .int .i64 (D p).i, .slice o1 n1 q1, .slice o2 n2 q2] rfl rfl HNW.out (by simp [Value.oneCell']) (by omega) HLO.out ?_
    intro v' w8 r8 g8 o8
    obtain ⟨gw, nw, rfl⟩ := row_sl r8
    have HS8 := Hid.mk (And.intro r8 (And.intro g8 o8))
    have hy8 := (g8.block _ (Array.getElem?_eq_some_iff.1 HYA.out).1 (fun e => HOW.out e.symm)).trans HYA.out
    have hm8 := (g8.block _ (Array.getElem?_eq_some_iff.1 HMA.out).1 (fun e => HOM.out e.symm)).trans HMA.out
    have s8 : w8.cell? ⟨w1.heap.size, 0, none⟩ = some (.int .i64 (D p).k) ∧ w8.cell? ⟨w1.heap.size, 1, none⟩ = some (.int .i64 (D p).i) ∧ w8.cell? ⟨w1.heap.size, 2, none⟩ = some (.slice o1 n1 q1) ∧ w8.cell? ⟨w1.heap.size, 3, none⟩ = some (.slice o2 n2 q2) := by
      refine ⟨?_, ?_, ?_, ?_⟩ <;> (rw [Joins.cell_of_block hy8]; rfl)
    have m8 : w8.cell? ⟨mb, 3, none⟩ = some (.slice ga k pc) := by rw [Joins.cell_of_block hm8, ← HK.out]; rfl
    have z8 : w8.frozen? ⟨mb, 3, none⟩ = false := Joins.unfrozen_of_block hm8 3
    have nmy : mb ≠ w1.heap.size := fun e => by rw [e, hy8] at hm8; cases hm8
    have s9 : (w8.setCell ⟨mb, 3, none⟩ (.slice gw (k + 1) nw)).cell? ⟨w1.heap.size, 0, none⟩ = some (.int .i64 (D p).k) ∧ (w8.setCell ⟨mb, 3, none⟩ (.slice gw (k + 1) nw)).cell? ⟨w1.heap.size, 1, none⟩ = some (.int .i64 (D p).i) ∧ (w8.setCell ⟨mb, 3, none⟩ (.slice gw (k + 1) nw)).cell? ⟨w1.heap.size, 2, none⟩ = some (.slice o1 n1 q1) ∧ (w8.setCell ⟨mb, 3, none⟩ (.slice gw (k + 1) nw)).cell? ⟨w1.heap.size, 3, none⟩ = some (.slice o2 n2 q2) := by
      have hy9 := (Below.heap_setCell w8 ⟨mb, 3, none⟩ (.slice gw (k + 1) nw) _ (Ne.symm nmy)).trans hy8
      refine ⟨?_, ?_, ?_, ?_⟩ <;> (rw [Joins.cell_of_block hy9]; rfl)
    have HH8 := Hid.mk (And.intro hy8 hm8)
    clear r8 g8 o8 hy8 hm8
    refine hK.out _ _ s8 (fun hHeld => ?_)
    clear hK K'
    try simp only [Act.put, List.getElem_toArray, List.getElem_cons_zero, List.getElem_cons_succ, List.setIfInBounds_toArray, List.set_cons_zero, List.set_cons_succ]
    refine wpAnyH_take (i := 8) (v := ?_) rfl (by kernel_rfl) (by kernel_rfl) (by kernel_rfl) (fun _ _ _ h => h) (Or.inl ⟨by rfl, ?_⟩) (by assumption) ?_
    rotate_left
    · intro w' hSw
      try dsimp only at hSw
      go_simp
      try with_reducible rfl
    try simp only [Act.put, List.getElem_toArray, List.getElem_cons_zero, List.getElem_cons_succ, List.setIfInBounds_toArray, List.set_cons_zero, List.set_cons_succ]
    refine wpAnyH_take (i := 9) (v := ?_) rfl (by kernel_rfl) (by kernel_rfl) (by kernel_rfl) (fun _ _ _ h => h) (Or.inl ⟨by rfl, ?_⟩) (by assumption) ?_
    rotate_left
    · intro w' hSw
      try dsimp only at hSw
      go_simp
      try with_reducible rfl
    try simp only [Act.put, List.getElem_toArray, List.getElem_cons_zero, List.getElem_cons_succ, List.setIfInBounds_toArray, List.set_cons_zero, List.set_cons_succ]
    refine wpAnyH_ready (rs := [10]) (by kernel_rfl) (by simp) ?_
    refine AllReadyH.cons rfl (fun K' hK => ?_) AllReadyH.nil
    go_simp
    refine hK.out _ _ (by first | exact s9 | exact sA | exact s8 | trivial | (try dsimp only; go_keep) | go_keep) (fun hHeld => ?_)
    clear hK K'
    try simp only [Act.put, List.getElem_toArray, List.getElem_cons_zero, List.getElem_cons_succ, List.setIfInBounds_toArray, List.set_cons_zero, List.set_cons_succ]
    refine wpAnyH_done (by kernel_rfl) ?_ _
    obtain ⟨t0, t1, t2, t3⟩ := s9
    go_wp2
    go_ret2
    obtain ⟨r8, g8, o8⟩ := HS8.out
    obtain ⟨hy8, hm8⟩ := HH8.out
    have KA := Ky.later (X := fun _ => False) (T := [34, 71]) bw3 HBA.out
    have bwa : base ≤ WA.heap.size := Nat.le_trans bw3 HBA.out.size
    have K8 := Ky.own (X := fun _ => False) (T := [34, 71]) (base := base) g8 (own_mono HRA.out bl) (by simp) bwa
    have K9 := Ky.set (X := fun _ => False) (T := [34, 71]) (base := base) (w := w8) (i := 3) (v := .slice gw (k + 1) nw) hm8 (by simp) (Nat.le_trans bl HM2.out.lo.2.1)
    have KF := (KA.trans K8).trans K9
    refine ⟨o2, q2, .slice gw (k + 1) nw, rfl, HY3.out.2.2.2.ky (X := X) KF.any (by simp), ?_, HL.out.keep _ _ (HL.out.keep _ _ HY.out.2.2.2 (HKK.out.mono (by simp))) (KF.mono (by simp)), ((HK2.out.ky (T := [67, 34, 71]) (by simp)).trans (HKK.out.mono (by simp)).any).trans (KF.mono (by simp)).any⟩
    obtain ⟨g1, g2, g3⟩ := HG.out
    obtain ⟨es, cc, hmap⟩ := g2.isMap
    have hmm : (w8.setCell ⟨mb, 3, none⟩ (.slice gw (k + 1) nw)).heap[mm]? = w3.heap[mm]? := by
      have b1 := HBA.out.block mm (Array.getElem?_eq_some_iff.1 hmap).1
      have b2 : w8.heap[mm]? = WA.heap[mm]? := g8.block mm (Nat.lt_of_lt_of_le (Array.getElem?_eq_some_iff.1 hmap).1 HBA.out.size) (fun e => by
        rcases HRA.out.2 with ⟨e1, _⟩ | ⟨pb, cap, cur, e1, hb, hg, _⟩
        · rw [e1] at e; simp [Value.ownBlock] at e
        · rw [e1] at e
          have e2 : mm = pb := Option.some.inj e
          subst e2
          rw [b1, hmap] at hg
          cases hg)
      exact (Below.heap_setCell _ _ _ _ (fun e => by have e' : mm = mb := e; rw [e'] at b1 b2 hmap; rw [hm8, b1, hmap] at b2; cases b2)).trans (b2.trans b1)
    refine ⟨by rw [Joins.block_setCell hm8]; rfl, ⟨nn, f, by rw [List.length_append, HK.out]; exact g1, g2.of_block hmm, fun x hx => ?_⟩, ⟨cs ++ [.int .i64 (D p).k, .int .i64 (D p).i, .slice o1 n1 q1, .slice o2 n2 q2], ?_, ?_⟩, HM2.out.lo⟩
    · rw [g3 x hx]
      unfold mfI
      by_cases e : x = p
      · subst e
        rw [if_pos rfl, if_pos (Int.natCast_nonneg p), Int.toNat_natCast, pos_app met p p HN.out, if_pos rfl, HK.out]
        rfl
      · rw [if_neg e]
        split
        · rw [pos_app met p _ HN.out, if_neg (by omega)]
        · rfl
    · have := own_set r8 (b := mb) (own_no HOM.out (Array.getElem?_eq_some_iff.1 HMA.out).1 o8) 3 (.slice gw (k + 1) nw)
      rw [List.length_append, HK.out]
      exact this
    · have a1 := HY3.out.2.1.map (w' := w8.setCell ⟨mb, 3, none⟩ (.slice gw (k + 1) nw)) (fun q => q.ky (X := X) KF.any (by simp)) (fun q => q.ky (X := X) KF.any (by simp))
      have a2 := a1.snoc (n := p) (o1 := o1) (o2 := o2)  (HY3.out.2.2.1.ky (X := X) KF.any (by simp)) (HY3.out.2.2.2.ky (X := X) KF.any (by simp))
      rw [HN1.out, HN2.out] at a2
      exact a2
  · go_simp
    refine hK.out _ _ (by first | exact s9 | exact sA | exact s8 | trivial | (try dsimp only; go_keep) | go_keep) (fun hHeld => ?_)
    clear hK K'
    try simp only [Act.put, List.getElem_toArray, List.getElem_cons_zero, List.getElem_cons_succ, List.setIfInBounds_toArray, List.set_cons_zero, List.set_cons_succ]
    refine wpAnyH_ready (rs := [4]) (by kernel_rfl) (by simp) ?_
    refine AllReadyH.cons rfl (fun K' hK => ?_) AllReadyH.nil
    go_simp
    refine hK.out _ _ (by first | exact s9 | exact sA | exact s8 | trivial | (try dsimp only; go_keep) | go_keep) (fun hHeld => ?_)
    clear hK K'
    try simp only [Act.put, List.getElem_toArray, List.getElem_cons_zero, List.getElem_cons_succ, List.setIfInBounds_toArray, List.set_cons_zero, List.set_cons_succ]
    generalize (w3.alloc (.cells #[.int .i64 (D p).k, .int .i64 (D p).i, .slice o1 n1 q1, .slice o2 n2 q2] 34)).drew = WA at *
    refine wpAnyH_ready (rs := [7]) (by kernel_rfl) (by simp) ?_
    refine AllReadyH.cons rfl (fun K' hK => ?_) AllReadyH.nil
    refine step_appN rfl (.tmp 34) (.tmp 36) 23 rfl lo 34 (.agg #[.int .i64 0, .int .i64 0, .slice none 0 0, .slice none 0 0]) 4 64 Try.underlying23 info34 (by decide) rfl (.slice ga k pc) k cs rfl HRA.out w3.heap.size [.int .i64 (D p).k, .int .i64 (D p).i, .slice o1 n1 q1, .slice o2 n2 q2] rfl rfl HNW.out (by simp [Value.oneCell']) (by omega) HLO.out ?_
    intro v' w8 r8 g8 o8
    obtain ⟨gw, nw, rfl⟩ := row_sl r8
    have HS8 := Hid.mk (And.intro r8 (And.intro g8 o8))
    have hy8 := (g8.block _ (Array.getElem?_eq_some_iff.1 HYA.out).1 (fun e => HOW.out e.symm)).trans HYA.out
    have hm8 := (g8.block _ (Array.getElem?_eq_some_iff.1 HMA.out).1 (fun e => HOM.out e.symm)).trans HMA.out
    have s8 : w8.cell? ⟨w1.heap.size, 0, none⟩ = some (.int .i64 (D p).k) ∧ w8.cell? ⟨w1.heap.size, 1, none⟩ = some (.int .i64 (D p).i) ∧ w8.cell? ⟨w1.heap.size, 2, none⟩ = some (.slice o1 n1 q1) ∧ w8.cell? ⟨w1.heap.size, 3, none⟩ = some (.slice o2 n2 q2) := by
      refine ⟨?_, ?_, ?_, ?_⟩ <;> (rw [Joins.cell_of_block hy8]; rfl)
    have m8 : w8.cell? ⟨mb, 3, none⟩ = some (.slice ga k pc) := by rw [Joins.cell_of_block hm8, ← HK.out]; rfl
    have z8 : w8.frozen? ⟨mb, 3, none⟩ = false := Joins.unfrozen_of_block hm8 3
    have nmy : mb ≠ w1.heap.size := fun e => by rw [e, hy8] at hm8; cases hm8
    have s9 : (w8.setCell ⟨mb, 3, none⟩ (.slice gw (k + 1) nw)).cell? ⟨w1.heap.size, 0, none⟩ = some (.int .i64 (D p).k) ∧ (w8.setCell ⟨mb, 3, none⟩ (.slice gw (k + 1) nw)).cell? ⟨w1.heap.size, 1, none⟩ = some (.int .i64 (D p).i) ∧ (w8.setCell ⟨mb, 3, none⟩ (.slice gw (k + 1) nw)).cell? ⟨w1.heap.size, 2, none⟩ = some (.slice o1 n1 q1) ∧ (w8.setCell ⟨mb, 3, none⟩ (.slice gw (k + 1) nw)).cell? ⟨w1.heap.size, 3, none⟩ = some (.slice o2 n2 q2) := by
      have hy9 := (Below.heap_setCell w8 ⟨mb, 3, none⟩ (.slice gw (k + 1) nw) _ (Ne.symm nmy)).trans hy8
      refine ⟨?_, ?_, ?_, ?_⟩ <;> (rw [Joins.cell_of_block hy9]; rfl)
    have HH8 := Hid.mk (And.intro hy8 hm8)
    clear r8 g8 o8 hy8 hm8
    refine hK.out _ _ s8 (fun hHeld => ?_)
    clear hK K'
    try simp only [Act.put, List.getElem_toArray, List.getElem_cons_zero, List.getElem_cons_succ, List.setIfInBounds_toArray, List.set_cons_zero, List.set_cons_succ]
    refine wpAnyH_take (i := 8) (v := ?_) rfl (by kernel_rfl) (by kernel_rfl) (by kernel_rfl) (fun _ _ _ h => h) (Or.inl ⟨by rfl, ?_⟩) (by assumption) ?_
    rotate_left
    · intro w' hSw
      try dsimp only at hSw
      go_simp
      try with_reducible rfl
    try simp only [Act.put, List.getElem_toArray, List.getElem_cons_zero, List.getElem_cons_succ, List.setIfInBounds_toArray, List.set_cons_zero, List.set_cons_succ]
    refine wpAnyH_take (i := 9) (v := ?_) rfl (by kernel_rfl) (by kernel_rfl) (by kernel_rfl) (fun _ _ _ h => h) (Or.inl ⟨by rfl, ?_⟩) (by assumption) ?_
    rotate_left
    · intro w' hSw
      try dsimp only at hSw
      go_simp
      try with_reducible rfl
    try simp only [Act.put, List.getElem_toArray, List.getElem_cons_zero, List.getElem_cons_succ, List.setIfInBounds_toArray, List.set_cons_zero, List.set_cons_succ]
    refine wpAnyH_ready (rs := [10]) (by kernel_rfl) (by simp) ?_
    refine AllReadyH.cons rfl (fun K' hK => ?_) AllReadyH.nil
    go_simp
    refine hK.out _ _ (by first | exact s9 | exact sA | exact s8 | trivial | (try dsimp only; go_keep) | go_keep) (fun hHeld => ?_)
    clear hK K'
    try simp only [Act.put, List.getElem_toArray, List.getElem_cons_zero, List.getElem_cons_succ, List.setIfInBounds_toArray, List.set_cons_zero, List.set_cons_succ]
    refine wpAnyH_done (by kernel_rfl) ?_ _
    obtain ⟨t0, t1, t2, t3⟩ := s9
    go_wp2
    go_ret2
    obtain ⟨r8, g8, o8⟩ := HS8.out
    obtain ⟨hy8, hm8⟩ := HH8.out
    have KA := Ky.later (X := fun _ => False) (T := [34, 71]) bw3 HBA.out
    have bwa : base ≤ WA.heap.size := Nat.le_trans bw3 HBA.out.size
    have K8 := Ky.own (X := fun _ => False) (T := [34, 71]) (base := base) g8 (own_mono HRA.out bl) (by simp) bwa
    have K9 := Ky.set (X := fun _ => False) (T := [34, 71]) (base := base) (w := w8) (i := 3) (v := .slice gw (k + 1) nw) hm8 (by simp) (Nat.le_trans bl HM2.out.lo.2.1)
    have KF := (KA.trans K8).trans K9
    refine ⟨o2, q2, .slice gw (k + 1) nw, rfl, HY3.out.2.2.2.ky (X := X) KF.any (by simp), ?_, HL.out.keep _ _ (HL.out.keep _ _ HY.out.2.2.2 (HKK.out.mono (by simp))) (KF.mono (by simp)), ((HK2.out.ky (T := [67, 34, 71]) (by simp)).trans (HKK.out.mono (by simp)).any).trans (KF.mono (by simp)).any⟩
    obtain ⟨g1, g2, g3⟩ := HG.out
    obtain ⟨es, cc, hmap⟩ := g2.isMap
    have hmm : (w8.setCell ⟨mb, 3, none⟩ (.slice gw (k + 1) nw)).heap[mm]? = w3.heap[mm]? := by
      have b1 := HBA.out.block mm (Array.getElem?_eq_some_iff.1 hmap).1
      have b2 : w8.heap[mm]? = WA.heap[mm]? := g8.block mm (Nat.lt_of_lt_of_le (Array.getElem?_eq_some_iff.1 hmap).1 HBA.out.size) (fun e => by
        rcases HRA.out.2 with ⟨e1, _⟩ | ⟨pb, cap, cur, e1, hb, hg, _⟩
        · rw [e1] at e; simp [Value.ownBlock] at e
        · rw [e1] at e
          have e2 : mm = pb := Option.some.inj e
          subst e2
          rw [b1, hmap] at hg
          cases hg)
      exact (Below.heap_setCell _ _ _ _ (fun e => by have e' : mm = mb := e; rw [e'] at b1 b2 hmap; rw [hm8, b1, hmap] at b2; cases b2)).trans (b2.trans b1)
    refine ⟨by rw [Joins.block_setCell hm8]; rfl, ⟨nn, f, by rw [List.length_append, HK.out]; exact g1, g2.of_block hmm, fun x hx => ?_⟩, ⟨cs ++ [.int .i64 (D p).k, .int .i64 (D p).i, .slice o1 n1 q1, .slice o2 n2 q2], ?_, ?_⟩, HM2.out.lo⟩
    · rw [g3 x hx]
      unfold mfI
      by_cases e : x = p
      · subst e
        rw [if_pos rfl, if_pos (Int.natCast_nonneg p), Int.toNat_natCast, pos_app met p p HN.out, if_pos rfl, HK.out]
        rfl
      · rw [if_neg e]
        split
        · rw [pos_app met p _ HN.out, if_neg (by omega)]
        · rfl
    · have := own_set r8 (b := mb) (own_no HOM.out (Array.getElem?_eq_some_iff.1 HMA.out).1 o8) 3 (.slice gw (k + 1) nw)
      rw [List.length_append, HK.out]
      exact this
    · have a1 := HY3.out.2.1.map (w' := w8.setCell ⟨mb, 3, none⟩ (.slice gw (k + 1) nw)) (fun q => q.ky (X := X) KF.any (by simp)) (fun q => q.ky (X := X) KF.any (by simp))
      have a2 := a1.snoc (n := p) (o1 := o1) (o2 := o2)  (HY3.out.2.2.1.ky (X := X) KF.any (by simp)) (HY3.out.2.2.2.ky (X := X) KF.any (by simp))
      rw [HN1.out, HN2.out] at a2
      exact a2
end
end Go.Proofs.Ytncimddgkgclpaa
