/- Package heap: a generation is set aside: what each step leaves. -/
import Derived.Test.YtbdoekffadmejaaGreatDoorHmn
namespace Go.Proofs.YtbdoekffadmejaaGreatDoor
open Go.RowKit
open Go.Maps (Keyed int_keyed)
set_option linter.unusedVariables false
set_option linter.unusedSimpArgs false
set_option maxRecDepth 100000

theorem own_setA {w : World} {base n ob cap : Nat} {e : TypeId} {xs : List Value} (h : w.ownsRow base e 1 (.slice (some ⟨ob, 0, none⟩) n cap) n xs) (j : Nat) (u : Value) :
    (w.setCell ⟨ob, j, none⟩ u).ownsRow base e 1 (.slice (some ⟨ob, 0, none⟩) n cap) n (xs.set j u) := by
  refine ⟨by simpa using h.1, ?_⟩
  rcases h.2 with ⟨h0, _⟩ | ⟨g, cp, cur, hv, hb, hg, hnc, hcm, hcs, ht⟩
  · cases h0
  · cases hv
    refine .inr ⟨ob, cap, _, rfl, hb, Joins.block_setCell hg _, hnc, hcm, by simpa using hcs, ?_⟩
    rw [← ht]
    simp [List.take_set]
/-- Append of a row. -/
theorem step_appL {w : World} {ops : Array Oper} {o : Oper} {a : Act} {K : Act → World → Prop} {Q : Exit → Act → World → Prop} {E : Prop} (hgd : o.guard = none) (s x : Operand) (t : TypeId)
    (ho : o.op = .call { callee := .builtin .append, args := #[s, x], argTypes := #[t, t] })
    (base : Nat) (e : TypeId) (z : Value) (bytes : Nat) (ht : Tryz.prog.underlying t = some (.slice e)) (hi : (Tryz.prog.info? e).map (fun i => (i.zero, i.size, i.bytes)) = some (some z, 1, bytes)) (hb : 0 < bytes ∧ bytes ≤ 100) (hzs : z.cells.size = 1)
    (v : Value) (n : Nat) (xs : List Value) (hs : a.eval s = v) (hown : w.ownsRow base e 1 v n xs)
    (p m c : Nat) (us : List Value) (hl : us.length = m) (hx : a.eval x = .slice (some ⟨p, 0, none⟩) m c) (hp : ∀ j u, us[j]? = some u → w.cell? ⟨p, j, none⟩ = some u) (h1 : ∀ u ∈ us, u.oneCell' = true)
    (hn : n ≤ 1000000) (hm : m ≤ 1000000) (hbase : base ≤ w.heap.size)
    (h : ∀ v' w', w'.ownsRow base e 1 v' (n + m) (xs ++ us) → w.grownBy w' v.ownBlock → (v'.ownBlock = v.ownBlock ∨ v'.ownBlock = some w.heap.size) → K (a.put o.dst v') w') :
    if Region.wanted o (yielded ops a.tmps) = true then Oper.wp Tryz.prog o a w K Q else E := by
  obtain ⟨i0, hi, hz0, hz1, hz2⟩ := info_parts hi
  obtain ⟨v', w', hr, h2, h3, h4, h5⟩ := run_append_own_at (P := Tryz.prog) w base t o.type e i0 z 1 bytes ht hi hz0 hz1 hz2 hzs (by decide) v n xs hown ⟨p, 0, none⟩ m c us (by simpa using hl) (fun j q hj => by
    have : (⟨p, 0, none⟩ : Addr).add j = ⟨p, j, none⟩ := by unfold Addr.add; split <;> simp_all
    rw [this]; exact hp j q hj) h1 (by unfold maxLen; omega) (by have : (n + m) * bytes ≤ (n + m) * 100 := Nat.mul_le_mul_left _ hb.2; omega) hbase
  have hw : Region.wanted o (yielded ops a.tmps) = true := by unfold Region.wanted; rw [hgd]
  rw [if_pos hw]
  unfold Oper.wp execOp
  simp only [ho, resolve, invoke, builtin, Sem.run_bind, Sem.run_pure, Result.andThen_ok, List.map_toArray, List.map_cons, List.map_nil, hs, hx, hr]
  exact h v' w' h2 h3 h5
section
variable {w w' : World} {γ γ' : Nat → Tg} {h : Nat} {k : Value} {A : Ad} {H : Hs}
abbrev tmk (t : Tg) : Prop := t = .wm ∨ t = .ka
/-- The maps turn. -/
theorem Hm.maps (q : Hm w γ h k A H) (F : Fr tmk w w' γ γ') {n : Nat} {f : Wh} (M : WM w' A.wm n f) (d : ∀ x g s, f x = some (g, s) → 1 ≤ x ∧ x < H.c.b * 64 ∧ g < H.c.g ∧ s < H.c.n g) :
    Hm w' γ' h k { A with wn := n } { H with wh := f } := {
  box := F.at_ q.box (by rw [q.tag]; nofun)
  tag := F.tg q.lt q.tag
  gl := q.gl.fr F nofun
  ok := q.ok
  pool := q.pool.fr F nofun nofun
  good := q.good
  zero := q.zero
  ar := q.ar.fr F nofun nofun
  len := q.len
  word := q.word
  row := by have r := q.row.fr F nofun nofun; exact ⟨r.out, r.outT, r.inn, r.innT⟩
  sps := fun g s hg hs => (q.sps g s hg hs).fr F nofun nofun nofun
  inj := q.inj
  fit := q.fit
  wh := M
  whT := F.tg q.wh.lt q.whT
  li := q.li.fr F nofun nofun nofun
  dom := d }
theorem Km.maps {c : Cf} {p a : Nat} {B : Wa} {K : Wk} (q : Km w γ c p a B K) (F : Fr tmk w w' γ γ') {n : Nat} {f : Wh} (M : WM w' B.am n f) (d : ∀ x g s, f x = some (g, s) → 1 ≤ x ∧ x < c.b * 64 ∧ g < c.g ∧ s < c.n g) :
    Km w' γ' c p a { B with an := n } { K with av := f } := {
  box := F.at_ q.box (by rw [q.tag]; nofun)
  tag := F.tg (lt_of q.box) q.tag
  row := Bp.ownsRow_same q.row (fun k e => F.block k (q.row.lt k e).2 (by rw [q.rowT k e]; nofun))
  rowT := fun k e => F.tg (q.row.lt k e).2 (q.rowT k e)
  len := q.len
  sps := fun i hi => (q.sps i hi).fr F nofun nofun nofun
  nd := q.nd
  fit := q.fit
  av := M
  avT := F.tg q.av.lt q.avT
  fr := Bp.ownsRow_same q.fr (fun k e => F.block k (q.fr.lt k e).2 (by rw [q.frT k e]; nofun))
  frT := fun k e => F.tg (q.fr.lt k e).2 (q.frT k e)
  told := q.told
  late := q.late.fr F nofun nofun nofun
  dom := d }
abbrev tko (t : Tg) : Prop := t = .kb ∨ t = .ko
theorem map_getD_append {α : Type} (l l' : List α) (i : Nat) (d : α) : (l ++ l').getD i d = if i < l.length then l.getD i d else l'.getD (i - l.length) d := by
  simp only [List.getD_eq_getElem?_getD]
  split
  · rename_i h; rw [List.getElem?_append_left h]
  · rename_i h; rw [List.getElem?_append_right (by omega)]
/-- Spaces more are kept by the collection. -/
theorem Km.more {c : Cf} {p a : Nat} {B : Wa} {K : Wk} (q : Km w γ c p a B K) {w1 : World} {v' : Value} {σs : List Nat} {Ss : List Bp.S0} (hl : σs.length = Ss.length)
    (r : w1.ownsRow 0 100 1 v' (B.gs.length + σs.length) (B.gs.map pt ++ σs.map pt)) (G : w.grownBy w1 B.gv.ownBlock) (O : v'.ownBlock = B.gv.ownBlock ∨ v'.ownBlock = some w.heap.size)
    (hs : ∀ i (hi : i < σs.length), SpM w γ p a σs[i] (Ss.getD i Bp.S0.none)) (nd : (B.gs ++ σs).Nodup) (ft : ∀ S ∈ Ss, Bp.Fit S (c.b * 64)) :
    ∃ γ', (∀ k, k < w.heap.size → γ' k = γ k) ∧ Fr tko w (w1.setCell ⟨B.kb, 0, none⟩ v') γ γ' ∧ Km (w1.setCell ⟨B.kb, 0, none⟩ v') γ' c p a { B with gv := v', gs := B.gs ++ σs } { K with old := K.old ++ Ss } := by
  let γ' : Nat → Tg := fun k => if w.heap.size ≤ k then .ko else γ k
  have old : ∀ k, k < w.heap.size → γ' k = γ k := fun k hk => if_neg (by omega)
  have F1a : Fr tko w w1 γ γ := ⟨G.os, G.tape, G.output, G.size, fun _ _ => rfl, fun k hk hx => G.block k hk (fun e => hx (.inr (q.rowT k e.symm)))⟩
  have kbl := lt_of q.box
  have F2 : Fr tko w1 (w1.setCell ⟨B.kb, 0, none⟩ v') γ γ := Fr.one (grown_cell _ _ _ _) (.inl q.tag)
  have F := (F1a.trans F2).retag old
  have bk : w1.heap[B.kb]? = w.heap[B.kb]? := G.block _ kbl (fun e => by have := q.rowT _ e.symm; rw [q.tag] at this; cases this)
  have vk : ∀ k, v'.ownBlock = some k → k ≠ B.kb := by
    rintro k e rfl
    obtain ⟨cs, hb⟩ := own_kind r e
    rw [bk, q.box] at hb
    simp only [Option.some.injEq, Obj.cells.injEq] at hb
    exact absurd hb.2.1 (by decide)
  refine ⟨γ', old, F, {
    box := (Joins.block_setCell (bk.trans q.box) _).trans (by simp)
    tag := (old _ kbl).trans q.tag
    row := ?_
    rowT := ?_
    len := by simp [q.len, hl]
    sps := ?_
    nd := nd
    fit := fun S hS => (List.mem_append.1 hS).elim (q.fit S) (ft S)
    av := q.av.fr F (by rw [q.avT]; nofun)
    avT := F.tg q.av.lt q.avT
    fr := Bp.ownsRow_same q.fr (fun k e => F.block k (q.fr.lt k e).2 (by rw [q.frT k e]; nofun))
    frT := fun k e => F.tg (q.fr.lt k e).2 (q.frT k e)
    told := q.told
    late := q.late.fr F nofun nofun nofun
    dom := q.dom }⟩
  · simp only [List.length_append, List.map_append]
    exact Bp.ownsRow_same r (fun b e => Below.heap_setCell _ _ _ _ (vk b e))
  · intro k e
    rcases O with o | o
    · rw [o] at e
      exact (old k (q.row.lt k e).2).trans (q.rowT k e)
    · rw [o] at e; cases e
      exact if_pos (Nat.le_refl _)
  · intro i hi
    by_cases e : i < B.gs.length
    · simp only [List.getElem_append_left e]
      rw [map_getD_append, if_pos (by rw [← q.len]; exact e)]
      exact (q.sps i e).fr F nofun nofun nofun
    · have hi' : i - B.gs.length < σs.length := by simp at hi; omega
      simp only [List.getElem_append_right (Nat.le_of_not_lt e)]
      rw [map_getD_append, if_neg (by rw [← q.len]; exact e), ← q.len]
      exact (hs _ hi').fr F nofun nofun nofun
/-- A generation has new spaces. -/
def Ad.re (A : Ad) (g : Nat) (v : Value) (σ : Nat → Nat) : Ad := { A with vs := fun g' => if g' = g then v else A.vs g', σ := fun g' => if g' = g then σ else A.σ g' }
def Hs.re (H : Hs) (g : Nat) : Hs := { H with sp := fun g' s => if g' = g then Bp.S0.none else H.sp g' s }
theorem map_set_range {n g : Nat} (f : Nat → Value) (u : Value) (hg : g < n) : ((List.range n).map f).set g u = (List.range n).map (fun i => if i = g then u else f i) := by
  apply List.ext_getElem
  · simp
  · intro i h1 h2
    simp only [List.length_map, List.length_range, List.length_set] at h1 h2
    rw [List.getElem_set]
    simp only [List.getElem_map, List.getElem_range]
    by_cases e : g = i
    · subst e; simp
    · rw [if_neg e, if_neg (fun q => e q.symm)]
theorem Hm.re (q : Hm w γ h k A H) {w1 : World} {g ob cap : Nat} (hg : g < H.c.g) {v1 : Value} {σ1 m1 : Nat → Nat} (E : Ek w w1 A.p A.a v1 (H.c.n g) σ1 m1) (eo : A.ov = .slice (some ⟨ob, 0, none⟩) H.c.g cap) :
    ∃ γ', (∀ k, k < w.heap.size → γ' k = γ k) ∧ Fr (fun t => t = .so) w (w1.setCell ⟨ob, g, none⟩ v1) γ γ' ∧ Hm (w1.setCell ⟨ob, g, none⟩ v1) γ' h k (A.re g v1 σ1) (H.re g) := by
  obtain ⟨γ1, t0, t1, t2⟩ := E.tags γ
  have F1 : Fr (fun t => t = .so) w w1 γ γ1 := (Fr.later _ γ E.bel).retag t0
  have obt : γ ob = .so := q.row.outT ob (by rw [eo]; rfl)
  have obl : ob < w.heap.size := (q.row.out.lt ob (by rw [eo]; rfl)).2
  have F2 : Fr (fun t => t = .so) w1 (w1.setCell ⟨ob, g, none⟩ v1) γ1 γ1 := Fr.one (grown_cell _ _ _ _) ((t0 _ obl).trans obt)
  have F := F1.trans F2
  refine ⟨γ1, t0, F, {
    box := F.at_ q.box (by rw [q.tag]; nofun)
    tag := F.tg q.lt q.tag
    gl := q.gl.fr F nofun
    ok := q.ok
    pool := q.pool.fr F nofun nofun
    good := q.good
    zero := q.zero
    ar := q.ar.fr F nofun nofun
    len := q.len
    word := q.word
    row := ?_
    sps := ?_
    inj := ?_
    fit := ?_
    wh := q.wh.fr F (by rw [q.whT]; nofun)
    whT := F.tg q.wh.lt q.whT
    li := q.li.fr F nofun nofun nofun
    dom := q.dom }⟩
  · refine ⟨?_, ?_, ?_, ?_⟩
    · have r1 := row_later q.row.out E.bel
      rw [eo] at r1
      have r2 := own_setA r1 g v1
      rw [map_set_range _ _ hg] at r2
      show World.ownsRow _ 0 113 1 A.ov _ _
      rw [eo]
      exact r2
    · intro x e
      exact F.tg (q.row.out.lt x e).2 (q.row.outT x e)
    · intro g' hg'
      by_cases e : g' = g
      · subst e
        have ro := E.row
        simp only [Ad.re, Hs.re, if_true]
        exact Bp.ownsRow_same (ownsRow_base_a ro (Nat.zero_le _)) (fun b eb => F2.block b (ro.lt b eb).2 (by rw [t2 b eb]; nofun))
      · simp only [Ad.re, Hs.re, e, if_false]
        have ro := q.row.inn g' hg'
        exact Bp.ownsRow_same ro (fun b eb => F.block b (ro.lt b eb).2 (by rw [q.row.innT g' hg' b eb]; nofun))
    · intro g' hg' x ex
      by_cases e : g' = g
      · subst e
        simp only [Ad.re, if_true] at ex
        exact F2.tg (E.row.lt x ex).2 (t2 x ex)
      · simp only [Ad.re, e, if_false] at ex
        exact F.tg ((q.row.inn g' hg').lt x ex).2 (q.row.innT g' hg' x ex)
  · intro g' s hg' hs
    by_cases e : g' = g
    · subst e
      simp only [Ad.re, Hs.re, if_true]
      exact (t1 s hs).fr F2 nofun nofun nofun
    · simp only [Ad.re, Hs.re, e, if_false]
      exact (q.sps g' s hg' hs).fr F nofun nofun nofun
  · intro g1 s1 g2 s2 h1 k1 h2 k2 es
    have ol : ∀ g' s, g' < H.c.g → s < H.c.n g' → A.σ g' s < w.heap.size := fun g' s a b => (q.sps g' s a b).lt
    simp only [Ad.re, Hs.re] at es h1 k1 h2 k2
    by_cases e1 : g1 = g <;> by_cases e2 : g2 = g
    · subst e1; subst e2
      simp only [if_true] at es
      exact ⟨rfl, E.injs _ _ k1 k2 es⟩
    · subst e1
      simp only [e2, if_true, if_false] at es
      have := (E.news s1 k1).1
      have := ol g2 s2 h2 k2
      omega
    · subst e2
      simp only [e1, if_true, if_false] at es
      have := (E.news s2 k2).1
      have := ol g1 s1 h1 k1
      omega
    · simp only [e1, e2, if_false] at es
      exact q.inj g1 s1 g2 s2 h1 k1 h2 k2 es
  · intro g' s hg' hs
    by_cases e : g' = g
    · simp only [Hs.re, e, if_true]; exact Bp.Fit.none _
    · simp only [Hs.re, e, if_false]; exact q.fit g' s hg' hs
end
end Go.Proofs.YtbdoekffadmejaaGreatDoor
