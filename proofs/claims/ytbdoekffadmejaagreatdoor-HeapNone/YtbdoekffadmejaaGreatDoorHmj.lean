/- Package heap: a heap is made. -/
import Derived.Test.YtbdoekffadmejaaGreatDoorHmi
import Derived.Shelf.SlIter.Collect
namespace Go.Proofs.YtbdoekffadmejaaGreatDoor
open Go.RowKit
open Go.Maps (Keyed int_keyed)
set_option linter.unusedVariables false
set_option linter.unusedSimpArgs false
set_option maxRecDepth 100000

theorem step_app1 {w : World} {ops : Array Oper} {o : Oper} {a : Act} {K : Act → World → Prop} {Q : Exit → Act → World → Prop} {E : Prop} (hgd : o.guard = none) (s x : Operand) (t : TypeId)
    (ho : o.op = .call { callee := .builtin .append, args := #[s, x], argTypes := #[t, t] })
    (base : Nat) (e : TypeId) (z : Value) (bytes : Nat) (ht : Tryz.prog.underlying t = some (.slice e)) (hi : (Tryz.prog.info? e).map (fun i => (i.zero, i.size, i.bytes)) = some (some z, 1, bytes)) (hb : 0 < bytes ∧ bytes ≤ 100) (hzs : z.cells.size = 1)
    (v : Value) (n : Nat) (xs : List Value) (hs : a.eval s = v) (hown : w.ownsRow base e 1 v n xs)
    (p : Nat) (u : Value) (hx : a.eval x = .slice (some ⟨p, 0, none⟩) 1 1) (hp : w.cell? ⟨p, 0, none⟩ = some u) (h1 : u.oneCell' = true)
    (hn : n ≤ 1000000) (hbase : base ≤ w.heap.size)
    (h : ∀ v' w', w'.ownsRow base e 1 v' (n + 1) (xs ++ [u]) → w.grownBy w' v.ownBlock → (v'.ownBlock = v.ownBlock ∨ v'.ownBlock = some w.heap.size) → K (a.put o.dst v') w') :
    if Region.wanted o (yielded ops a.tmps) = true then Oper.wp Tryz.prog o a w K Q else E := by
  obtain ⟨i0, hi, hz0, hz1, hz2⟩ := info_parts hi
  obtain ⟨v', w', hr, h2, h3, h4, h5⟩ := run_append_own_at (P := Tryz.prog) w base t o.type e i0 z 1 bytes ht hi hz0 hz1 hz2 hzs (by decide) v n xs hown ⟨p, 0, none⟩ 1 1 [u] rfl (fun j q hj => by
    match j, hj with
    | 0, hj => simp at hj; subst hj; rw [show (⟨p, 0, none⟩ : Addr).add 0 = ⟨p, 0, none⟩ from rfl]; exact hp
    | j + 1, hj => simp at hj) (by simpa using h1) (by unfold maxLen; omega) (by have : (n + 1) * bytes ≤ (n + 1) * 100 := Nat.mul_le_mul_left _ hb.2; omega) hbase
  have hw : Region.wanted o (yielded ops a.tmps) = true := by unfold Region.wanted; rw [hgd]
  rw [if_pos hw]
  unfold Oper.wp execOp
  simp only [ho, resolve, invoke, builtin, Sem.run_bind, Sem.run_pure, Result.andThen_ok, List.map_toArray, List.map_cons, List.map_nil, hs, hx, hr]
  exact h v' w' h2 h3 h5
theorem info113 : (Tryz.prog.info? 113).map (fun i => (i.zero, i.size, i.bytes)) = some (some (.slice none 0 0), 1, 24) := by kernel_rfl

/-- What is new gets its tags. -/
theorem Ek.tags {w W : World} {p a n : Nat} {v : Value} {σ m : Nat → Nat} (E : Ek w W p a v n σ m) (γ : Nat → Tg) :
    ∃ γ', (∀ k, k < w.heap.size → γ' k = γ k) ∧ (∀ s, s < n → SpM W γ' p a (σ s) Bp.S0.none) ∧ (∀ k, v.ownBlock = some k → γ' k = .si) := by
  classical
  let γ' : Nat → Tg := fun k => if k < w.heap.size then γ k else if ∃ s, s < n ∧ k = σ s then .sb k else if h : ∃ s, s < n ∧ k = m s then .sm (σ (Classical.choose h)) else .si
  have kσ : ∀ s, s < n → γ' (σ s) = .sb (σ s) := fun s hs => by
    have := E.news s hs
    show (if σ s < w.heap.size then _ else _) = _
    rw [if_neg (by omega), if_pos ⟨s, hs, rfl⟩]
  have ne : ∀ s t, s < n → t < n → m s ≠ σ t := fun s t hs ht e => by
    obtain ⟨es, c, q⟩ := Sp.mapb (E.sps s hs)
    rw [e, (E.sps t ht).box] at q
    cases q
  refine ⟨γ', fun k hk => if_pos hk, fun s hs => ⟨m s, Bp.nilS, E.sps s hs, kσ s hs, ?_, fun k e => by cases e⟩, fun k e => ?_⟩
  · have := E.news s hs
    have ex : ∃ t, t < n ∧ m s = m t := ⟨s, hs, rfl⟩
    show (if m s < w.heap.size then _ else _) = _
    rw [if_neg (by omega), if_neg (by rintro ⟨t, ht, q⟩; exact ne s t hs ht q), dif_pos ex]
    have c := Classical.choose_spec ex
    rw [E.injm _ _ c.1 hs c.2.symm]
  · obtain ⟨cs, q⟩ := own_kind E.row e
    have lo := (E.row.lt k e).1
    show (if k < w.heap.size then _ else _) = _
    rw [if_neg (by omega), if_neg, dif_neg]
    · rintro ⟨t, ht, rfl⟩
      obtain ⟨es, c, q2⟩ := Sp.mapb (E.sps t ht)
      rw [q] at q2; cases q2
    · rintro ⟨t, ht, rfl⟩
      rw [(E.sps t ht).box] at q
      simp only [Option.some.injEq, Obj.cells.injEq] at q
      exact absurd q.2.1 (by decide)
abbrev hso (t : Tg) : Prop := t = .hb ∨ t = .so
/-- A heap in the making: the generations below j have their spaces. -/
structure Nk (W0 W : World) (γ0 γ : Nat → Tg) (c : Cf) (h p a wm l : Nat) (V : Value) (j : Nat) (vs : Nat → Value) (σ : Nat → Nat → Nat) : Prop where
  box : W.heap[h]? = some (.cells (hcells c (pt p) (pt a) V (.map (some wm)) (pt l) (.pointer none) false) 96 (0, 0))
  tag : γ h = .hb
  out : W.ownsRow W0.heap.size 113 1 V j ((List.range j).map vs)
  outT : ∀ k, V.ownBlock = some k → γ k = .so
  inn : ∀ g, g < j → W.ownsRow 0 100 1 (vs g) (c.n g) (pts (σ g) (c.n g))
  innT : ∀ g, g < j → ∀ k, (vs g).ownBlock = some k → γ k = .si
  sps : ∀ g s, g < j → s < c.n g → SpM W γ p a (σ g s) Bp.S0.none
  inj : ∀ g s g' s', g < j → s < c.n g → g' < j → s' < c.n g' → σ g s = σ g' s' → g = g' ∧ s = s'
  fr : Fr hso W0 W γ0 γ
section
variable {W0 W : World} {γ0 γ : Nat → Tg} {c : Cf} {h p a wm l : Nat} {V : Value} {j : Nat} {vs : Nat → Value} {σ : Nat → Nat → Nat}
theorem Nk.cell (q : Nk W0 W γ0 γ c h p a wm l V j vs σ) (i : Nat) : W.cell? ⟨h, i, none⟩ = (hcells c (pt p) (pt a) V (.map (some wm)) (pt l) (.pointer none) false)[i]? := by rw [Joins.cell_of_block q.box]
/-- A generation more. -/
theorem Nk.next (q : Nk W0 W γ0 γ c h p a wm l V j vs σ) {W1 W2 : World} {v1 V' : Value} {σ1 m1 : Nat → Nat} (E : Ek W W1 p a v1 (c.n j) σ1 m1)
    (r : W2.ownsRow W0.heap.size 113 1 V' (j + 1) ((List.range j).map vs ++ [v1])) (G : (W1.alloc (.cells #[v1] 113)).grownBy W2 V.ownBlock) (O : V'.ownBlock = V.ownBlock ∨ V'.ownBlock = some (W1.alloc (.cells #[v1] 113)).heap.size) :
    ∃ γ', Nk W0 (W2.setCell ⟨h, 7, none⟩ V') γ0 γ' c h p a wm l V' (j + 1) (fun g => if g = j then v1 else vs g) (fun g => if g = j then σ1 else σ g) := by
  obtain ⟨γ1, t0, t1, t2⟩ := E.tags γ
  have F1 : Fr hso W W1 γ γ1 := (Fr.later hso γ E.bel).retag t0
  let γ2 : Nat → Tg := fun k => if W1.heap.size ≤ k then .so else γ1 k
  have o2 : ∀ k, k < W1.heap.size → γ2 k = γ1 k := fun k hk => if_neg (by omega)
  have F2a : Fr hso W1 W2 γ1 γ1 := by
    refine ⟨G.os, G.tape, G.output, Nat.le_trans (by simp) G.size, fun _ _ => rfl, fun k hk hx => (G.block k (by simp; omega) (fun e => ?_)).trans (Below.heap_alloc _ _ _ hk)⟩
    have := (q.out.lt k e.symm).2
    exact hx (.inr ((t0 k this).trans (q.outT k e.symm)))
  have F2 : Fr hso W1 W2 γ1 γ2 := F2a.retag o2
  have F12 := F1.trans F2
  have th := F12.tg (lt_of q.box) q.tag
  have F3 : Fr hso W2 (W2.setCell ⟨h, 7, none⟩ V') γ2 γ2 := Fr.one (b := h) ⟨rfl, rfl, rfl, by simp, fun k hk hx => Below.heap_setCell _ _ _ _ (fun e => hx (by rw [e]))⟩ (.inl th)
  have F := F12.trans F3
  have F23 := F2.trans F3
  have bh : W2.heap[h]? = W.heap[h]? := by
    have b1 := E.bel.block h (lt_of q.box)
    refine (G.block h (by have := lt_of q.box; have := E.bel.size; simp; omega) (fun e => ?_)).trans ((Below.heap_alloc _ _ _ (by have := lt_of q.box; have := E.bel.size; omega)).trans b1)
    have := q.outT h e.symm
    rw [q.tag] at this
    cases this
  have own7 : ∀ {base size n : Nat} {e : TypeId} {v : Value} {xs : List Value}, W2.ownsRow base e size v n xs → (∀ k, v.ownBlock = some k → k ≠ h) → (W2.setCell ⟨h, 7, none⟩ V').ownsRow base e size v n xs := fun r k => Bp.ownsRow_same r (fun b e => Below.heap_setCell _ _ _ _ (k b e))
  have rk := fun {k : Nat} (e : V'.ownBlock = some k) => own_kind r e
  have hne : ∀ k, V'.ownBlock = some k → k ≠ h := by
    rintro k e rfl
    obtain ⟨cs, b⟩ := rk e
    rw [bh, q.box] at b
    simp only [Option.some.injEq, Obj.cells.injEq] at b
    exact absurd b.2.1 (by decide)
  refine ⟨γ2, {
    box := (Joins.block_setCell (bh.trans q.box) _).trans (by simp [hcells])
    tag := th
    out := ?_
    outT := ?_
    inn := ?_
    innT := ?_
    sps := ?_
    inj := ?_
    fr := q.fr.trans F }⟩
  · have e1 : (List.range (j + 1)).map (fun g => if g = j then v1 else vs g) = (List.range j).map vs ++ [v1] := by
      rw [List.range_succ, List.map_append]
      congr 1
      · refine List.map_congr_left (fun s hs => ?_)
        have : ¬ s = j := by have := List.mem_range.1 hs; omega
        simp only [this, if_false]
      · simp
    rw [e1]; exact own7 r hne
  · intro k e
    rcases O with o | o
    · rw [o] at e
      have := (q.out.lt k e).2
      exact F12.tg this (q.outT k e)
    · rw [o] at e; cases e
      exact if_pos (by simp)
  · intro g hg
    by_cases e : g = j
    · subst e
      simp only [if_true]
      refine Bp.ownsRow_same (ownsRow_base_a E.row (Nat.zero_le _)) (fun b eb => F23.block b (E.row.lt b eb).2 (by rw [t2 b eb]; rintro (e | e) <;> cases e))
    · simp only [e, if_false]
      have i := q.inn g (by omega)
      exact Bp.ownsRow_same i (fun b eb => F.block b (i.lt b eb).2 (by rw [q.innT g (by omega) b eb]; rintro (e | e) <;> cases e))
  · intro g hg k ek
    by_cases e : g = j
    · subst e
      simp only [if_true] at ek
      exact F23.tg (E.row.lt k ek).2 (t2 k ek)
    · simp only [e, if_false] at ek
      have i := q.inn g (by omega)
      exact F.tg (i.lt k ek).2 (q.innT g (by omega) k ek)
  · intro g s hg hs
    by_cases e : g = j
    · subst e
      simp only [if_true]
      exact (t1 s hs).fr F23 (by rintro (e | e) <;> cases e) (by rintro (e | e) <;> cases e) (by rintro (e | e) <;> cases e)
    · simp only [e, if_false]
      exact (q.sps g s (by omega) hs).fr F (by rintro (e | e) <;> cases e) (by rintro (e | e) <;> cases e) (by rintro (e | e) <;> cases e)
  · intro g s g' s' hg hs hg' hs' es
    have old : ∀ g s, g < j → s < c.n g → σ g s < W.heap.size := fun g s hg hs => (q.sps g s hg hs).lt
    by_cases e : g = j <;> by_cases e' : g' = j
    · subst e; subst e'
      simp only [if_true] at es
      exact ⟨rfl, E.injs _ _ hs hs' es⟩
    · subst e
      simp only [e', if_true, if_false] at es
      have := (E.news s hs).1
      have := old g' s' (by omega) hs'
      omega
    · subst e'
      simp only [e, if_true, if_false] at es
      have := (E.news s' hs').1
      have := old g s (by omega) hs
      omega
    · simp only [e, e', if_false] at es
      exact q.inj g s g' s' (by omega) hs (by omega) hs' es
end
/-! ### The config -/
def cfgB (g s b y o : Int) : Bool := withB g 1 4 && (withB s 1 3 && (withB b 2 4096 && (withB y 1 b && withB o 0 8)))
abbrev cfV (g s b y o : Int) : Value := .agg #[.int .i64 g, .int .i64 s, .int .i64 b, .int .i64 y, .int .i64 o]
theorem cfg_any (w : World) (g s b y o : Int) : Calls Tryz.prog 88 #[cfV g s b y o] w fun e w' => e = .returned (.bool (cfgB g s b y o)) ∧ Below w.heap.size w w' := by
  have W1 := fun W => with_any W g 1 4
  have W2 := fun W => with_any W s 1 3
  have W3 := fun W => with_any W b 2 4096
  have W4 := fun W => with_any W y 1 b
  have W5 := fun W => with_any W o 0 8
  have B := Hid.mk ((Below.refl _ w).alloc (Nat.le_refl _) (.cells #[.int .i64 g, .int .i64 s, .int .i64 b, .int .i64 y, .int .i64 o] 23))
  unfold cfgB
  generalize withB g 1 4 = b1 at *
  generalize withB s 1 3 = b2 at *
  generalize withB b 2 4096 = b3 at *
  generalize withB y 1 b = b4 at *
  generalize withB o 0 8 = b5 at *
  cases b1
  case false =>
    go_enter Tryz.func88, Tryz.ntmps88
    go_wp2_with (go_at_call 144; refine (W1 _).mono ?_; rintro e w1 ⟨rfl, hw⟩; rw [hw]; clear hw W1)
    go_ret
    exact ⟨rfl, B.out⟩
  cases b2
  case false =>
    go_enter Tryz.func88, Tryz.ntmps88
    go_wp2_with (first
      | (go_at_call 144; refine (W1 _).mono ?_; rintro e w1 ⟨rfl, hw⟩; rw [hw]; clear hw W1)
      | (go_at_call 144; refine (W2 _).mono ?_; rintro e w1 ⟨rfl, hw⟩; rw [hw]; clear hw W2))
    go_ret
    exact ⟨rfl, B.out⟩
  cases b3
  case false =>
    go_enter Tryz.func88, Tryz.ntmps88
    go_wp2_with (first
      | (go_at_call 144; refine (W1 _).mono ?_; rintro e w1 ⟨rfl, hw⟩; rw [hw]; clear hw W1)
      | (go_at_call 144; refine (W2 _).mono ?_; rintro e w1 ⟨rfl, hw⟩; rw [hw]; clear hw W2)
      | (go_at_call 144; refine (W3 _).mono ?_; rintro e w1 ⟨rfl, hw⟩; rw [hw]; clear hw W3))
    go_ret
    exact ⟨rfl, B.out⟩
  cases b4
  case false =>
    go_enter Tryz.func88, Tryz.ntmps88
    go_wp2_with (first
      | (go_at_call 144; refine (W1 _).mono ?_; rintro e w1 ⟨rfl, hw⟩; rw [hw]; clear hw W1)
      | (go_at_call 144; refine (W2 _).mono ?_; rintro e w1 ⟨rfl, hw⟩; rw [hw]; clear hw W2)
      | (go_at_call 144; refine (W3 _).mono ?_; rintro e w1 ⟨rfl, hw⟩; rw [hw]; clear hw W3)
      | (go_at_call 144; refine (W4 _).mono ?_; rintro e w1 ⟨rfl, hw⟩; rw [hw]; clear hw W4))
    go_ret
    exact ⟨rfl, B.out⟩
  go_enter Tryz.func88, Tryz.ntmps88
  go_wp2_with (first
    | (go_at_call 144; refine (W1 _).mono ?_; rintro e w1 ⟨rfl, hw⟩; rw [hw]; clear hw W1)
    | (go_at_call 144; refine (W2 _).mono ?_; rintro e w1 ⟨rfl, hw⟩; rw [hw]; clear hw W2)
    | (go_at_call 144; refine (W3 _).mono ?_; rintro e w1 ⟨rfl, hw⟩; rw [hw]; clear hw W3)
    | (go_at_call 144; refine (W4 _).mono ?_; rintro e w1 ⟨rfl, hw⟩; rw [hw]; clear hw W4)
    | (go_at_call 144; refine (W5 _).mono ?_; rintro e w1 ⟨rfl, hw⟩; rw [hw]; clear hw W5))
  go_ret
  exact ⟨rfl, B.out⟩
end Go.Proofs.YtbdoekffadmejaaGreatDoor
