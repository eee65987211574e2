/- Package stack: Pop of a stack that there is. -/
import Derived.Test.YtglimbpnekephaaDoorStj
import Derived.Laws.EntriesVeiled
import Derived.Sort.CutIn
namespace Go.Proofs.YtglimbpnekephaaDoor
open Go.RowKit Go.Shelf
set_option linter.unusedVariables false
set_option linter.unusedSimpArgs false
attribute [local go_sem] Oper.semAt_some

theorem cells_kept {A B : World} {row : Option Nat} {m : Nat} {cs : Array Value} {t : TypeId} {z : Nat × Nat} (h : A.heap[m]? = some (.cells cs t z)) (hg : A.grownBy B row) (hr : ∀ r, row = some r → ∃ o : Obj, A.heap[r]? = some o ∧ o.isCells = false) : B.heap[m]? = A.heap[m]? :=
  hg.block m (Array.getElem?_eq_some_iff.1 h).1 (fun e => by obtain ⟨o, ho, hc⟩ := hr m e.symm; rw [h] at ho; cases ho; cases hc)
theorem Bx.own {A B : World} {row : Option Nat} {m : Nat} {cs : Array Value} {t : TypeId} (h : Bx A m cs t) (hg : A.grownBy B row) (hr : ∀ r, row = some r → ∃ o : Obj, A.heap[r]? = some o ∧ o.isCells = false) : Bx B m cs t := (cells_kept h hg hr).trans h
theorem Has.own {A B : World} {row : Option Nat} {p b : Nat} {xs : List Int} (h : Has A p b xs) (hg : A.grownBy B row) (hr : ∀ r, row = some r → ∃ o : Obj, A.heap[r]? = some o ∧ o.isCells = false) : Has B p b xs :=
  h.same (cells_kept h.box hg hr) (cells_kept h.words hg hr)
theorem PS.own {A B : World} {row : Option Nat} {o : Option Addr} {cap : Nat} {ps : List Int} (h : PS A o cap ps) (hg : A.grownBy B row) (hr : ∀ r, row = some r → ∃ o : Obj, A.heap[r]? = some o ∧ o.isCells = false) : PS B o cap ps :=
  ⟨h.cap, h.len, fun hn => by obtain ⟨g, off, e, hx⟩ := h.num hn; exact ⟨g, off, e, fun i hi => cell_kept (hx i hi) hg hr⟩⟩
theorem kp_own {β : Type} {w : World} {p b B : Nat} (hB : w.heap.size ≤ B) : OwnFrom B (fun (_ : β) W => Kp p b w W) := fun s A C row hs hg hr =>
  ⟨hg.os.trans hs.os, hg.tape.trans hs.tape, hg.output.trans hs.output, Nat.le_trans hs.size hg.size, fun i hi h1 h2 => (hg.block i (Nat.lt_of_lt_of_le hi hs.size) (fun e => by have := (hr i e.symm).1; omega)).trans (hs.block i hi h1 h2)⟩
theorem kp_end {w A : World} {p b D : Nat} {o : Obj} (h : Kp p b w A) (hi : w.heap.size ≤ D) : Kp p b w (A.putObj D o) :=
  ⟨h.os, h.tape, h.output, by simpa using h.size, fun k hk h1 h2 => (World.putObj_heap_other (by omega)).trans (h.block k hk h1 h2)⟩

/-- what stands in the boxes of the call: the stack, the two results, the reader -/
structure PB (W : World) (z p : Nat) (v0 v1 v2 v3 v4 : Value) : Prop where
  s : Bx W z #[.pointer (some ⟨p, 0, none⟩)] 24
  f : Bx W (z + 1) #[v0, v1, v2, v3] 36
  e : Bx W (z + 1 + 1) #[v4] 41
  r : Bx W (z + 1 + 1 + 1) #[.func (.func 45) #[.pointer (some ⟨p, 0, none⟩)] #[]] 82
theorem PB.own {A B : World} {row : Option Nat} {z p : Nat} {v0 v1 v2 v3 v4 : Value} (h : PB A z p v0 v1 v2 v3 v4) (hg : A.grownBy B row) (hr : ∀ r, row = some r → ∃ o : Obj, A.heap[r]? = some o ∧ o.isCells = false) : PB B z p v0 v1 v2 v3 v4 :=
  ⟨h.s.own hg hr, h.f.own hg hr, h.e.own hg hr, h.r.own hg hr⟩
theorem PB.stay {A B : World} {z p : Nat} {v0 v1 v2 v3 v4 : Value} (h : PB A z p v0 v1 v2 v3 v4) (hb : ∀ i, z ≤ i → i < A.heap.size → B.heap[i]? = A.heap[i]?) : PB B z p v0 v1 v2 v3 v4 :=
  ⟨(hb _ (by omega) h.s.lt).trans h.s, (hb _ (by omega) h.f.lt).trans h.f, (hb _ (by omega) h.e.lt).trans h.e, (hb _ (by omega) h.r.lt).trans h.r⟩
theorem PB.put {W : World} {z p : Nat} {v0 v1 v2 v3 v4 : Value} (h : PB W z p v0 v1 v2 v3 v4) (u0 u1 u2 u3 u4 : Value) : PB (((((W.setCell ⟨z + 1, 0, none⟩ u0).setCell ⟨z + 1, 1, none⟩ u1).setCell ⟨z + 1, 2, none⟩ u2).setCell ⟨z + 1, 3, none⟩ u3).setCell ⟨z + 1 + 1, 0, none⟩ u4) z p u0 u1 u2 u3 u4 := by
  obtain ⟨q1, q2⟩ := store4 h.f u0 u1 u2 u3
  have h1 := h.s
  have h2 := h.e
  have h3 := h.r
  clear h
  have l1 := h1.lt
  have l2 := h2.lt
  have l3 := h3.lt
  generalize (((W.setCell ⟨z + 1, 0, none⟩ u0).setCell ⟨z + 1, 1, none⟩ u1).setCell ⟨z + 1, 2, none⟩ u2).setCell ⟨z + 1, 3, none⟩ u3 = W4 at *
  have e1 : Bx W4 z #[.pointer (some ⟨p, 0, none⟩)] 24 := (q2.block z l1 (by simp <;> omega)).trans h1
  have e2 : Bx W4 (z + 1 + 1) #[v4] 41 := (q2.block (z + 1 + 1) l2 (by simp <;> omega)).trans h2
  have e3 : Bx W4 (z + 1 + 1 + 1) #[.func (.func 45) #[.pointer (some ⟨p, 0, none⟩)] #[]] 82 := (q2.block (z + 1 + 1 + 1) l3 (by simp <;> omega)).trans h3
  exact ⟨(Below.heap_setCell _ _ _ _ (by simp <;> omega)).trans e1, (Below.heap_setCell _ _ _ _ (by simp <;> omega)).trans q1, Joins.block_setCell (i := 0) e2 u4, (Below.heap_setCell _ _ _ _ (by simp <;> omega)).trans e3⟩
theorem kp_set1 {w W : World} {p b m i : Nat} {v : Value} (h : Kp p b w W) (hz : w.heap.size ≤ m) : Kp p b w (W.setCell ⟨m, i, none⟩ v) :=
  ⟨h.os, h.tape, h.output, by simpa using h.size, fun k hk h1 h2 => (Below.heap_setCell _ _ _ _ (show k ≠ m by omega)).trans (h.block k hk h1 h2)⟩
theorem kp_put {w W : World} {p b z : Nat} {u0 u1 u2 u3 u4 : Value} (h : Kp p b w W) (hz : w.heap.size ≤ z) : Kp p b w (((((W.setCell ⟨z + 1, 0, none⟩ u0).setCell ⟨z + 1, 1, none⟩ u1).setCell ⟨z + 1, 2, none⟩ u2).setCell ⟨z + 1, 3, none⟩ u3).setCell ⟨z + 1 + 1, 0, none⟩ u4) :=
  kp_set1 (kp_set1 (kp_set1 (kp_set1 (kp_set1 h (by omega)) (by omega)) (by omega)) (by omega)) (by omega)
theorem minIf (k t : Nat) : (if t < k then (t : Int) else (k : Int)) = min (k : Int) t := by split <;> omega
theorem sfx_nil {rs : List Fr} (h : sfx rs = []) : rs = [] := by
  cases rs with
  | nil => rfl
  | cons f r => simp [sfx] at h
theorem sfx_head {rs : List Fr} {x : Fr × List Fr} (h : [x] <+: sfx rs) : rs = x.1 :: x.2 := by
  cases rs with
  | nil => obtain ⟨t, ht⟩ := h; simp [sfx] at ht
  | cons f r =>
    obtain ⟨t, ht⟩ := h
    simp only [sfx, List.cons_append, List.nil_append, List.cons.injEq] at ht
    rw [ht.1]
theorem set5_block (W : World) (z : Nat) (u0 u1 u2 u3 u4 : Value) (i : Nat) (h1 : i ≠ z + 1) (h2 : i ≠ z + 1 + 1) : (((((W.setCell ⟨z + 1, 0, none⟩ u0).setCell ⟨z + 1, 1, none⟩ u1).setCell ⟨z + 1, 2, none⟩ u2).setCell ⟨z + 1, 3, none⟩ u3).setCell ⟨z + 1 + 1, 0, none⟩ u4).heap[i]? = W.heap[i]? :=
  (Below.heap_setCell _ _ _ _ h2).trans ((Below.heap_setCell _ _ _ _ h1).trans ((Below.heap_setCell _ _ _ _ h1).trans ((Below.heap_setCell _ _ _ _ h1).trans (Below.heap_setCell _ _ _ _ h1))))
theorem PS.blocks {W W' : World} {o : Option Addr} {cap : Nat} {ps : List Int} (h : PS W o cap ps) (hb : ∀ ad, o = some ad → W'.heap[ad.block]? = W.heap[ad.block]?) : PS W' o cap ps :=
  ⟨h.cap, h.len, fun hn => by obtain ⟨g, off, e, hx⟩ := h.num hn; exact ⟨g, off, e, fun i hi => (World.cell?_of_block (w := W) (a := ⟨g, off + i, none⟩) (hb ⟨g, off, none⟩ e)).trans (hx i hi)⟩⟩
theorem keeps_set5 (W : World) (a b c d e : Addr) (v u x y t : Value) : KeepsOthers W (((((W.setCell a v).setCell b u).setCell c x).setCell d y).setCell e t) :=
  ((((KeepsOthers.setCell _ _ _).trans (KeepsOthers.setCell _ _ _)).trans (KeepsOthers.setCell _ _ _)).trans (KeepsOthers.setCell _ _ _)).trans (KeepsOthers.setCell _ _ _)
theorem keeps_below {W W' : World} (h : Below W.heap.size W W') : KeepsOthers W W' := ⟨h.size, fun k o hk ho => (h.block k (Array.getElem?_eq_some_iff.1 hk).1).trans hk⟩
def I0 (w : World) (p a b F N k : Nat) (ws : List Int) (rs : List Fr) (pre : List (Sp rs)) (W : World) : Prop :=
  (pre = [] ∧ PB W w.heap.size p (.int .i64 0) (.int .i64 0) (.int .i64 0) (.slice none 0 0) (.int .i64 0) ∧ Ss W p a b ws F N k rs) ∧ Kp p b w W
def Ix0 (w : World) (p a b F N k : Nat) (ws : List Int) (rs : List Fr) (c : Code) (pre : List (Sp rs)) (W : World) : Prop :=
  (∃ (x : Sp rs) (o : Option Addr) (cp : Nat), c = .ret ∧ pre = [x] ∧ PB W w.heap.size p (.int .i64 x.1.1.k) (.int .i64 x.1.1.a) (.int .i64 x.1.1.b) (.slice o x.1.1.ps.length cp) (.int .i64 0) ∧ PS W o cp x.1.1.ps ∧ (∀ ad, o = some ad → w.heap.size ≤ ad.block) ∧
    Bx W p #[.pointer (some ⟨a, 0, none⟩), .int .i64 F, .int .i64 N, .int .i64 (wd x.1.2).length, .int .i64 ((rs.length : Int) - 1), .int .i64 (min (k : Int) (wd x.1.2).length)] 76 ∧ Has W a b ws) ∧ Kp p b w W
theorem Ss.own {A B : World} {row : Option Nat} {p a b F N k : Nat} {ws : List Int} {rs : List Fr} (h : Ss A p a b ws F N k rs) (hg : A.grownBy B row) (hr : ∀ r, row = some r → ∃ o : Obj, A.heap[r]? = some o ∧ o.isCells = false) : Ss B p a b ws F N k rs :=
  ⟨h.stk.same (cells_kept h.stk.box hg hr) (cells_kept h.stk.ar.box hg hr) (cells_kept h.stk.ar.words hg hr), h.ok, h.eq⟩
theorem i0_own {w : World} {p a b F N k B : Nat} {ws : List Int} {rs : List Fr} (hB : w.heap.size ≤ B) : OwnFrom B (I0 w p a b F N k ws rs) :=
  OwnFrom.and (Own.from (fun s A C row hs hg hr => ⟨hs.1, hs.2.1.own hg hr, hs.2.2.own hg hr⟩) _) (kp_own hB)
theorem ix0_own {w : World} {p a b F N k B : Nat} {ws : List Int} {rs : List Fr} (hB : w.heap.size ≤ B) (c : Code) : OwnFrom B (Ix0 w p a b F N k ws rs c) :=
  OwnFrom.and (Own.from (fun s A C row hs hg hr => by
    obtain ⟨x, o, cp, h1, h2, h3, h4, h5, h6, h7⟩ := hs
    exact ⟨x, o, cp, h1, h2, h3.own hg hr, h4.own hg hr, h5, h6.own hg hr, h7.own hg hr⟩) _) (kp_own hB)
theorem pb_new (w : World) (p : Nat) : PB ((((w.alloc (.cells #[.pointer (some ⟨p, 0, none⟩)] 24)).alloc (.cells #[.int .i64 0, .int .i64 0, .int .i64 0, .slice none 0 0] 36)).alloc (.cells #[.int .i64 0] 41)).alloc (.cells #[.func (.func 45) #[.pointer (some ⟨p, 0, none⟩)] #[]] 82)) w.heap.size p (.int .i64 0) (.int .i64 0) (.int .i64 0) (.slice none 0 0) (.int .i64 0) := by
  refine ⟨?_, ?_, ?_, ?_⟩
  · exact (Below.heap_alloc _ _ _ (by simp <;> omega)).trans ((Below.heap_alloc _ _ _ (by simp <;> omega)).trans ((Below.heap_alloc _ _ _ (by simp)).trans (heap_alloc_new _ _)))
  · have := heap_alloc_new (w.alloc (.cells #[.pointer (some ⟨p, 0, none⟩)] 24)) (.cells #[.int .i64 0, .int .i64 0, .int .i64 0, .slice none 0 0] 36)
    simp only [World.size_alloc] at this
    exact (Below.heap_alloc _ _ _ (by simp <;> omega)).trans ((Below.heap_alloc _ _ _ (by simp)).trans this)
  · have := heap_alloc_new ((w.alloc (.cells #[.pointer (some ⟨p, 0, none⟩)] 24)).alloc (.cells #[.int .i64 0, .int .i64 0, .int .i64 0, .slice none 0 0] 36)) (.cells #[.int .i64 0] 41)
    simp only [World.size_alloc] at this
    exact (Below.heap_alloc _ _ _ (by simp)).trans this
  · have := heap_alloc_new (((w.alloc (.cells #[.pointer (some ⟨p, 0, none⟩)] 24)).alloc (.cells #[.int .i64 0, .int .i64 0, .int .i64 0, .slice none 0 0] 36)).alloc (.cells #[.int .i64 0] 41)) (.cells #[.func (.func 45) #[.pointer (some ⟨p, 0, none⟩)] #[]] 82)
    simp only [World.size_alloc] at this
    exact this
theorem lies_newA {w : World} {p a b F N k : Nat} {ws : List Int} {rs : List Fr} (h : Ss w p a b ws F N k rs) : LiesA ((w.alloc (.cells #[.func (.func 45) #[.pointer (some ⟨p, 0, none⟩)] #[]] 82)).alloc (.cells #[.int .i64 (wd rs).length] 3)) (w.heap.size + 1) w.heap.size p a b F ws rs := by
  have B : Below w.heap.size w ((w.alloc (.cells #[.func (.func 45) #[.pointer (some ⟨p, 0, none⟩)] #[]] 82)).alloc (.cells #[.int .i64 (wd rs).length] 3)) := by go_grown
  refine ⟨?_, (Below.heap_alloc _ _ _ (by simp)).trans (heap_alloc_new _ _), (h.later B).rd, h.ok, by have := h.stk.un; have := h.stk.nn; omega⟩
  have := heap_alloc_new (w.alloc (.cells #[.func (.func 45) #[.pointer (some ⟨p, 0, none⟩)] #[]] 82)) (.cells #[.int .i64 (wd rs).length] 3)
  simpa using this

set_option maxRecDepth 100000 in
set_option maxHeartbeats 8000000 in
theorem pop_go {w : World} {p a b F N k : Nat} {ws : List Int} {rs : List Fr} (h : Ss w p a b ws F N k rs) (hk : k ≤ 65536) :
    Calls Tryd.prog 19 #[.pointer (some ⟨p, 0, none⟩)] w fun e w' =>
      ((rs = [] ∧ e = .returned (.tuple #[.agg #[.int .i64 0, .int .i64 0, .int .i64 0, .slice none 0 0], .int .i64 4]) ∧ Ss w' p a b ws F N k []) ∨
       (∃ f r o cp, rs = f :: r ∧ e = .returned (.tuple #[fv f o cp, .int .i64 0]) ∧ PS w' o cp f.ps ∧ (∀ ad, o = some ad → w.heap.size ≤ ad.block) ∧ Ss w' p a b ws F N (min k (wd r).length) r)) ∧ Kp p b w w' := by
  refine (callsIn_wide (n := 3)).1 ?_
  refine callsIn_of_wp_marks Tryd.func19 rfl trivial ?_ rfl
  simp only [Tryd.ntmps19, List.size_toArray, List.length_cons, List.length_nil, Nat.reduceAdd, Nat.reduceSub, Array.replicate_succ, Array.replicate_zero, List.push_toArray, List.append_toArray, List.nil_append, List.cons_append]
  have hlt := h.lt
  have hS : Hid (Ss ((((w.alloc (.cells #[.pointer (some ⟨p, 0, none⟩)] 24)).alloc (.cells #[.int .i64 0, .int .i64 0, .int .i64 0, .slice none 0 0] 36)).alloc (.cells #[.int .i64 0] 41)).alloc (.cells #[.func (.func 45) #[.pointer (some ⟨p, 0, none⟩)] #[]] 82)) p a b ws F N k rs) := ⟨h.later (by go_grown)⟩
  have hs3 := hS.out.stk.c3
  have hmx : Tryd.prog.follows .mixedOrders = true := by kernel_rfl
  have SK := fun W => spots_mkA p (wd rs).length W
  have HP := Hid.mk (pb_new w p)
  have L := lies_newA hS.out
  simp only [World.size_alloc] at L
  have HB : Below w.heap.size w ((((((w.alloc (.cells #[.pointer (some ⟨p, 0, none⟩)] 24)).alloc (.cells #[.int .i64 0, .int .i64 0, .int .i64 0, .slice none 0 0] 36)).alloc (.cells #[.int .i64 0] 41)).alloc (.cells #[.func (.func 45) #[.pointer (some ⟨p, 0, none⟩)] #[]] 82)).alloc (.cells #[.func (.func 45) #[.pointer (some ⟨p, 0, none⟩)] #[]] 82)).alloc (.cells #[.int .i64 (wd rs).length] 3)) := by go_grown
  have BB : Below ((((w.alloc (.cells #[.pointer (some ⟨p, 0, none⟩)] 24)).alloc (.cells #[.int .i64 0, .int .i64 0, .int .i64 0, .slice none 0 0] 36)).alloc (.cells #[.int .i64 0] 41)).alloc (.cells #[.func (.func 45) #[.pointer (some ⟨p, 0, none⟩)] #[]] 82)).heap.size ((((w.alloc (.cells #[.pointer (some ⟨p, 0, none⟩)] 24)).alloc (.cells #[.int .i64 0, .int .i64 0, .int .i64 0, .slice none 0 0] 36)).alloc (.cells #[.int .i64 0] 41)).alloc (.cells #[.func (.func 45) #[.pointer (some ⟨p, 0, none⟩)] #[]] 82)) ((((((w.alloc (.cells #[.pointer (some ⟨p, 0, none⟩)] 24)).alloc (.cells #[.int .i64 0, .int .i64 0, .int .i64 0, .slice none 0 0] 36)).alloc (.cells #[.int .i64 0] 41)).alloc (.cells #[.func (.func 45) #[.pointer (some ⟨p, 0, none⟩)] #[]] 82)).alloc (.cells #[.func (.func 45) #[.pointer (some ⟨p, 0, none⟩)] #[]] 82)).alloc (.cells #[.int .i64 (wd rs).length] 3)) := by go_grown
  have P6 : PB ((((((w.alloc (.cells #[.pointer (some ⟨p, 0, none⟩)] 24)).alloc (.cells #[.int .i64 0, .int .i64 0, .int .i64 0, .slice none 0 0] 36)).alloc (.cells #[.int .i64 0] 41)).alloc (.cells #[.func (.func 45) #[.pointer (some ⟨p, 0, none⟩)] #[]] 82)).alloc (.cells #[.func (.func 45) #[.pointer (some ⟨p, 0, none⟩)] #[]] 82)).alloc (.cells #[.int .i64 (wd rs).length] 3)) w.heap.size p (.int .i64 0) (.int .i64 0) (.int .i64 0) (.slice none 0 0) (.int .i64 0) := HP.out.stay fun i _ hi => BB.block i hi
  have S6 : Ss ((((((w.alloc (.cells #[.pointer (some ⟨p, 0, none⟩)] 24)).alloc (.cells #[.int .i64 0, .int .i64 0, .int .i64 0, .slice none 0 0] 36)).alloc (.cells #[.int .i64 0] 41)).alloc (.cells #[.func (.func 45) #[.pointer (some ⟨p, 0, none⟩)] #[]] 82)).alloc (.cells #[.func (.func 45) #[.pointer (some ⟨p, 0, none⟩)] #[]] 82)).alloc (.cells #[.int .i64 (wd rs).length] 3)) p a b ws F N k rs := h.later HB
  have K6 : Kp p b w ((((((w.alloc (.cells #[.pointer (some ⟨p, 0, none⟩)] 24)).alloc (.cells #[.int .i64 0, .int .i64 0, .int .i64 0, .slice none 0 0] 36)).alloc (.cells #[.int .i64 0] 41)).alloc (.cells #[.func (.func 45) #[.pointer (some ⟨p, 0, none⟩)] #[]] 82)).alloc (.cells #[.func (.func 45) #[.pointer (some ⟨p, 0, none⟩)] #[]] 82)).alloc (.cells #[.int .i64 (wd rs).length] 3)) := Kp.of HB
  have z6 : ((((((w.alloc (.cells #[.pointer (some ⟨p, 0, none⟩)] 24)).alloc (.cells #[.int .i64 0, .int .i64 0, .int .i64 0, .slice none 0 0] 36)).alloc (.cells #[.int .i64 0] 41)).alloc (.cells #[.func (.func 45) #[.pointer (some ⟨p, 0, none⟩)] #[]] 82)).alloc (.cells #[.func (.func 45) #[.pointer (some ⟨p, 0, none⟩)] #[]] 82)).alloc (.cells #[.int .i64 (wd rs).length] 3)).heap.size = w.heap.size + 1 + 1 + 1 + 1 + 1 + 1 := by simp
  have Hsz : Hid (w.heap.size ≤ ((((((w.alloc (.cells #[.pointer (some ⟨p, 0, none⟩)] 24)).alloc (.cells #[.int .i64 0, .int .i64 0, .int .i64 0, .slice none 0 0] 36)).alloc (.cells #[.int .i64 0] 41)).alloc (.cells #[.func (.func 45) #[.pointer (some ⟨p, 0, none⟩)] #[]] 82)).alloc (.cells #[.func (.func 45) #[.pointer (some ⟨p, 0, none⟩)] #[]] 82)).alloc (.cells #[.int .i64 (wd rs).length] 3)).drew.heap.size) := ⟨by show _ ≤ ((((((w.alloc (.cells #[.pointer (some ⟨p, 0, none⟩)] 24)).alloc (.cells #[.int .i64 0, .int .i64 0, .int .i64 0, .slice none 0 0] 36)).alloc (.cells #[.int .i64 0] 41)).alloc (.cells #[.func (.func 45) #[.pointer (some ⟨p, 0, none⟩)] #[]] 82)).alloc (.cells #[.func (.func 45) #[.pointer (some ⟨p, 0, none⟩)] #[]] 82)).alloc (.cells #[.int .i64 (wd rs).length] 3)).heap.size; rw [z6]; omega⟩
  have HL := Hid.mk L
  have H6 : Hid (I0 w p a b F N k ws rs [] ((((((w.alloc (.cells #[.pointer (some ⟨p, 0, none⟩)] 24)).alloc (.cells #[.int .i64 0, .int .i64 0, .int .i64 0, .slice none 0 0] 36)).alloc (.cells #[.int .i64 0] 41)).alloc (.cells #[.func (.func 45) #[.pointer (some ⟨p, 0, none⟩)] #[]] 82)).alloc (.cells #[.func (.func 45) #[.pointer (some ⟨p, 0, none⟩)] #[]] 82)).alloc (.cells #[.int .i64 (wd rs).length] 3)).drew) := ⟨⟨⟨rfl, P6.stay fun _ _ _ => rfl, S6.later (below_drew _)⟩, K6.trans (Kp.of (below_drew _))⟩⟩
  have HLd : Hid (LiesA ((((((w.alloc (.cells #[.pointer (some ⟨p, 0, none⟩)] 24)).alloc (.cells #[.int .i64 0, .int .i64 0, .int .i64 0, .slice none 0 0] 36)).alloc (.cells #[.int .i64 0] 41)).alloc (.cells #[.func (.func 45) #[.pointer (some ⟨p, 0, none⟩)] #[]] 82)).alloc (.cells #[.func (.func 45) #[.pointer (some ⟨p, 0, none⟩)] #[]] 82)).alloc (.cells #[.int .i64 (wd rs).length] 3)).drew (w.heap.size + 1 + 1 + 1 + 1 + 1) (w.heap.size + 1 + 1 + 1 + 1) p a b F ws rs) := ⟨L.below (below_drew _)⟩
  have hok := h.ok
  have cl := rs_len rs
  have hun := h.stk.un
  have hnn := h.stk.nn
  clear L HB BB P6 S6 K6 z6 HP HL
  gi_wp2
  gi_cut [17] from 45 (fun v W' => v = .func (.func 56) #[] #[.pointer (some ⟨w.heap.size + 1 + 1 + 1 + 1 + 1, 0, none⟩), .pointer (some ⟨w.heap.size + 1 + 1 + 1 + 1, 0, none⟩)] ∧ W' = ((((((w.alloc (.cells #[.pointer (some ⟨p, 0, none⟩)] 24)).alloc (.cells #[.int .i64 0, .int .i64 0, .int .i64 0, .slice none 0 0] 36)).alloc (.cells #[.int .i64 0] 41)).alloc (.cells #[.func (.func 45) #[.pointer (some ⟨p, 0, none⟩)] #[]] 82)).alloc (.cells #[.func (.func 45) #[.pointer (some ⟨p, 0, none⟩)] #[]] 82)).alloc (.cells #[.int .i64 (wd rs).length] 3)).drew)
  case first =>
    rename_i J K' hJ hK
    first | gi_region_with_o (refine ⟨trivial, ?_⟩; gi_at_call 46; refine (callsIn_wide.2 (SK _)).mono ?_; rintro e w1 ⟨rfl, hw⟩; rw [hw]; clear hw) | fail
    all_goals exact hK _ _ (Met.intro (hJ _ _ ⟨_, _, _, _, _, _, ⟨rfl, rfl⟩, rfl⟩))
  case rest =>
    obtain ⟨rfl, rfl⟩ := hcut
    generalize ((((((w.alloc (.cells #[.pointer (some ⟨p, 0, none⟩)] 24)).alloc (.cells #[.int .i64 0, .int .i64 0, .int .i64 0, .slice none 0 0] 36)).alloc (.cells #[.int .i64 0] 41)).alloc (.cells #[.func (.func 45) #[.pointer (some ⟨p, 0, none⟩)] #[]] 82)).alloc (.cells #[.func (.func 45) #[.pointer (some ⟨p, 0, none⟩)] #[]] 82)).alloc (.cells #[.int .i64 (wd rs).length] 3)).drew = W0 at *
    gi_wp2
    refine wpIn_rangeFunc_ownF rfl (by decide) (gf := 56) (lb := #[.pointer (some ⟨w.heap.size + 1 + 1 + 1 + 1 + 1, 0, none⟩), .pointer (some ⟨w.heap.size + 1 + 1 + 1 + 1, 0, none⟩)]) rfl trivial (enters_of Tryd.func56 (by kernel_rfl) rfl)
      (spots_A 2 (w.heap.size + 1 + 1 + 1 + 1 + 1) (w.heap.size + 1 + 1 + 1 + 1) p a b F ws rs (by decide) _ HLd.out) Sy.trans (Sy.put HLd.out.lt) (Below.refl _ _) (fun _ => rfl)
      (I0 w p a b F N k ws rs) (Ix0 w p a b F N k ws rs) (i0_own Hsz.out) (ix0_own Hsz.out) H6.out
      (fun x => { tmps := #[.pointer (some ⟨p, 0, none⟩), .pointer (some ⟨w.heap.size, 0, none⟩), .pointer (some ⟨w.heap.size + 1, 0, none⟩), .pointer (some ⟨w.heap.size + 1 + 1, 0, none⟩), .pointer (some ⟨w.heap.size + 1 + 1 + 1, 0, none⟩), .int .i64 ((wd x.1.2).length : Int), .int .i64 (x.1.1.ps.length : Int), .pointer (some ⟨p, 0, none⟩), .bool false, undef, .pointer (some ⟨p, 0, none⟩), .func (.func 45) #[.pointer (some ⟨p, 0, none⟩)] #[], u12, u13, u14, u15, u16, .func (.func 56) #[] #[.pointer (some ⟨w.heap.size + 1 + 1 + 1 + 1 + 1, 0, none⟩), .pointer (some ⟨w.heap.size + 1 + 1 + 1 + 1, 0, none⟩)], .int .i64 ((wd x.1.2).length : Int), .int .i64 (x.1.1.ps.length : Int), undef, undef, undef, undef, undef, undef, undef, undef, undef, undef, undef, undef, undef, undef, undef, undef, undef, undef, undef, undef, undef, undef, undef, undef, undef], defers := [] }) ?_ ?_ ?_ ?_
    · intro l x W K hK
      gi_wp2
      exact hK
    · rintro l pre ⟨⟨f, r⟩, hx⟩ W ⟨⟨rfl, hb, hS6⟩, hK6⟩ hpl
      obtain ⟨q, hq⟩ := sfx_mem hx
      obtain ⟨e1, e2, e3⟩ := words_of hq
      have hokx : Okf f := hok f (by rw [hq]; simp)
      have rl : 1 ≤ rs.length := by rw [hq]; simp <;> omega
      have cs := hb.s.cell 0
      have cr := hb.r.cell 0
      have d3 := hS6.stk.c3
      have d4 := hS6.stk.c4
      have d5 := hS6.stk.c5
      have dz := hS6.stk.z
      simp only [List.getElem?_toArray, List.getElem?_cons_zero] at cs cr
      have BP := hS6.stk.box
      have HBP0 : Hid (Bx W p _ 76) := ⟨BP⟩
      have RD0 := hS6.rd
      have HA := hS6.stk.ar
      have hpa := hS6.stk.pa
      have hpb := hS6.stk.pb
      have fx4 := hokx.n
      dsimp only at e1 e2 e3 ⊢
      obtain ⟨t, ht⟩ : ∃ t, (wd r).length = t := ⟨_, rfl⟩
      have HT := Hid.mk ht
      simp only [ht] at e1 e2 e3 ⊢
      have BP3 : Bx (((W.setCell ⟨p, 3, none⟩ (.int .i64 (t : Int))).setCell ⟨p, 4, none⟩ (.int .i64 ((rs.length : Int) - 1))).setCell ⟨p, 5, none⟩ (.int .i64 (min (k : Int) (t : Int)))) p #[.pointer (some ⟨a, 0, none⟩), .int .i64 F, .int .i64 N, .int .i64 (t : Int), .int .i64 ((rs.length : Int) - 1), .int .i64 (min (k : Int) (t : Int))] 76 :=
        Joins.block_setCell (i := 5) (Joins.block_setCell (i := 4) (Joins.block_setCell (i := 3) BP (.int .i64 (t : Int))) (.int .i64 ((rs.length : Int) - 1))) (.int .i64 (min (k : Int) (t : Int)))
      have G3 : W.grownBy (((W.setCell ⟨p, 3, none⟩ (.int .i64 (t : Int))).setCell ⟨p, 4, none⟩ (.int .i64 ((rs.length : Int) - 1))).setCell ⟨p, 5, none⟩ (.int .i64 (min (k : Int) (t : Int)))) (some p) := grown_trans (grown_trans (grown_set _ _ _ _) (grown_set _ _ _ _)) (grown_set _ _ _ _)
      have K3 : KeepsOthers W (((W.setCell ⟨p, 3, none⟩ (.int .i64 (t : Int))).setCell ⟨p, 4, none⟩ (.int .i64 ((rs.length : Int) - 1))).setCell ⟨p, 5, none⟩ (.int .i64 (min (k : Int) (t : Int)))) := ((KeepsOthers.setCell _ _ _).trans (KeepsOthers.setCell _ _ _)).trans (KeepsOthers.setCell _ _ _)
      have HK3 := Hid.mk K3
      have HG3 := Hid.mk G3
      have HBP := Hid.mk BP3
      have HH3 : Hid (Has (((W.setCell ⟨p, 3, none⟩ (.int .i64 (t : Int))).setCell ⟨p, 4, none⟩ (.int .i64 ((rs.length : Int) - 1))).setCell ⟨p, 5, none⟩ (.int .i64 (min (k : Int) (t : Int)))) a b ws) := ⟨HA.kept G3 (by simpa using hpa.symm) (by simpa using hpb.symm)⟩
      have HPB3 : Hid (PB (((W.setCell ⟨p, 3, none⟩ (.int .i64 (t : Int))).setCell ⟨p, 4, none⟩ (.int .i64 ((rs.length : Int) - 1))).setCell ⟨p, 5, none⟩ (.int .i64 (min (k : Int) (t : Int)))) w.heap.size p (.int .i64 0) (.int .i64 0) (.int .i64 0) (.slice none 0 0) (.int .i64 0)) := ⟨hb.stay fun i h1 h2 => G3.block i h2 (by simp <;> omega)⟩
      have RD3 : RdA (((W.setCell ⟨p, 3, none⟩ (.int .i64 (t : Int))).setCell ⟨p, 4, none⟩ (.int .i64 ((rs.length : Int) - 1))).setCell ⟨p, 5, none⟩ (.int .i64 (min (k : Int) (t : Int)))) p a b F ws (wd rs) := ⟨BP3.cell 0, BP3.cell 1, HH3.out, RD0.fit, RD0.eq⟩
      have RD := fun (W' : World) (B' : Below (((W.setCell ⟨p, 3, none⟩ (.int .i64 (t : Int))).setCell ⟨p, 4, none⟩ (.int .i64 ((rs.length : Int) - 1))).setCell ⟨p, 5, none⟩ (.int .i64 (min (k : Int) (t : Int)))).heap.size (((W.setCell ⟨p, 3, none⟩ (.int .i64 (t : Int))).setCell ⟨p, 4, none⟩ (.int .i64 ((rs.length : Int) - 1))).setCell ⟨p, 5, none⟩ (.int .i64 (min (k : Int) (t : Int)))) W') => readA (RD3.later B') t f hokx e1 e2 e3
      have cs3 := HPB3.out.s.cell 0
      have cr3 := HPB3.out.r.cell 0
      simp only [List.getElem?_toArray, List.getElem?_cons_zero] at cs3 cr3
      have hp1 : ¬ w.heap.size = p := by omega
      have hp2 : ¬ p = w.heap.size := by omega
      have hp3 : ¬ w.heap.size + 1 + 1 + 1 = p := by omega
      have hp4 : ¬ p = w.heap.size + 1 + 1 + 1 := by omega
      have tb : t ≤ 65536 := by omega
      have rb : rs.length ≤ 65536 := by omega
      clear ht BP RD0 HA hpa hpb BP3 G3 K3 RD3 e1 e2 e3 hq
      gi_wp2
      have B2 : Bx ((W.setCell ⟨p, 3, none⟩ (.int .i64 (t : Int))).setCell ⟨p, 4, none⟩ (.int .i64 ((rs.length : Int) - 1))) p #[.pointer (some ⟨a, 0, none⟩), .int .i64 F, .int .i64 N, .int .i64 (t : Int), .int .i64 ((rs.length : Int) - 1), .int .i64 k] 76 := Joins.block_setCell (i := 4) (Joins.block_setCell (i := 3) HBP0.out (.int .i64 (t : Int))) (.int .i64 ((rs.length : Int) - 1))
      have G2 : W.grownBy ((W.setCell ⟨p, 3, none⟩ (.int .i64 (t : Int))).setCell ⟨p, 4, none⟩ (.int .i64 ((rs.length : Int) - 1))) (some p) := grown_trans (grown_set _ _ _ _) (grown_set _ _ _ _)
      have P2 := hb.stay (B := ((W.setCell ⟨p, 3, none⟩ (.int .i64 (t : Int))).setCell ⟨p, 4, none⟩ (.int .i64 ((rs.length : Int) - 1)))) fun i h1 h2 => G2.block i h2 (by simp <;> omega)
      have g5 := B2.cell 5
      have gz := B2.z
      have gs := P2.s.cell 0
      simp only [List.getElem?_toArray, List.getElem?_cons_zero, List.getElem?_cons_succ] at g5 gs
      clear B2 G2 P2 d3 d4 d5 dz cs cr
      generalize ((W.setCell ⟨p, 3, none⟩ (.int .i64 (t : Int))).setCell ⟨p, 4, none⟩ (.int .i64 ((rs.length : Int) - 1))) = W2 at *
      gi_cut [] from 45 (fun W' => W' = (W2.setCell ⟨p, 5, none⟩ (.int .i64 (min (k : Int) (t : Int)))).drew)
      case first =>
        rename_i J K' hJ hK
        first | gi_region_with_o (fail) | fail
        all_goals exact hK _ _ (Met.intro (hJ _ _ ⟨_, _, _, _, _, _, _, _, _, by rw [minIf], rfl⟩))
      case rest =>
        subst hcut
        generalize (W2.setCell ⟨p, 5, none⟩ (.int .i64 (min (k : Int) (t : Int)))) = W3 at *
        gi_wp2_with (refine ⟨trivial, ?_⟩; gi_at_call 47; refine (CallsIn.inRound l (callsIn_wide.2 (RD _ (below_drew W3)))).mono ?_; rintro e W5 ⟨o, cp, rfl, hps, hfr, B5'⟩; have B5 := belowOn (below_drew W3) B5'; have PB5 := HPB3.out.stay fun i _ h2 => B5.block i h2; have f0 := PB5.f.cell 0; have f1 := PB5.f.cell 1; have f2 := PB5.f.cell 2; have f3 := PB5.f.cell 3; have f4 := PB5.e.cell 0; have fz := PB5.f.z; have fz4 := PB5.e.z)
        have hWs : w.heap.size ≤ W.heap.size := hK6.size
        have hW3s : W.heap.size ≤ W3.heap.size := HG3.out.size
        have hel := HPB3.out.e.lt
        refine ⟨HK3.out.trans ((keeps_below B5).trans (keeps_set5 _ _ _ _ _ _ _ _ _ _ _)), ⟨⟨(f, r), hx⟩, o, cp, rfl, rfl, PB5.put _ _ _ _ _, ?_, fun ad had => Nat.le_trans (Nat.le_trans hWs hW3s) (hfr ad had), ?_, ?_⟩, kp_put (hK6.trans ((Kp.box HG3.out).trans (Kp.of B5))) (Nat.le_refl _)⟩
        · exact hps.blocks fun ad had => set5_block _ _ _ _ _ _ _ _ (by have : W3.heap.size ≤ ad.block := hfr ad had; omega) (by have : W3.heap.size ≤ ad.block := hfr ad had; omega)
        · refine (set5_block _ _ _ _ _ _ _ _ (by omega) (by omega)).trans ((B5.block p HBP.out.lt).trans ?_)
          rw [HT.out]
          exact HBP.out
        · have l7 := HH3.out.lt
          exact HH3.out.same ((set5_block _ _ _ _ _ _ _ _ (by omega) (by omega)).trans (B5.block a l7.1)) ((set5_block _ _ _ _ _ _ _ _ (by omega) (by omega)).trans (B5.block b l7.2))
    · rintro D ys W hD hy ⟨⟨rfl, hb, hS6⟩, hK6⟩ hKD
      have q0 := hb.f.cell 0
      have q1 := hb.f.cell 1
      have q2 := hb.f.cell 2
      have q3 := hb.f.cell 3
      have q4 := hb.e.cell 0
      have fz := hb.f.z
      have fz4 := hb.e.z
      have hrs : rs = [] := sfx_nil (by simpa using hy.symm)
      gi_wp2
      have P9 := hb.put (.int .i64 0) (.int .i64 0) (.int .i64 0) (.slice none 0 0) (.int .i64 4)
      have hKD' := (keeps_set5 W ⟨w.heap.size + 1, 0, none⟩ ⟨w.heap.size + 1, 1, none⟩ ⟨w.heap.size + 1, 2, none⟩ ⟨w.heap.size + 1, 3, none⟩ ⟨w.heap.size + 1 + 1, 0, none⟩ (.int .i64 0) (.int .i64 0) (.int .i64 0) (.slice none 0 0) (.int .i64 4)).same D _ hKD rfl
      have K9 := kp_put (u0 := .int .i64 0) (u1 := .int .i64 0) (u2 := .int .i64 0) (u3 := .slice none 0 0) (u4 := .int .i64 4) hK6 (Nat.le_refl _)
      have l6 := hS6.lt
      have S9 : Ss _ p a b ws F N k rs := ⟨hS6.stk.same (set5_block W w.heap.size (.int .i64 0) (.int .i64 0) (.int .i64 0) (.slice none 0 0) (.int .i64 4) p (by omega) (by omega)) (set5_block _ _ _ _ _ _ _ a (by omega) (by omega)) (set5_block _ _ _ _ _ _ _ b (by omega) (by omega)), hS6.ok, hS6.eq⟩
      generalize (((((W.setCell ⟨w.heap.size + 1, 0, none⟩ (.int .i64 0)).setCell ⟨w.heap.size + 1, 1, none⟩ (.int .i64 0)).setCell ⟨w.heap.size + 1, 2, none⟩ (.int .i64 0)).setCell ⟨w.heap.size + 1, 3, none⟩ (.slice none 0 0)).setCell ⟨w.heap.size + 1 + 1, 0, none⟩ (.int .i64 4)) = W9 at *
      have P10 := P9.own (grownBy_putObj' _ D (.deferred none)) (fun r e => by cases e; exact ⟨_, hKD', rfl⟩)
      have k0 := P10.f.cell 0
      have k1 := P10.f.cell 1
      have k2 := P10.f.cell 2
      have k3 := P10.f.cell 3
      have k4 := P10.e.cell 0
      simp only [List.getElem?_toArray, List.getElem?_cons_zero, List.getElem?_cons_succ] at k0 k1 k2 k3 k4
      refine ⟨by simp, .inl ⟨_, _, rfl, run_takeDeferred hKD', ?_⟩⟩
      refine ⟨.tuple #[.agg #[.int .i64 0, .int .i64 0, .int .i64 0, .slice none 0 0], .int .i64 4], by simp [results, Tryd.f19, asAddr, go_sem, k0, k1, k2, k3, k4], .inl ⟨hrs, rfl, ?_⟩, kp_end K9 (by have := Hsz.out; omega)⟩
      have := S9.own (grownBy_putObj' _ D (.deferred none)) (fun r e => by cases e; exact ⟨_, hKD', rfl⟩)
      rw [hrs] at this
      exact this
    · rintro D c pre W hD hpre ⟨⟨x, o, cp, rfl, rfl, h3, h4, h5, h6, h7⟩, h8⟩ hKD
      gi_wp2
      have P10 := h3.own (grownBy_putObj' _ D (.deferred none)) (fun r e => by cases e; exact ⟨_, hKD, rfl⟩)
      have B10 := h6.own (grownBy_putObj' _ D (.deferred none)) (fun r e => by cases e; exact ⟨_, hKD, rfl⟩)
      have A10 := h7.own (grownBy_putObj' _ D (.deferred none)) (fun r e => by cases e; exact ⟨_, hKD, rfl⟩)
      have PS10 := h4.own (grownBy_putObj' _ D (.deferred none)) (fun r e => by cases e; exact ⟨_, hKD, rfl⟩)
      have k0 := P10.f.cell 0
      have k1 := P10.f.cell 1
      have k2 := P10.f.cell 2
      have k3 := P10.f.cell 3
      have k4 := P10.e.cell 0
      simp only [List.getElem?_toArray, List.getElem?_cons_zero, List.getElem?_cons_succ] at k0 k1 k2 k3 k4
      obtain ⟨⟨f, r⟩, hx⟩ := x
      dsimp only at *
      have hrs : rs = f :: r := sfx_head (x := (f, r)) (by simpa using hpre)
      refine ⟨by simp, .inl ⟨_, _, rfl, run_takeDeferred hKD, ?_⟩⟩
      refine ⟨.tuple #[fv f o cp, .int .i64 0], by simp [results, Tryd.f19, asAddr, go_sem, k0, k1, k2, k3, k4], .inr ⟨f, r, o, cp, hrs, rfl, PS10, h5, ?_⟩, kp_end h8 (by have := Hsz.out; omega)⟩
      subst hrs
      have wl := wd_cons_len f r
      have rl := rs_len r
      have e1 : ((((f :: r).length : Nat) : Int) - 1) = (r.length : Nat) := by simp
      have e2 : (min (k : Int) ((wd r).length : Nat)) = ((min k (wd r).length : Nat) : Int) := by omega
      rw [e1, e2] at B10
      refine ⟨⟨B10, A10, h.stk.pa, h.stk.pb, h.stk.fit, by omega, rl, h.stk.nn⟩, fun g hg => h.ok g (List.mem_cons_of_mem _ hg), fun i hi => ?_⟩
      rw [h.eq i (by omega)]
      simp only [wd, List.getD_eq_getElem?_getD]
      rw [List.getElem?_append_left hi]
end Go.Proofs.YtglimbpnekephaaDoor
