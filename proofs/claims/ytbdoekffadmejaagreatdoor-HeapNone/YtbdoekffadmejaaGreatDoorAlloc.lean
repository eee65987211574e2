/- Alloc, for whatever pool and whatever number. -/
import Derived.Test.YtbdoekffadmejaaGreatDoorRanges
import Derived.Deep.RegionHeld3
namespace Go.Proofs.YtbdoekffadmejaaGreatDoor.Bp
open Go.RowKit Go.Shelf
set_option linter.unusedVariables false
attribute [local go_sem] Oper.semAt_some

theorem fit_none {f : Nat → Int} {N : Nat} {n : Int} (h : ∀ s ∈ parts f N true, (s.2 : Int) < n) : fit f N n = none := by
  unfold fit
  rw [List.find?_eq_none]
  intro s hs
  have := h s hs
  simp only [decide_eq_true_eq, Int.not_le]
  exact this
theorem fit_prefix {f : Nat → Int} {N : Nat} {n : Int} {pre : List (Nat × Nat)} {x : Nat × Nat} (hp : pre ++ [x] <+: parts f N true) (h1 : ∀ s ∈ pre, (s.2 : Int) < n) (h2 : n ≤ x.2) : fit f N n = some x := by
  obtain ⟨q, hq⟩ := hp
  unfold fit
  rw [← hq, List.append_assoc, List.find?_append, List.find?_eq_none.2]
  · simp [h2]
  · intro s hs
    have := h1 s hs
    simp only [decide_eq_true_eq, Int.not_le]
    exact this
theorem keeps_row {W W' : World} {b : Nat} {cs : Array Value} {t : TypeId} {z : Nat × Nat} (h : W.grownBy W' (some b)) (hb : W.heap[b]? = some (.cells cs t z)) : KeepsOthers W W' :=
  ⟨h.size, fun k o hk ho => (h.block k (Array.getElem?_eq_some_iff.1 hk).1 (fun e => by cases e; rw [hb] at hk; cases hk; cases ho)).trans hk⟩
theorem own_has {β : Type} (T : TypeId) (p b N : Nat) (g : β → Nat → Int) : Own (fun (s : β) W => Has T W p b (g s) N) := fun s A B row hs hg hr =>
  hs.kept hg (fun e => by obtain ⟨o, ho, hc⟩ := hr p e.symm; rw [hs.box] at ho; cases ho; cases hc) (fun e => by obtain ⟨o, ho, hc⟩ := hr b e.symm; rw [hs.nums] at ho; cases ho; cases hc)
theorem own_grown {β : Type} {w : World} {b B : Nat} (hB : w.heap.size ≤ B) : OwnFrom B (fun (_ : β) W => w.grownBy W (some b)) := fun s A C row hs hg hr =>
  ⟨hg.os.trans hs.os, hg.tape.trans hs.tape, hg.output.trans hs.output, Nat.le_trans hs.size hg.size, fun i hi hne => (hg.block i (Nat.lt_of_lt_of_le hi hs.size) (fun e => by have := (hr i e.symm).1; omega)).trans (hs.block i hi hne)⟩
theorem grown_new {w A : World} {b i : Nat} {v : Value} (h : w.grownBy A (some b)) (hi : w.heap.size ≤ i) : w.grownBy (A.setCell ⟨i, 0, none⟩ v) (some b) :=
  ⟨h.os, h.tape, h.output, by simpa using h.size, fun k hk hr => (Below.heap_setCell _ _ _ _ (by simp; omega)).trans (h.block k hk hr)⟩
theorem grown_end {w A : World} {b D : Nat} {o : Obj} (h : w.grownBy A (some b)) (hi : w.heap.size ≤ D) : w.grownBy (A.putObj D o) (some b) :=
  ⟨h.os, h.tape, h.output, by simpa using h.size, fun k hk hr => (World.putObj_heap_other (by omega)).trans (h.block k hk hr)⟩

theorem below4 (w : World) (o1 o2 o3 o4 : Obj) : Below w.heap.size w ((((w.alloc o1).alloc o2).alloc o3).alloc o4) := (below3 w o1 o2 o3).alloc (by simp; omega) _
theorem below6 (w : World) (o1 o2 o3 o4 o5 o6 : Obj) : Below w.heap.size w ((((((w.alloc o1).alloc o2).alloc o3).alloc o4).alloc o5).alloc o6) := ((below4 w o1 o2 o3 o4).alloc (by simp; omega) _).alloc (by simp; omega) _
theorem alloc_nil (n : Int) (w : World) : Calls Tryz.prog 91 #[.pointer none, .int .i64 n] w fun e w' => e = .returned (.tuple #[.int .i64 0, .int .i64 1]) ∧ Below w.heap.size w w' := by
  refine (callsIn_wide (n := 3)).1 ?_
  refine callsIn_of_wp_marks Tryz.func91 rfl trivial ?_ rfl
  simp only [Tryz.ntmps91, List.size_toArray, List.length_cons, List.length_nil, Nat.reduceAdd, Nat.reduceSub, Array.replicate_succ, Array.replicate_zero, List.push_toArray, List.append_toArray, List.nil_append, List.cons_append]
  gi_wp2
  exact ⟨.tuple #[.int .i64 0, .int .i64 1], by simp [results, Tryz.f91, go_sem], rfl, below4 _ _ _ _ _⟩
theorem alloc_small {p : Nat} (n : Int) (w : World) (hn : n < 1) : Calls Tryz.prog 91 #[.pointer (some ⟨p, 0, none⟩), .int .i64 n] w fun e w' => e = .returned (.tuple #[.int .i64 0, .int .i64 7]) ∧ Below w.heap.size w w' := by
  refine (callsIn_wide (n := 3)).1 ?_
  refine callsIn_of_wp_marks Tryz.func91 rfl trivial ?_ rfl
  simp only [Tryz.ntmps91, List.size_toArray, List.length_cons, List.length_nil, Nat.reduceAdd, Nat.reduceSub, Array.replicate_succ, Array.replicate_zero, List.push_toArray, List.append_toArray, List.nil_append, List.cons_append]
  gi_wp2
  exact ⟨.tuple #[.int .i64 0, .int .i64 7], by simp [results, Tryz.f91, go_sem], rfl, below4 _ _ _ _ _⟩

/-- What stands in the boxes of the call. -/
structure Boxes (W : World) (z p : Nat) (n x e : Int) : Prop where
  c0 : W.cell? ⟨z, 0, none⟩ = some (.pointer (some ⟨p, 0, none⟩))
  c1 : W.cell? ⟨z + 1, 0, none⟩ = some (.int .i64 n)
  c2 : W.cell? ⟨z + 1 + 1, 0, none⟩ = some (.int .i64 x)
  c3 : W.cell? ⟨z + 1 + 1 + 1, 0, none⟩ = some (.int .i64 e)
  f2 : W.frozen? ⟨z + 1 + 1, 0, none⟩ = false
  f3 : W.frozen? ⟨z + 1 + 1 + 1, 0, none⟩ = false
theorem Boxes.own {W W' : World} {z p : Nat} {n x e : Int} {row : Option Nat} (h : Boxes W z p n x e) (hg : W.grownBy W' row) (hr : ∀ r, row = some r → ∃ o : Obj, W.heap[r]? = some o ∧ o.isCells = false) : Boxes W' z p n x e :=
  ⟨cell_kept h.c0 hg hr, cell_kept h.c1 hg hr, cell_kept h.c2 hg hr, cell_kept h.c3 hg hr, (frozen_kept h.c2 hg hr).trans h.f2, (frozen_kept h.c3 hg hr).trans h.f3⟩
theorem Boxes.kept {W W' : World} {z p b : Nat} {n x e : Int} (h : Boxes W z p n x e) (hg : W.grownBy W' (some b)) (hb : b < z) : Boxes W' z p n x e := by
  have lt : ∀ i, z ≤ i → i < W.heap.size → W'.heap[i]? = W.heap[i]? := fun i h1 h2 => hg.block i h2 (fun e => by cases e; omega)
  have l0 := World.block_lt_of_cell? _ _ h.c0
  have l1 := World.block_lt_of_cell? _ _ h.c1
  have l2 := World.block_lt_of_cell? _ _ h.c2
  have l3 := World.block_lt_of_cell? _ _ h.c3
  have e0 := lt z (by omega) l0
  have e1 := lt (z + 1) (by omega) l1
  have e2 := lt (z + 1 + 1) (by omega) l2
  have e3 := lt (z + 1 + 1 + 1) (by omega) l3
  exact ⟨(World.cell?_of_block (w := W) (a := ⟨z, 0, none⟩) e0).trans h.c0, (World.cell?_of_block (w := W) (a := ⟨z + 1, 0, none⟩) e1).trans h.c1, (World.cell?_of_block (w := W) (a := ⟨z + 1 + 1, 0, none⟩) e2).trans h.c2,
    (World.cell?_of_block (w := W) (a := ⟨z + 1 + 1 + 1, 0, none⟩) e3).trans h.c3, by have := h.f2; unfold World.frozen? at this ⊢; rw [e2]; exact this, by have := h.f3; unfold World.frozen? at this ⊢; rw [e3]; exact this⟩
theorem Boxes.put {W : World} {z p : Nat} {n x e x' e' : Int} (h : Boxes W z p n x e) : Boxes ((W.setCell ⟨z + 1 + 1, 0, none⟩ (.int .i64 x')).setCell ⟨z + 1 + 1 + 1, 0, none⟩ (.int .i64 e')) z p n x' e' := by
  refine ⟨?_, ?_, ?_, ?_, ?_, ?_⟩
  · rw [World.cell?_setCell_far _ _ _ _ (by simp <;> omega), World.cell?_setCell_far _ _ _ _ (by simp <;> omega)]; exact h.c0
  · rw [World.cell?_setCell_far _ _ _ _ (by simp <;> omega), World.cell?_setCell_far _ _ _ _ (by simp <;> omega)]; exact h.c1
  · rw [World.cell?_setCell_far _ _ _ _ (by simp <;> omega)]; exact World.cell?_setCell_same' _ _ _ (by rw [h.c2]; rfl)
  · refine World.cell?_setCell_same' _ _ _ ?_
    rw [World.cell?_setCell_far _ _ _ _ (by simp <;> omega), h.c3]; rfl
  · rw [World.frozen?_setCell, World.frozen?_setCell]; exact h.f2
  · rw [World.frozen?_setCell, World.frozen?_setCell]; exact h.f3

theorem boxes_new (w : World) (p : Nat) (n : Int) (o5 o6 : Obj) : Boxes ((((((w.alloc (.cells #[.pointer (some ⟨p, 0, none⟩)] 89)).alloc (.cells #[.int .i64 n] 3)).alloc (.cells #[.int .i64 0] 3)).alloc (.cells #[.int .i64 0] 49)).alloc o5).alloc o6) w.heap.size p n 0 0 := by
  have a0 := box_cell w (.pointer (some ⟨p, 0, none⟩)) 89
  have a1 := box_cell (w.alloc (.cells #[.pointer (some ⟨p, 0, none⟩)] 89)) (.int .i64 n) 3
  have a2 := box_cell ((w.alloc (.cells #[.pointer (some ⟨p, 0, none⟩)] 89)).alloc (.cells #[.int .i64 n] 3)) (.int .i64 0) 3
  have a3 := box_cell (((w.alloc (.cells #[.pointer (some ⟨p, 0, none⟩)] 89)).alloc (.cells #[.int .i64 n] 3)).alloc (.cells #[.int .i64 0] 3)) (.int .i64 0) 49
  simp only [World.size_alloc] at a1 a2 a3
  exact ⟨box_alloc _ (box_alloc _ (box_alloc _ (box_alloc _ (box_alloc _ a0.1)))), box_alloc _ (box_alloc _ (box_alloc _ (box_alloc _ a1.1))), box_alloc _ (box_alloc _ (box_alloc _ a2.1)), box_alloc _ (box_alloc _ a3.1),
    thaw_alloc _ (box_alloc _ (box_alloc _ a2.1)) (thaw_alloc _ (box_alloc _ a2.1) (thaw_alloc _ a2.1 a2.2)), thaw_alloc _ (box_alloc _ a3.1) (thaw_alloc _ a3.1 a3.2)⟩
def Ran (w : World) (p b N : Nat) (f : Nat → Int) (n : Nat) (pre : List (Part f N true)) (W : World) : Prop :=
  ((∀ y ∈ pre, y.1.2 < n) ∧ Boxes W w.heap.size p n 0 0 ∧ Has 182 W p b f N) ∧ w.grownBy W (some b)
def Left (w : World) (p b N : Nat) (f : Nat → Int) (n : Nat) (c : Code) (pre : List (Part f N true)) (W : World) : Prop :=
  ∃ (q : List (Part f N true)) (x : Part f N true), c = .ret ∧ pre = q ++ [x] ∧ (∀ y ∈ q, y.1.2 < n) ∧ n ≤ x.1.2 ∧ Boxes W w.heap.size p n x.1.1 0 ∧ Has 182 W p b (mark f x.1.1 n x.1.1) N ∧ w.grownBy W (some b)
theorem ran_own {w : World} {p b N : Nat} {f : Nat → Int} {n B : Nat} (hB : w.heap.size ≤ B) : OwnFrom B (Ran w p b N f n) :=
  OwnFrom.and (Own.from (fun s A C row hs hg hr => ⟨hs.1, hs.2.1.own hg hr, own_has 182 p b N (fun _ : List (Part f N true) => f) s A C row hs.2.2 hg hr⟩) _) (own_grown hB)
theorem left_own {w : World} {p b N : Nat} {f : Nat → Int} {n B : Nat} (hB : w.heap.size ≤ B) (c : Code) : OwnFrom B (Left w p b N f n c) := by
  rintro s A C row ⟨q, x, h1, h2, h3, h4, h5, h6, h7⟩ hg hr
  exact ⟨q, x, h1, h2, h3, h4, h5.own hg (fun r e => (hr r e).2), own_has 182 p b N (fun _ : Unit => mark f x.1.1 n x.1.1) () A C row h6 hg (fun r e => (hr r e).2), own_grown hB () A C row h7 hg hr⟩
theorem has_set2 {W : World} {p b N z x e : Nat} {f : Nat → Int} {v u : Value} (h : Has 182 W p b f N) (hp : p < z) (hb : b < z) (hx : z ≤ x) (he : z ≤ e) : Has 182 ((W.setCell ⟨x, 0, none⟩ v).setCell ⟨e, 0, none⟩ u) p b f N :=
  (h.kept (grown_set _ _ _ _) (by simp; omega) (by simp; omega)).kept (grown_set _ _ _ _) (by simp; omega) (by simp; omega)
theorem keeps_set2 (W : World) (a b : Addr) (v u : Value) : KeepsOthers W ((W.setCell a v).setCell b u) := (KeepsOthers.setCell _ _ _).trans (KeepsOthers.setCell _ _ _)
set_option maxRecDepth 100000 in
set_option maxHeartbeats 4000000 in
theorem alloc_go {w : World} {p b N : Nat} {f : Nat → Int} (h : Has 182 w p b f N) (n : Nat) (hn : 1 ≤ n) (hn2 : (n : Int) ≤ 9223372036854775807) :
    Calls Tryz.prog 91 #[.pointer (some ⟨p, 0, none⟩), .int .i64 n] w fun e w' =>
      ((fit f N n = none ∧ e = .returned (.tuple #[.int .i64 0, .int .i64 5]) ∧ Has 182 w' p b f N) ∨ (∃ x, fit f N n = some x ∧ e = .returned (.tuple #[.int .i64 x.1, .int .i64 0]) ∧ Has 182 w' p b (mark f x.1 n x.1) N)) ∧ w.grownBy w' (some b) := by
  refine (callsIn_wide (n := 3)).1 ?_
  refine callsIn_of_wp_marks Tryz.func91 rfl trivial ?_ rfl
  simp only [Tryz.ntmps91, List.size_toArray, List.length_cons, List.length_nil, Nat.reduceAdd, Nat.reduceSub, Array.replicate_succ, Array.replicate_zero, List.push_toArray, List.append_toArray, List.nil_append, List.cons_append]
  have hlt := h.lt
  have hlen := h.len
  have h1 := h.later (below4 w (.cells #[.pointer (some ⟨p, 0, none⟩)] 89) (.cells #[.int .i64 n] 3) (.cells #[.int .i64 0] 3) (.cells #[.int .i64 0] 49))
  have hc := h1.cell
  have hd : decide ((n : Int) < 1) = false := by simp; omega
  gi_wp2_with (refine ⟨trivial, ?_⟩; gi_at_call 142; refine (callsIn_wide.2 (parts_ok _ b N N true)).mono ?_; rintro e w1 ⟨rfl, hw⟩; rw [hw]; clear hw)
  have L := lies_new h1 true
  simp only [World.size_alloc] at L
  have hB0 := below6 w (.cells #[.pointer (some ⟨p, 0, none⟩)] 89) (.cells #[.int .i64 n] 3) (.cells #[.int .i64 0] 3) (.cells #[.int .i64 0] 49) (.cells #[.slice (some ⟨b, 0, none⟩) N N] 31) (.cells #[.bool true] 4)
  refine wpIn_rangeFunc_ownF rfl (by decide) (gf := 173) (lb := #[.pointer (some ⟨w.heap.size + 1 + 1 + 1 + 1, 0, none⟩), .pointer (some ⟨w.heap.size + 1 + 1 + 1 + 1 + 1, 0, none⟩)]) rfl trivial (enters_of Tryz.func173 (by kernel_rfl) rfl)
    (parts_stops 2 b (w.heap.size + 1 + 1 + 1 + 1) (w.heap.size + 1 + 1 + 1 + 1 + 1) N N true f (by decide) h.len _ L) Stay.trans (Stay.put (by simp <;> omega) (by simp <;> omega) (by simp <;> omega)) (Below.refl _ _) (fun _ => rfl)
    (Ran w p b N f n) (Left w p b N f n) (ran_own (by simp; omega)) (left_own (by simp; omega))
    ⟨⟨by simp, boxes_new _ _ _ _ _, h.later hB0⟩, grown_below _ hB0⟩
    (fun x => { tmps := #[.pointer (some ⟨p, 0, none⟩), .int .i64 n, .pointer (some ⟨w.heap.size, 0, none⟩), .pointer (some ⟨w.heap.size + 1, 0, none⟩), .pointer (some ⟨w.heap.size + 1 + 1, 0, none⟩), .pointer (some ⟨w.heap.size + 1 + 1 + 1, 0, none⟩), .int .i64 x.1.1, .int .i64 x.1.2, .pointer (some ⟨p, 0, none⟩), .bool false, .int .i64 n, .bool false, .pointer (some ⟨p, 0, none⟩), .pointer (some ⟨p, 0, none⟩), .pointer (some ⟨p, 0, none⟩), .slice (some ⟨b, 0, none⟩) N N, .func (.func 173) #[] #[.pointer (some ⟨w.heap.size + 1 + 1 + 1 + 1, 0, none⟩), .pointer (some ⟨w.heap.size + 1 + 1 + 1 + 1 + 1, 0, none⟩)], .int .i64 x.1.1, .int .i64 x.1.2, undef, undef, undef, undef, undef, undef, undef, undef, undef], defers := [] }) ?assign ?body ?done ?stop
  case assign =>
    intro l x W K hK
    gi_wp2
    exact hK
  case body =>
    rintro l pre x W ⟨⟨hp, hb, hh⟩, hg⟩ hpl
    have q0 := hb.c0
    have q1 := hb.c1
    have pl := part_le x
    by_cases hx : n ≤ x.1.2
    · have M := mark_ok hh x.1.1 n x.1.1 (by omega)
      have HX : Hid (n ≤ x.1.2) := hx
      have lx : (n : Int) ≤ x.1.2 := by omega
      gi_wp2_with (refine ⟨trivial, ?_⟩; gi_at_call 145; refine (CallsIn.inRound l (callsIn_wide.2 M)).mono ?_; rintro e W2 ⟨⟨u, rfl⟩, hh2, hg2⟩; have hb2 := hb.kept hg2 hlt.2; have r2 := hb2.c2; have r3 := hb2.c3; have s2 := hb2.f2; have s3 := hb2.f3)
      exact ⟨(keeps_row hg2 hh.nums).trans (keeps_set2 _ _ _ _ _), pre, x, rfl, rfl, hp, HX.out, hb2.put, has_set2 hh2 hlt.1 hlt.2 (by omega) (by omega), grown_new (grown_new (grown_trans hg hg2) (by omega)) (by omega)⟩
    · have lx : (x.1.2 : Int) < n := by omega
      gi_wp2
      exact ⟨KeepsOthers.refl _, Stay.refl _ _ _ _, ⟨fun y hy => (List.mem_append.1 hy).elim (hp y) (fun e => by simp at e; subst e; omega), hb, hh⟩, hg⟩
  case done =>
    rintro D ys W hD hy ⟨⟨hp, hb, hh⟩, hg⟩ hK
    have q2 := hb.c2
    have q3 := hb.c3
    have s2 := hb.f2
    have s3 := hb.f3
    gi_wp2
    have hK' := (keeps_set2 W ⟨w.heap.size + 1 + 1, 0, none⟩ ⟨w.heap.size + 1 + 1 + 1, 0, none⟩ (.int .i64 0) (.int .i64 5)).same D _ hK rfl
    have hb5 := (hb.put (x' := 0) (e' := 5)).own (grownBy_putObj' _ D (.deferred none)) (fun r e => by cases e; exact ⟨_, hK', rfl⟩)
    have k2 := hb5.c2
    have k3 := hb5.c3
    refine ⟨by simp, .inl ⟨_, _, rfl, run_takeDeferred hK', ?_⟩⟩
    refine ⟨.tuple #[.int .i64 0, .int .i64 5], by simp [results, Tryz.f91, go_sem, k2, k3], .inl ⟨fit_none (fun s hs => ?_), rfl, ?_⟩, ?_⟩
    · rw [← hy] at hs
      obtain ⟨y, hy1, rfl⟩ := List.mem_map.1 hs
      have := hp y hy1
      omega
    · exact own_has 182 p b N (fun _ : Unit => f) () _ _ _ (has_set2 hh hlt.1 hlt.2 (by omega) (by omega)) (grownBy_putObj' _ D (.deferred none)) (fun r e => by cases e; exact ⟨_, hK', rfl⟩)
    · simp at hD
      exact grown_end (grown_new (grown_new hg (by omega)) (by omega)) (by omega)
  case stop =>
    rintro D c pre W hD hpre ⟨q, x, rfl, rfl, h3, h4, h5, h6, h7⟩ hK
    have q2 := h5.c2
    have q3 := h5.c3
    gi_wp2
    have hb5 := h5.own (grownBy_putObj' _ D (.deferred none)) (fun r e => by cases e; exact ⟨_, hK, rfl⟩)
    have k2 := hb5.c2
    have k3 := hb5.c3
    refine ⟨by simp, .inl ⟨_, _, rfl, run_takeDeferred hK, ?_⟩⟩
    refine ⟨.tuple #[.int .i64 x.1.1, .int .i64 0], by simp [results, Tryz.f91, go_sem, k2, k3], .inr ⟨x.1, fit_prefix (pre := q.map Subtype.val) (by simpa using hpre) (fun s hs => ?_) (by omega), rfl, ?_⟩, ?_⟩
    · obtain ⟨y, hy1, rfl⟩ := List.mem_map.1 hs
      have := h3 y hy1
      omega
    · exact own_has 182 p b N (fun _ : Unit => mark f x.1.1 n x.1.1) () _ _ _ h6 (grownBy_putObj' _ D (.deferred none)) (fun r e => by cases e; exact ⟨_, hK, rfl⟩)
    · simp at hD
      exact grown_end h7 (by omega)

/-- Alloc, of whatever number. -/
theorem alloc_any {w : World} {p b N : Nat} {f : Nat → Int} (h : Has 182 w p b f N) (n : Int) (hn : n ≤ 9223372036854775807) :
    Calls Tryz.prog 91 #[.pointer (some ⟨p, 0, none⟩), .int .i64 n] w fun e w' => e = .returned (.tuple #[.int .i64 (allocA f N n), .int .i64 (allocE f N n)]) ∧ Has 182 w' p b (allocF f N n) N ∧ w.grownBy w' (some b) := by
  by_cases h0 : n < 1
  · have e1 : allocA f N n = 0 := by simp [allocA, h0]
    have e2 : allocE f N n = 7 := by simp [allocE, h0]
    have e3 : allocF f N n = f := by simp [allocF, h0]
    rw [e1, e2, e3]
    refine (alloc_small n w h0).mono ?_
    rintro e w' ⟨rfl, B⟩
    exact ⟨rfl, h.later B, grown_below _ B⟩
  · obtain ⟨k, rfl⟩ : ∃ k : Nat, n = k := ⟨n.toNat, by omega⟩
    refine (alloc_go h k (by omega) hn).mono ?_
    rintro e w' ⟨⟨hf, rfl, hh⟩ | ⟨x, hf, rfl, hh⟩, hg⟩
    · have e1 : allocA f N k = 0 := by simp [allocA, hf]
      have e2 : allocE f N k = 5 := by simp only [allocE, hf, if_neg h0]
      have e3 : allocF f N k = f := by simp [allocF, hf]
      rw [e1, e2, e3]
      exact ⟨rfl, hh, hg⟩
    · have e1 : allocA f N k = x.1 := by simp only [allocA, hf, if_neg h0]
      have e2 : allocE f N k = 0 := by simp only [allocE, hf, if_neg h0]
      have e3 : allocF f N k = mark f x.1 k x.1 := by simp only [allocF, hf, if_neg h0, Int.toNat_natCast]
      rw [e1, e2, e3]
      exact ⟨rfl, hh, hg⟩
end Go.Proofs.YtbdoekffadmejaaGreatDoor.Bp
