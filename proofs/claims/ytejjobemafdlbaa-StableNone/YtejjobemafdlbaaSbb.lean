/- A table in memory; what stays; a slot that is free, an address, the first free slot, the slot of a handle. -/
import Derived.Test.YtejjobemafdlbaaProg
import Derived.Test.YtejjobemafdlbaaSba
import Derived.WalkKit
import Derived.Handy
import Derived.BigQuiet
import Derived.Deep.QuietTactic
import Derived.Deep.RegionLaw
import Derived.Deep.OwnRows
import Derived.KernelRfl
import Derived.Lib.SliceRun
import Derived.Lib.SmallJoins
namespace Go.Proofs.Ytejjobemafdlbaa
open Go.RowKit
set_option linter.unusedVariables false
set_option linter.unusedSimpArgs false

/-- A fact that the walk does not look at. -/
structure Hid (P : Prop) : Prop where
  out : P
abbrev pv (s : Nat) : Value := .pointer (some ⟨s, 0, none⟩)

/-- all old blocks but these two stay -/
structure Kx (p q : Nat) (w w' : World) : Prop where
  os : w'.os = w.os
  tape : w'.tape = w.tape
  output : w'.output = w.output
  size : w.heap.size ≤ w'.heap.size
  block : ∀ k, k < w.heap.size → k ≠ p → k ≠ q → w'.heap[k]? = w.heap[k]?
theorem Kx.refl (p q : Nat) (w : World) : Kx p q w w := ⟨rfl, rfl, rfl, Nat.le_refl _, fun _ _ _ _ => rfl⟩
theorem Kx.trans {p q : Nat} {a b c : World} (h : Kx p q a b) (k : Kx p q b c) : Kx p q a c :=
  ⟨k.os.trans h.os, k.tape.trans h.tape, k.output.trans h.output, Nat.le_trans h.size k.size, fun i hi h1 h2 => (k.block i (Nat.lt_of_lt_of_le hi h.size) h1 h2).trans (h.block i hi h1 h2)⟩
theorem Kx.later (p q : Nat) {a b : World} (h : Below a.heap.size a b) : Kx p q a b := ⟨h.os, h.tape, h.output, h.size, fun k hk _ _ => h.block k hk⟩
theorem Kx.set (p q : Nat) (w : World) {g i : Nat} {v : Value} (h : g = p ∨ g = q) : Kx p q w (w.setCell ⟨g, i, none⟩ v) :=
  ⟨rfl, rfl, rfl, by simp, fun k _ h1 h2 => Below.heap_setCell _ _ _ _ (by rcases h with rfl | rfl <;> assumption)⟩
theorem Kx.bel {p q lo : Nat} {w w' : World} (h : Kx p q w w') (h1 : lo ≤ p) (h2 : lo ≤ q) (h3 : lo ≤ w.heap.size) : Below lo w w' :=
  ⟨h.os, h.tape, h.output, h.size, fun k hk => h.block k (by omega) (by omega) (by omega)⟩
theorem Kx.keep {p q : Nat} {w w' : World} (h : Kx p q w w') {k : Nat} {o : Obj} (hk : w.heap[k]? = some o) (h1 : k ≠ p) (h2 : k ≠ q) : w'.heap[k]? = some o :=
  (h.block k (Array.getElem?_eq_some_iff.1 hk).1 h1 h2).trans hk
theorem ne_kind {w : World} {p q : Nat} {a b : Array Value} {s t : TypeId} {l m : Nat × Nat} (h : w.heap[p]? = some (.cells a s l)) (k : w.heap[q]? = some (.cells b t m)) (ne : s ≠ t) : p ≠ q := by
  rintro rfl
  rw [h] at k
  simp only [Option.some.injEq, Obj.cells.injEq] at k
  exact ne k.2.1

structure Tb (lo : Nat) (w : World) (s sb n : Nat) (b : Int) (A T : Nat → Int) : Prop where
  box : w.heap[s]? = some (.cells #[.slice (some ⟨sb, 0, none⟩) n n] 55 (0, 0))
  row : ∃ cur, w.heap[sb]? = some (.cells cur 53 (0, 0)) ∧ ∀ i, i < n → cur[i * 2]? = some (.int .i64 (A i)) ∧ cur[i * 2 + 1]? = some (.int .i64 (T i))
  ok : Okt n b A T
  le : 1 ≤ n ∧ n ≤ 256
  lo : lo ≤ s ∧ lo ≤ sb
section
variable {lo : Nat} {w w' : World} {s sb n : Nat} {b : Int} {A T : Nat → Int}
theorem Tb.c (h : Tb lo w s sb n b A T) : w.cell? ⟨s, 0, none⟩ = some (.slice (some ⟨sb, 0, none⟩) n n) := by rw [Joins.cell_of_block h.box]; rfl
theorem Tb.c0 (h : Tb lo w s sb n b A T) (i : Nat) (hi : i < n) : w.cell? ⟨sb, i * 2, none⟩ = some (.int .i64 (A i)) := by
  obtain ⟨cur, h1, h2⟩ := h.row
  rw [Joins.cell_of_block h1]; exact (h2 i hi).1
theorem Tb.c1 (h : Tb lo w s sb n b A T) (i : Nat) (hi : i < n) : w.cell? ⟨sb, i * 2 + 1, none⟩ = some (.int .i64 (T i)) := by
  obtain ⟨cur, h1, h2⟩ := h.row
  rw [Joins.cell_of_block h1]; exact (h2 i hi).2
theorem Tb.z (h : Tb lo w s sb n b A T) (i : Nat) : w.frozen? ⟨sb, i, none⟩ = false := by
  obtain ⟨cur, h1, h2⟩ := h.row
  exact Joins.unfrozen_of_block h1 i
theorem Tb.ne (h : Tb lo w s sb n b A T) : s ≠ sb := by
  obtain ⟨cur, h1, h2⟩ := h.row
  exact ne_kind h.box h1 (by decide)
theorem Tb.lt (h : Tb lo w s sb n b A T) : s < w.heap.size ∧ sb < w.heap.size := by
  obtain ⟨cur, h1, h2⟩ := h.row
  exact ⟨(Array.getElem?_eq_some_iff.1 h.box).1, (Array.getElem?_eq_some_iff.1 h1).1⟩
theorem Tb.kx {p q : Nat} (h : Tb lo w s sb n b A T) (K : Kx p q w w') (h1 : s ≠ p ∧ s ≠ q) (h2 : sb ≠ p ∧ sb ≠ q) : Tb lo w' s sb n b A T := by
  obtain ⟨cur, r1, r2⟩ := h.row
  exact ⟨K.keep h.box h1.1 h1.2, ⟨cur, K.keep r1 h2.1 h2.2, r2⟩, h.ok, h.le, h.lo⟩
theorem Tb.later (h : Tb lo w s sb n b A T) (B : Below w.heap.size w w') : Tb lo w' s sb n b A T := by
  obtain ⟨cur, r1, r2⟩ := h.row
  exact ⟨(B.block _ h.lt.1).trans h.box, ⟨cur, (B.block _ h.lt.2).trans r1, r2⟩, h.ok, h.le, h.lo⟩
/-- what a slot holds is written -/
theorem Tb.setA (h : Tb lo w s sb n b A T) {i : Nat} (hi : i < n) (x : Int) (c : Int) (hok : Okt n c (upd A i x) T) : Tb lo (w.setCell ⟨sb, i * 2, none⟩ (.int .i64 x)) s sb n c (upd A i x) T := by
  obtain ⟨cur, r1, r2⟩ := h.row
  refine ⟨?_, ⟨_, Joins.block_setCell r1 _, fun j hj => ?_⟩, hok, h.le, h.lo⟩
  · rw [Below.heap_setCell _ _ _ _ h.ne]; exact h.box
  · obtain ⟨e1, e2⟩ := r2 j hj
    obtain ⟨d1, d2⟩ := r2 i hi
    have sz := (Array.getElem?_eq_some_iff.1 d1).1
    simp only [Array.getElem?_setIfInBounds]
    by_cases e : j = i
    · subst e
      rw [upd_at]
      refine ⟨by simp [sz], ?_⟩
      rw [if_neg (by omega)]; exact e2
    · rw [upd_far _ _ _ e, if_neg (by omega), if_neg (by omega)]
      exact ⟨e1, e2⟩
/-- the turn of a slot is written -/
theorem Tb.setT (h : Tb lo w s sb n b A T) {i : Nat} (hi : i < n) (x : Int) (c : Int) (hok : Okt n c A (upd T i x)) : Tb lo (w.setCell ⟨sb, i * 2 + 1, none⟩ (.int .i64 x)) s sb n c A (upd T i x) := by
  obtain ⟨cur, r1, r2⟩ := h.row
  refine ⟨?_, ⟨_, Joins.block_setCell r1 _, fun j hj => ?_⟩, hok, h.le, h.lo⟩
  · rw [Below.heap_setCell _ _ _ _ h.ne]; exact h.box
  · obtain ⟨e1, e2⟩ := r2 j hj
    obtain ⟨d1, d2⟩ := r2 i hi
    have sz := (Array.getElem?_eq_some_iff.1 d2).1
    simp only [Array.getElem?_setIfInBounds]
    by_cases e : j = i
    · subst e
      rw [upd_at]
      refine ⟨?_, by simp [sz]⟩
      rw [if_neg (by omega)]; exact e1
    · rw [upd_far _ _ _ e, if_neg (by omega), if_neg (by omega)]
      exact ⟨e1, e2⟩
theorem Tb.up (h : Tb lo w s sb n b A T) {c : Int} (hc : b ≤ c) : Tb lo w s sb n c A T := ⟨h.box, h.row, h.ok.mono hc, h.le, h.lo⟩
end

/-! ### Small calls -/
theorem free_any (w : World) (a t : Int) : Calls Try.prog 29 #[.agg #[.int .i64 a, .int .i64 t]] w fun e w' => e = .returned (.bool (a == 0)) ∧ Below w.heap.size w w' := by
  by_cases h : a = 0
  · subst h
    go_enter Try.func29, Try.ntmps29
    go_wp2
    go_ret
    exact ⟨by simp, (Below.refl _ _).alloc (Nat.le_refl _) _⟩
  · go_enter Try.func29, Try.ntmps29
    go_wp2
    go_ret
    exact ⟨by simp [h], (Below.refl _ _).alloc (Nat.le_refl _) _⟩
theorem isaddr_any (w : World) (at' : Int) : Calls Try.prog 27 #[.int .i64 at'] w fun e w' => e = .returned (.bool (isA at')) ∧ w' = w := by
  by_cases h1 : 1 ≤ at'
  · have g1 : decide (at' ≥ 1) = true := by simpa using h1
    by_cases h2 : at' ≤ 524288
    · rw [isA_iff.2 ⟨h1, h2⟩]
      go_enter Try.func27, Try.ntmps27
      go_wp2
      go_ret
      exact ⟨rfl, rfl⟩
    · rw [show isA at' = false by simp [isA, h2]]
      go_enter Try.func27, Try.ntmps27
      go_wp2
      go_ret
      exact ⟨rfl, rfl⟩
  · rw [show isA at' = false by simp [isA, h1]]
    go_enter Try.func27, Try.ntmps27
    go_wp2
    go_ret
    exact ⟨rfl, rfl⟩
end Go.Proofs.Ytejjobemafdlbaa
