/- Runs and Groups gone over by the law's own function: what the two lists hold behind it. -/
import Derived.Test.YtmoaldndagiojaaTells
import Derived.Test.YtmoaldndagiojaaRanges
namespace Go.Proofs.Ytmoaldndagiojaa
open Go.RowKit
set_option linter.unusedVariables false

/-- A copy of a row: a block of its own whose first N cells are the row's. -/
structure Copied (w w' : World) (g c : Nat) (f : Nat → Int) (N : Nat) : Prop where
  nums : ∃ cs, w'.heap[g]? = some (.cells cs 3 (0, 0)) ∧ ∀ j, j < N → cs[j]? = some (.int .i64 (f j))
  hc : N ≤ c
  new : w.heap.size ≤ g
  bel : Below w.heap.size w w'
theorem own_empty (w : World) : (w.alloc (.cells #[] 3)).ownsRow w.heap.size 3 1 (.slice (some ⟨w.heap.size, 0, none⟩) 0 0) 0 [] := World.ownsRow_made w #[] 0 (Nat.le_refl _) (by decide) rfl
theorem own_base (w : World) : w.heap.size ≤ (w.alloc (.cells #[] 3)).heap.size := by simp
theorem own_news {T : TypeId} {w : World} {p b N : Nat} {f : Nat → Int} (h : Has T w p b f N) : ∀ j u, (row f N)[j]? = some u → (w.alloc (.cells #[] 3)).cell? ((⟨b, 0, none⟩ : Addr).add j) = some u := by
  intro j u hj
  have e : (⟨b, 0, none⟩ : Addr).add j = ⟨b, j, none⟩ := by unfold Addr.add; split <;> simp_all
  rw [e]
  refine Lib.cell?_alloc_some _ ?_
  rw [Joins.cell_of_block h.nums, List.getElem?_toArray, hj]
theorem row_one (f : Nat → Int) (N : Nat) : ∀ u ∈ row f N, u.oneCell' = true := by
  intro u hu
  obtain ⟨j, _, rfl⟩ := List.mem_map.1 hu
  simp [Value.oneCell']
theorem copied_of {w w1 : World} {v : Value} {N : Nat} {f : Nat → Int} (hN : 1 ≤ N) (ho : w1.ownsRow w.heap.size 3 1 v (0 + N) ([] ++ row f N)) (hg : (w.alloc (.cells #[] 3)).grownBy w1 (Value.ownBlock (.slice (some ⟨w.heap.size, 0, none⟩) 0 0))) : ∃ g c, v = .slice (some ⟨g, 0, none⟩) N c ∧ Copied w w1 g c f N := by
  rw [Nat.zero_add, List.nil_append] at ho
  have B : Below w.heap.size w w1 := (Joins.below_alloc1 w (.cells #[] 3)).grown hg (by simp) (fun k hk => by cases hk; exact Nat.le_refl _)
  rcases ho.2 with ⟨_, h0⟩ | ⟨g, cap, cur, hv, hb, hgc, h1, h2, h3, h4⟩
  · omega
  · refine ⟨g, cap, hv, ⟨cur, hgc, fun j hj => ?_⟩, h1, hb, B⟩
    have e : (cur.toList.take (N * 1))[j]? = (row f N)[j]? := by rw [h4]
    rw [Nat.mul_one, List.getElem?_take_of_lt hj, row_get f N j hj] at e
    simpa using e
set_option maxHeartbeats 1000000 in
theorem clone_ok {w : World} {p b N : Nat} {f : Nat → Int} (h : Has 57 w p b f N) :
    Calls Try.prog 37 #[.slice (some ⟨b, 0, none⟩) N N] w fun e w' => ∃ g c, e = .returned (.slice (some ⟨g, 0, none⟩) N c) ∧ Copied w w' g c f N := by
  have l := h.len
  have l1 := h.pos
  have nw := own_news h
  have he : ∀ w : World, (binOp .eql 38 (.slice (some ⟨b, 0, none⟩) N N) (.slice none 0 0)).run Try.prog w = .ok (.bool false) w := fun _ => rfl
  obtain ⟨i0, hi, hz0, hz1, hz2⟩ := info_parts info3
  go_enter Try.func37, Try.ntmps37
  go_wp2_with (at_builtin; refine wpList_append_own _ rfl (.tmp 5) (.tmp 6) 38 rfl w.heap.size 3 i0 (.int .i64 0) 1 8 Try.underlying38 hi hz0 hz1 hz2 rfl (by decide) _ _ _ rfl (own_empty w) ⟨b, 0, none⟩ N N (row f N) rfl (by rw [row_length]; omega) nw (row_one f N) (by unfold maxLen; omega) (by omega) (own_base w) ?_; intro v w1 ho hg hnil; obtain ⟨g, c, rfl, CP⟩ := copied_of l1 ho hg; clear ho hg hnil)
  go_ret
  exact ⟨g, c, rfl, CP⟩
theorem clone_nil (w : World) : Calls Try.prog 37 #[.slice none 0 0] w fun e w' => e = .returned (.slice none 0 0) ∧ w' = w := by
  have he : ∀ w : World, (binOp .eql 38 (.slice none 0 0) (.slice none 0 0)).run Try.prog w = .ok (.bool true) w := fun _ => rfl
  go_enter Try.func37, Try.ntmps37
  go_wp2
  go_ret
  exact ⟨rfl, rfl⟩

/-- The two boxes that a range keeps. -/
structure Asked (w : World) (P R : Nat) (pv : Option Addr) (r : Bool) : Prop where
  pb : w.heap[P]? = some (.cells #[.pointer pv] 23 (0, 0))
  rb : w.heap[R]? = some (.cells #[.bool r] 4 (0, 0))
theorem Asked.cells {w : World} {P R : Nat} {pv : Option Addr} {r : Bool} (h : Asked w P R pv r) : w.cell? ⟨P, 0, none⟩ = some (.pointer pv) ∧ w.cell? ⟨R, 0, none⟩ = some (.bool r) := by
  constructor
  · rw [Joins.cell_of_block h.pb]; rfl
  · rw [Joins.cell_of_block h.rb]; rfl
theorem Asked.lt {w : World} {P R : Nat} {pv : Option Addr} {r : Bool} (h : Asked w P R pv r) : P < w.heap.size ∧ R < w.heap.size := ⟨(Array.getElem?_eq_some_iff.1 h.pb).1, (Array.getElem?_eq_some_iff.1 h.rb).1⟩
theorem Asked.later {w w' : World} {P R : Nat} {pv : Option Addr} {r : Bool} (h : Asked w P R pv r) (B : Below w.heap.size w w') : Asked w' P R pv r := ⟨(B.block _ h.lt.1).trans h.pb, (B.block _ h.lt.2).trans h.rb⟩
theorem Asked.keep {w w' : World} {P R z n : Nat} {pv : Option Addr} {r : Bool} (h : Asked w P R pv r) (k : Keep z n w w') (h1 : P < n ∧ P ≠ z ∧ P ≠ z + 1) (h2 : R < n ∧ R ≠ z ∧ R ≠ z + 1) : Asked w' P R pv r :=
  ⟨(k.block P h1.1 h1.2.1 h1.2.2).trans h.pb, (k.block R h2.1 h2.2.1 h2.2.2).trans h.rb⟩
theorem asked_new (w : World) (pv : Option Addr) (r : Bool) : Asked ((w.alloc (.cells #[.pointer pv] 23)).alloc (.cells #[.bool r] 4)) w.heap.size (w.heap.size + 1) pv r := by
  refine ⟨?_, ?_⟩
  · rw [Below.heap_alloc _ _ _ (by simp)]; exact heap_alloc_new _ _
  · have := heap_alloc_new (w.alloc (.cells #[.pointer pv] 23)) (.cells #[.bool r] 4); simpa using this
theorem told_any (pv : Option Addr) (r : Bool) (w : World) :
    Calls Try.prog 31 #[.pointer pv, .bool r] w fun e w' => e = .returned (.func (.func 36) #[] #[.pointer (some ⟨w.heap.size, 0, none⟩), .pointer (some ⟨w.heap.size + 1, 0, none⟩)]) ∧ w' = (w.alloc (.cells #[.pointer pv] 23)).alloc (.cells #[.bool r] 4) := by
  go_enter Try.func31, Try.ntmps31
  go_wp2
  go_ret
  exact ⟨by simp, rfl⟩
theorem runs_any (pv : Option Addr) (w : World) :
    Calls Try.prog 16 #[.pointer pv] w fun e w' => e = .returned (.func (.func 36) #[] #[.pointer (some ⟨w.heap.size, 0, none⟩), .pointer (some ⟨w.heap.size + 1, 0, none⟩)]) ∧ Asked w' w.heap.size (w.heap.size + 1) pv true ∧ Below w.heap.size w w' := by
  go_enter Try.func16, Try.ntmps16
  go_wp2_with (go_at_call 31; refine (told_any pv true w).mono ?_; rintro e w1 ⟨rfl, rfl⟩)
  go_ret
  exact ⟨rfl, asked_new _ _ _, below2 _ _ _⟩
theorem groups_any (pv : Option Addr) (w : World) :
    Calls Try.prog 15 #[.pointer pv] w fun e w' => e = .returned (.func (.func 36) #[] #[.pointer (some ⟨w.heap.size, 0, none⟩), .pointer (some ⟨w.heap.size + 1, 0, none⟩)]) ∧ Asked w' w.heap.size (w.heap.size + 1) pv false ∧ Below w.heap.size w w' := by
  go_enter Try.func15, Try.ntmps15
  go_wp2_with (go_at_call 31; refine (told_any pv false w).mono ?_; rintro e w1 ⟨rfl, rfl⟩)
  go_ret
  exact ⟨rfl, asked_new _ _ _, below2 _ _ _⟩

/-! ### the range itself -/
theorem below_undrew {W w1 : World} (h : Below W.drew.heap.size W.drew w1) : Below W.heap.size W w1 := ⟨h.os, h.tape, h.output, h.size, h.block⟩
theorem lies_copied {w w1 : World} {g c N : Nat} {f : Nat → Int} (h : Copied w w1 g c f N) (r : Bool) : Lies ((w1.alloc (.cells #[.slice (some ⟨g, 0, none⟩) N c] 38)).alloc (.cells #[.bool r] 4)) g w1.heap.size (w1.heap.size + 1) f N c r := by
  obtain ⟨⟨cs, a, d⟩, hc, nw, bel⟩ := h
  have l := (Array.getElem?_eq_some_iff.1 a).1
  refine ⟨⟨cs, by rw [Below.heap_alloc _ _ _ (by simp; omega), Below.heap_alloc _ _ _ (by omega)]; exact a, d⟩, ?_, hc, ?_⟩
  · rw [Below.heap_alloc _ _ _ (by simp)]; exact heap_alloc_new _ _
  · have := heap_alloc_new (w1.alloc (.cells #[.slice (some ⟨g, 0, none⟩) N c] 38)) (.cells #[.bool r] 4); simpa using this
theorem two_nil {w : World} {z n : Nat} (h0 : w.heap[z]? = some (.cells #[.slice none 0 0] 38 (0, 0))) (h1 : w.heap[z + 1]? = some (.cells #[.slice none 0 0] 38 (0, 0))) (le : z + 1 < n) (sz : n ≤ w.heap.size) : Two w z n [] [] :=
  ⟨⟨_, _, h0, h1, World.ownsRow_nil _ _ _ _, World.ownsRow_nil _ _ _ _, .inl rfl⟩, le, sz⟩
theorem Keep.mono {z n m : Nat} {a b : World} (h : Keep z n a b) (hm : m ≤ n) : Keep z m a b := ⟨h.os, h.tape, h.output, h.size, fun k h1 h2 h3 => h.block k (by omega) h2 h3⟩
set_option maxRecDepth 100000 in
set_option maxHeartbeats 4000000 in
theorem told1_ok {W : World} {p b N P R z : Nat} {f : Nat → Int} {r : Bool} (h : Has 57 W p b f N) (q : Asked W P R (some ⟨p, 0, none⟩) r) (h0 : W.heap[z]? = some (.cells #[.slice none 0 0] 38 (0, 0))) (h1 : W.heap[z + 1]? = some (.cells #[.slice none 0 0] 38 (0, 0)))
    (d1 : P ≠ z ∧ P ≠ z + 1) (d2 : R ≠ z ∧ R ≠ z + 1) :
    Calls Try.prog 36 #[.func (.func 30) #[] #[.pointer (some ⟨z, 0, none⟩), .pointer (some ⟨z + 1, 0, none⟩)], .pointer (some ⟨P, 0, none⟩), .pointer (some ⟨R, 0, none⟩)] W fun e W' => (∃ v, e = .returned v) ∧ (∃ n, W.heap.size ≤ n ∧ Two W' z n (fs (parts f N r)) (ns (parts f N r))) ∧ Keep z W.heap.size W W' := by
  obtain ⟨c1, c2⟩ := q.cells
  have lz := (Array.getElem?_eq_some_iff.1 h0).1
  have lz1 := (Array.getElem?_eq_some_iff.1 h1).1
  have hl := h.len
  have ql := q.lt
  go_enter Try.func36, Try.ntmps36
  go_wp2
  go_region_held3 (fun w' => w'.cell? ⟨P, 0, none⟩ = some (.pointer (some ⟨p, 0, none⟩)) ∧ w'.cell? ⟨R, 0, none⟩ = some (.bool r)) (go_keep) (first
    | (go_at_call 34; refine (row_ok (h.later ((Below.refl _ W).drew))).mono ?_; rintro e w1 ⟨rfl, hw⟩; rw [hw]; clear hw)
    | (go_at_call 37; refine (clone_ok (h.later ((Below.refl _ W).drew))).mono ?_; rintro e w1 ⟨g, c, rfl, CP⟩; have B1 := below_undrew CP.bel; obtain ⟨k1, k2⟩ := (q.later B1).cells)
    | (go_at_call 33; refine (parts_ok w1 g N c r).mono ?_; rintro e w2 ⟨rfl, hw⟩; have L2 := lies_copied CP r; rw [← hw] at L2; have B2 : Below w1.heap.size w1 w2 := (by rw [hw]; exact below2 _ _ _); have z2 : w2.heap.size = w1.heap.size + 2 := (by rw [hw]; simp); have B3 := B1.trans (B2.mono B1.size); clear hw; obtain ⟨k3, k4⟩ := (q.later B3).cells; have TK := tells_ok (z := z) (n := w2.heap.size) hl L2 (two_nil ((B3.block z lz).trans h0) ((B3.block (z + 1) lz1).trans h1) (by have := B3.size; omega) (Nat.le_refl _)) ⟨L2.lt.1, by have := CP.new; have : W.drew.heap.size = W.heap.size := rfl; omega, by have := CP.new; have : W.drew.heap.size = W.heap.size := rfl; omega⟩ ⟨L2.lt.2.1, by have := B1.size; omega, by have := B1.size; omega⟩ ⟨L2.lt.2.2, by have := B1.size; omega, by have := B1.size; omega⟩)
    | (go_at_call 38; refine TK.mono ?_; rintro e w3 ⟨⟨u, rfl⟩, T3, K3⟩; obtain ⟨k5, k6⟩ := ((q.later B3).keep K3 ⟨by have := B3.size; omega, d1⟩ ⟨by have := B3.size; omega, d2⟩).cells))
  all_goals go_wp2
  all_goals go_end0
  all_goals exact ⟨⟨_, rfl⟩, ⟨_, B3.size, T3⟩, (Keep.later B3 (Nat.le_refl _)).trans (K3.mono B3.size)⟩
end Go.Proofs.Ytmoaldndagiojaa
