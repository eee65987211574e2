/- Runs and Groups: a range whose row is a copy, made where it is asked for. -/
import Derived.Test.YtaeehhonahhelaaTells
import Derived.Test.YtaeehhonahhelaaRanges
namespace Go.Proofs.Ytaeehhonahhelaa
open Go.RowKit
set_option linter.unusedVariables false

/-- A copy of a row: a block of its own whose first N cells are the row's. -/
structure Copied (w w' : World) (g c : Nat) (f : Nat → Int) (N : Nat) : Prop where
  nums : ∃ cs, w'.heap[g]? = some (.cells cs 3 (0, 0)) ∧ ∀ j, j < N → cs[j]? = some (.int .i64 (f j))
  hc : N ≤ c
  new : w.heap.size ≤ g
  bel : Below w.heap.size w w'
theorem own_empty (w : World) : (w.alloc (.cells #[] 3)).ownsRow w.heap.size 3 1 (.slice (some ⟨w.heap.size, 0, none⟩) 0 0) 0 [] := World.ownsRow_made w #[] 0 (Nat.le_refl _) (by decide) rfl
theorem own_base (w : World) : w.heap.size ≤ (w.alloc (.cells #[] 3)).heap.size := by simp
theorem own_news {T : TypeId} {w : World} {p b N : Nat} {f : Nat → Int} (h : Has T w p b f N) : ∀ j u, (row f N)[j]? = some u → (w.alloc (.cells #[] 3)).cell? ((⟨b, 0, none⟩ : Addr).add j) = some u := by
  intro j u hj
  have e : (⟨b, 0, none⟩ : Addr).add j = ⟨b, j, none⟩ := by unfold Addr.add; split <;> simp_all
  rw [e]
  refine Lib.cell?_alloc_some _ ?_
  rw [Joins.cell_of_block h.nums, List.getElem?_toArray, hj]
theorem row_one (f : Nat → Int) (N : Nat) : ∀ u ∈ row f N, u.oneCell' = true := by
  intro u hu
  obtain ⟨j, _, rfl⟩ := List.mem_map.1 hu
  simp [Value.oneCell']
theorem copied_of {w w1 : World} {v : Value} {N : Nat} {f : Nat → Int} (hN : 1 ≤ N) (ho : w1.ownsRow w.heap.size 3 1 v (0 + N) ([] ++ row f N)) (hg : (w.alloc (.cells #[] 3)).grownBy w1 (Value.ownBlock (.slice (some ⟨w.heap.size, 0, none⟩) 0 0))) : ∃ g c, v = .slice (some ⟨g, 0, none⟩) N c ∧ Copied w w1 g c f N := by
  rw [Nat.zero_add, List.nil_append] at ho
  have B : Below w.heap.size w w1 := (Joins.below_alloc1 w (.cells #[] 3)).grown hg (by simp) (fun k hk => by cases hk; exact Nat.le_refl _)
  rcases ho.2 with ⟨_, h0⟩ | ⟨g, cap, cur, hv, hb, hgc, h1, h2, h3, h4⟩
  · omega
  · refine ⟨g, cap, hv, ⟨cur, hgc, fun j hj => ?_⟩, h1, hb, B⟩
    have e : (cur.toList.take (N * 1))[j]? = (row f N)[j]? := by rw [h4]
    rw [Nat.mul_one, List.getElem?_take_of_lt hj, row_get f N j hj] at e
    simpa using e
set_option maxHeartbeats 1000000 in
theorem clone_ok {w : World} {p b N : Nat} {f : Nat → Int} (h : Has 58 w p b f N) :
    Calls Try.prog 38 #[.slice (some ⟨b, 0, none⟩) N N] w fun e w' => ∃ g c, e = .returned (.slice (some ⟨g, 0, none⟩) N c) ∧ Copied w w' g c f N := by
  have l := h.len
  have l1 := h.pos
  have nw := own_news h
  have he : ∀ w : World, (binOp .eql 38 (.slice (some ⟨b, 0, none⟩) N N) (.slice none 0 0)).run Try.prog w = .ok (.bool false) w := fun _ => rfl
  obtain ⟨i0, hi, hz0, hz1, hz2⟩ := info_parts info3
  go_enter Try.func38, Try.ntmps38
  go_wp2_with (at_builtin; refine wpList_append_own _ rfl (.tmp 5) (.tmp 6) 38 rfl w.heap.size 3 i0 (.int .i64 0) 1 8 Try.underlying38 hi hz0 hz1 hz2 rfl (by decide) _ _ _ rfl (own_empty w) ⟨b, 0, none⟩ N N (row f N) rfl (by rw [row_length]; omega) nw (row_one f N) (by unfold maxLen; omega) (by omega) (own_base w) ?_; intro v w1 ho hg hnil; obtain ⟨g, c, rfl, CP⟩ := copied_of l1 ho hg; clear ho hg hnil)
  go_ret
  exact ⟨g, c, rfl, CP⟩
theorem clone_nil (w : World) : Calls Try.prog 38 #[.slice none 0 0] w fun e w' => e = .returned (.slice none 0 0) ∧ w' = w := by
  have he : ∀ w : World, (binOp .eql 38 (.slice none 0 0) (.slice none 0 0)).run Try.prog w = .ok (.bool true) w := fun _ => rfl
  go_enter Try.func38, Try.ntmps38
  go_wp2
  go_ret
  exact ⟨rfl, rfl⟩

/-- A range that was asked for: the row's copy and the two boxes that its function keeps, all at or beyond m. -/
structure Asked (w : World) (m B : Nat) (f : Nat → Int) (N : Nat) (r : Bool) : Prop where
  ex : ∃ g c, m ≤ g ∧ Lies w g B (B + 1) f N c r
  lo : m ≤ B
  len : N ≤ 4096
theorem Asked.lt {w : World} {m B N : Nat} {f : Nat → Int} {r : Bool} (h : Asked w m B f N r) : B + 1 < w.heap.size := by obtain ⟨g, c, _, L⟩ := h.ex; exact L.lt.2.2
theorem Asked.later {w w' : World} {m B N : Nat} {f : Nat → Int} {r : Bool} (h : Asked w m B f N r) (k : Below w.heap.size w w') : Asked w' m B f N r := by
  obtain ⟨g, c, hg, L⟩ := h.ex
  exact ⟨⟨g, c, hg, L.below k⟩, h.lo, h.len⟩
theorem Asked.grown {w w' : World} {m B N b : Nat} {f : Nat → Int} {r : Bool} (h : Asked w m B f N r) (k : w.grownBy w' (some b)) (hb : b < m) : Asked w' m B f N r := by
  obtain ⟨g, c, hg, L⟩ := h.ex
  have l := h.lo
  exact ⟨⟨g, c, hg, L.stay (Stay.grown k L.lt.1 L.lt.2.1 L.lt.2.2 (by simp; omega) (by simp; omega) (by simp; omega))⟩, l, h.len⟩
theorem lies_copied {w w1 : World} {g c N : Nat} {f : Nat → Int} (h : Copied w w1 g c f N) (r : Bool) : Lies ((w1.alloc (.cells #[.slice (some ⟨g, 0, none⟩) N c] 38)).alloc (.cells #[.bool r] 4)) g w1.heap.size (w1.heap.size + 1) f N c r := by
  obtain ⟨⟨cs, a, d⟩, hc, nw, bel⟩ := h
  have l := (Array.getElem?_eq_some_iff.1 a).1
  refine ⟨⟨cs, by rw [Below.heap_alloc _ _ _ (by simp; omega), Below.heap_alloc _ _ _ (by omega)]; exact a, d⟩, ?_, hc, ?_⟩
  · rw [Below.heap_alloc _ _ _ (by simp)]; exact heap_alloc_new _ _
  · have := heap_alloc_new (w1.alloc (.cells #[.slice (some ⟨g, 0, none⟩) N c] 38)) (.cells #[.bool r] 4); simpa using this
theorem asked_new {w w1 : World} {g c N : Nat} {f : Nat → Int} (h : Copied w w1 g c f N) (hN : N ≤ 4096) (r : Bool) : Asked ((w1.alloc (.cells #[.slice (some ⟨g, 0, none⟩) N c] 38)).alloc (.cells #[.bool r] 4)) w.heap.size w1.heap.size f N r :=
  ⟨⟨g, c, h.new, lies_copied h r⟩, h.bel.size, hN⟩
set_option maxHeartbeats 1000000 in
theorem told_ok {w : World} {p b N : Nat} {f : Nat → Int} (h : Has 58 w p b f N) (r : Bool) :
    Calls Try.prog 33 #[.pointer (some ⟨p, 0, none⟩), .bool r] w fun e w' => ∃ B, e = .returned (.func (.func 39) #[] #[.pointer (some ⟨B, 0, none⟩), .pointer (some ⟨B + 1, 0, none⟩)]) ∧ Asked w' w.heap.size B f N r ∧ Below w.heap.size w w' := by
  have l := h.len
  go_enter Try.func33, Try.ntmps33
  go_wp2_with (first
    | (go_at_call 36; refine (row_ok h).mono ?_; rintro e w0 ⟨rfl, hw⟩; rw [hw]; clear hw)
    | (go_at_call 38; refine (clone_ok h).mono ?_; rintro e w1 ⟨g, c, rfl, CP⟩)
    | (go_at_call 35; refine (parts_ok w1 g N c r).mono ?_; rintro e w2 ⟨rfl, hw⟩; have Q := asked_new CP l r; rw [← hw] at Q; have B2 : Below w1.heap.size w1 w2 := (by rw [hw]; exact below2 _ _ _); clear hw))
  go_ret
  exact ⟨w1.heap.size, rfl, Q, CP.bel.trans (B2.mono CP.bel.size)⟩
theorem told_nil (w : World) (r : Bool) :
    Calls Try.prog 33 #[.pointer none, .bool r] w fun e w' => e = .returned (.func (.func 39) #[] #[.pointer (some ⟨w.heap.size, 0, none⟩), .pointer (some ⟨w.heap.size + 1, 0, none⟩)]) ∧ w'.cell? ⟨w.heap.size, 0, none⟩ = some (.slice none 0 0) ∧ Below w.heap.size w w' := by
  go_enter Try.func33, Try.ntmps33
  go_wp2_with (first
    | (go_at_call 36; refine (row_nil w).mono ?_; rintro e w0 ⟨rfl, hw⟩; rw [hw]; clear hw)
    | (go_at_call 38; refine (clone_nil w).mono ?_; rintro e w1 ⟨rfl, hw⟩; rw [hw]; clear hw)
    | (go_at_call 35; refine (parts_nil w r).mono ?_; rintro e w2 ⟨rfl, hw⟩; have B2 : Below w.heap.size w w2 := (by rw [hw]; exact below2 _ _ _); have cc : w2.cell? ⟨w.heap.size, 0, none⟩ = some (.slice none 0 0) := (by rw [hw]; exact box_alloc _ (box_cell w _ 38).1); clear hw))
  go_ret
  exact ⟨rfl, cc, B2⟩
theorem runs_ok {w : World} {p b N : Nat} {f : Nat → Int} (h : Has 58 w p b f N) :
    Calls Try.prog 17 #[.pointer (some ⟨p, 0, none⟩)] w fun e w' => ∃ B, e = .returned (.func (.func 39) #[] #[.pointer (some ⟨B, 0, none⟩), .pointer (some ⟨B + 1, 0, none⟩)]) ∧ Asked w' w.heap.size B f N true ∧ Below w.heap.size w w' := by
  go_enter Try.func17, Try.ntmps17
  go_wp2_with (go_at_call 33; refine (told_ok h true).mono ?_; rintro e w1 ⟨B, rfl, Q, D⟩)
  go_ret
  exact ⟨B, rfl, Q, D⟩
theorem groups_ok {w : World} {p b N : Nat} {f : Nat → Int} (h : Has 58 w p b f N) :
    Calls Try.prog 16 #[.pointer (some ⟨p, 0, none⟩)] w fun e w' => ∃ B, e = .returned (.func (.func 39) #[] #[.pointer (some ⟨B, 0, none⟩), .pointer (some ⟨B + 1, 0, none⟩)]) ∧ Asked w' w.heap.size B f N false ∧ Below w.heap.size w w' := by
  go_enter Try.func16, Try.ntmps16
  go_wp2_with (go_at_call 33; refine (told_ok h false).mono ?_; rintro e w1 ⟨B, rfl, Q, D⟩)
  go_ret
  exact ⟨B, rfl, Q, D⟩
theorem runs_nil (w : World) :
    Calls Try.prog 17 #[.pointer none] w fun e w' => e = .returned (.func (.func 39) #[] #[.pointer (some ⟨w.heap.size, 0, none⟩), .pointer (some ⟨w.heap.size + 1, 0, none⟩)]) ∧ w'.cell? ⟨w.heap.size, 0, none⟩ = some (.slice none 0 0) ∧ Below w.heap.size w w' := by
  go_enter Try.func17, Try.ntmps17
  go_wp2_with (go_at_call 33; refine (told_nil w true).mono ?_; rintro e w1 ⟨rfl, Q, D⟩)
  go_ret
  exact ⟨rfl, Q, D⟩
theorem groups_nil (w : World) :
    Calls Try.prog 16 #[.pointer none] w fun e w' => e = .returned (.func (.func 39) #[] #[.pointer (some ⟨w.heap.size, 0, none⟩), .pointer (some ⟨w.heap.size + 1, 0, none⟩)]) ∧ w'.cell? ⟨w.heap.size, 0, none⟩ = some (.slice none 0 0) ∧ Below w.heap.size w w' := by
  go_enter Try.func16, Try.ntmps16
  go_wp2_with (go_at_call 33; refine (told_nil w false).mono ?_; rintro e w1 ⟨rfl, Q, D⟩)
  go_ret
  exact ⟨rfl, Q, D⟩
theorem two_nil {w : World} {z n : Nat} (h0 : w.heap[z]? = some (.cells #[.slice none 0 0] 38 (0, 0))) (h1 : w.heap[z + 1]? = some (.cells #[.slice none 0 0] 38 (0, 0))) (le : z + 1 < n) (sz : n ≤ w.heap.size) : Two w z n [] [] :=
  ⟨⟨_, _, h0, h1, World.ownsRow_nil _ _ _ _, World.ownsRow_nil _ _ _ _, .inl rfl⟩, le, sz⟩
end Go.Proofs.Ytaeehhonahhelaa
