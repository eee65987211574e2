/- The statement's own helper that goes over a range of pointers and tells the list. -/
import Derived.Test.YtdiibckplkkkkaaDoorTells
namespace Go.Proofs.YtdiibckplkkkkaaDoor
open Go.RowKit
set_option linter.unusedVariables false

theorem tells_any {w : World} {z y b n : Nat} {k i p q m : Int} (H : Hand w z y b n k i p q m) (O : One w z n []) (z0 : 0 < z) (zn : z < n) (hy : y < n ∧ y ≠ z) (hb : b < n ∧ b ≠ z) :
    Calls Tryd.prog 28 #[.func (.func 27) #[] #[.pointer (some ⟨z, 0, none⟩), .pointer (some ⟨y, 0, none⟩)], .pointer (some ⟨b, 0, none⟩)] w fun e w' => (∃ v, e = .returned v) ∧ One w' z n (places (told k i p q m)) ∧ Bar z n w w' := by
  by_cases E : rightE k i p q = 0
  · have sm := right_small E
    obtain ⟨P, rfl⟩ : ∃ P : Nat, p = P := ⟨p.toNat, by omega⟩
    exact tells_ok H O E z0 zn hy hb
  · exact tells_bad H O E

/-- A list of the places from 1 to J. -/
def Listed (w : World) (o : Option Addr) (J cap : Nat) : Prop :=
  (o = none ∧ J = 0) ∨ ∃ g, o = some ⟨g, 0, none⟩ ∧ J ≤ cap ∧ g < w.heap.size ∧ ∀ t, t < J → w.cell? ⟨g, t, none⟩ = some (.int .i64 ((t : Int) + 1))
theorem Listed.later {w w' : World} {o : Option Addr} {J cap : Nat} (h : Listed w o J cap) (B : Below w.heap.size w w') : Listed w' o J cap := by
  rcases h with h | ⟨g, h1, h2, h3, h4⟩
  · exact .inl h
  · exact .inr ⟨g, h1, h2, Nat.lt_of_lt_of_le h3 B.size, fun t ht => (B.cell (p := ⟨g, t, none⟩) h3).trans (h4 t ht)⟩
theorem Listed.get {w : World} {o : Option Addr} {J cap t : Nat} (h : Listed w o J cap) (ht : t < J) : ∃ g, o = some ⟨g, 0, none⟩ ∧ J ≤ cap ∧ w.cell? ⟨g, t, none⟩ = some (.int .i64 ((t : Int) + 1)) := by
  rcases h with h | ⟨g, h1, h2, h3, h4⟩
  · omega
  · exact ⟨g, h1, h2, h4 t ht⟩
theorem listed_of {w : World} {va : Value} {n J : Nat} (ho : w.ownsRow n 3 1 va (places J).length (ints (places J))) : ∃ o cap, va = .slice o J cap ∧ Listed w o J cap := by
  rw [places_length] at ho
  rcases ho.2 with ⟨h0, h1⟩ | ⟨g, cap, cur, hv, hb, hgc, h1, h2, h3, h4⟩
  · exact ⟨none, 0, by rw [h0, h1], .inl ⟨rfl, h1⟩⟩
  · refine ⟨some ⟨g, 0, none⟩, cap, hv, .inr ⟨g, rfl, h1, (Array.getElem?_eq_some_iff.1 hgc).1, fun t ht => ?_⟩⟩
    rw [Joins.cell_of_block hgc]
    have e : (cur.toList.take (J * 1))[t]? = (ints (places J))[t]? := by rw [h4]
    rw [Nat.mul_one, List.getElem?_take_of_lt ht] at e
    simp only [ints, List.getElem?_map, places_get J t ht, Option.map_some] at e
    simpa using e

theorem boxes2 (w : World) (o o' : Obj) : ((w.alloc o).alloc o').heap[w.heap.size]? = some o ∧ ((w.alloc o).alloc o').heap[w.heap.size + 1]? = some o' := by
  refine ⟨?_, ?_⟩
  · rw [Below.heap_alloc _ _ _ (by simp)]; exact heap_alloc_new _ _
  · have := heap_alloc_new (w.alloc o) o'; simpa using this
theorem below2 (w : World) (o o' : Obj) : Below w.heap.size w ((w.alloc o).alloc o') := by go_grown
theorem one_nil {w : World} {z n : Nat} (h : w.heap[z]? = some (.cells #[.slice none 0 0] 34 (0, 0))) (le : z < n) (sz : n ≤ w.heap.size) : One w z n [] :=
  ⟨⟨_, h, World.ownsRow_nil _ _ _ _⟩, le, sz⟩

set_option maxRecDepth 100000 in
set_option maxHeartbeats 2000000 in
theorem places_ok {w : World} {b : Nat} {k i p q : Int} (m : Int) (T : Table w) (hd : w.heap[b]? = some (.cells #[.int .i64 k, .int .i64 i, .int .i64 p, .int .i64 q] 23 (0, 0))) :
    Calls Tryd.prog 19 #[.func (.func 28) #[] #[.pointer (some ⟨b, 0, none⟩)], .int .i64 m] w fun e w' => ∃ o cap, e = .returned (.slice o (told k i p q m) cap) ∧ Listed w' o (told k i p q m) cap ∧ Below w.heap.size w w' := by
  have he : ∀ w : World, (binOp .eql 37 (.func (.func 28) #[] #[.pointer (some ⟨b, 0, none⟩)]) .nilFunc).run Tryd.prog w = .ok (.bool false) w := fun _ => rfl
  have lb := (Array.getElem?_eq_some_iff.1 hd).1
  obtain ⟨b0, b1⟩ := boxes2 w (.cells #[.int .i64 m] 3) (.cells #[.slice none 0 0] 34)
  have D := below2 w (.cells #[.int .i64 m] 3) (.cells #[.slice none 0 0] 34)
  have HA : Hand ((w.alloc (.cells #[.int .i64 m] 3)).alloc (.cells #[.slice none 0 0] 34)) (w.heap.size + 1) w.heap.size b ((w.alloc (.cells #[.int .i64 m] 3)).alloc (.cells #[.slice none 0 0] 34)).heap.size k i p q m := ⟨T.later D, (D.block b lb).trans hd, b0⟩
  have TE := tells_any HA (one_nil b1 (by simp) (Nat.le_refl _)) (by omega) (by simp) ⟨by simp; omega, by omega⟩ ⟨by simp; omega, by omega⟩
  clear b0 b1 HA T hd
  go_enter Tryd.func19, Tryd.ntmps19
  go_wp2_with (go_at_call 28; refine TE.mono ?_; rintro e w2 ⟨⟨u, rfl⟩, O2, K2⟩; obtain ⟨va, ba, oa⟩ := O2.ex; have c1 : w2.cell? ⟨w.heap.size + 1, 0, none⟩ = some va := (by rw [Joins.cell_of_block ba]; rfl); obtain ⟨o, cap, rfl, LL⟩ := listed_of oa; have D2 : Below w.heap.size w w2 := ⟨K2.os.trans D.os, K2.tape.trans D.tape, K2.output.trans D.output, Nat.le_trans D.size K2.size, fun k hk => (K2.block k (by simp; omega) (by omega)).trans (D.block k hk)⟩; clear oa ba O2 K2 TE)
  go_ret
  exact ⟨o, cap, rfl, LL, D2⟩

theorem pointers_ok (k i p q : Int) (w : World) :
    Calls Tryd.prog 20 #[head k i p q] w fun e w' => e = .returned (.func (.func 28) #[] #[.pointer (some ⟨w.heap.size, 0, none⟩)]) ∧ w' = w.alloc (Obj.cells #[Value.int IntKind.i64 k, Value.int IntKind.i64 i, Value.int IntKind.i64 p, Value.int IntKind.i64 q] 23) := by
  go_enter Tryd.func20, Tryd.ntmps20
  go_wp2
  go_ret
  exact ⟨rfl, rfl⟩
end Go.Proofs.YtdiibckplkkkkaaDoor
