/- The table of the primitives as it lies in memory, and what the program reads from it. -/
import Derived.Test.YtfopbakhbobgjaaDoorTell
import Derived.KernelRfl
namespace Go.Proofs.YtfopbakhbobgjaaDoor
open Go.RowKit
set_option linter.unusedVariables false
set_option linter.unusedSimpArgs false

def rowL (k : Nat) : List Value := [.string (str (tN k)), .int .i64 (tA k), .int .i64 (tB k), .int .i64 (tC k), .int .i64 0]
def tabL : List Value := (List.range 17).flatMap rowL
def tabC : Array Value := tabL.toArray
/-- The table, whole and cell by cell. -/
structure Table (w : World) : Prop where
  blk : ∃ t fr, w.heap[0]? = some (.cells tabC t fr)
  n : ∀ k, k < 17 → w.cell? ⟨0, k * 5, none⟩ = some (.string (str (tN k)))
  a : ∀ k, k < 17 → w.cell? ⟨0, k * 5 + 1, none⟩ = some (.int .i64 (tA k))
  b : ∀ k, k < 17 → w.cell? ⟨0, k * 5 + 2, none⟩ = some (.int .i64 (tB k))
  c : ∀ k, k < 17 → w.cell? ⟨0, k * 5 + 3, none⟩ = some (.int .i64 (tC k))
  d : ∀ k, k < 17 → w.cell? ⟨0, k * 5 + 4, none⟩ = some (.int .i64 0)
theorem Table.later {w w' : World} (h : Table w) (hb : Below w.heap.size w w') : Table w' := by
  have z : 0 < w.heap.size := World.block_lt_of_cell? _ _ (h.n 0 (by decide))
  have k : ∀ o, w'.cell? ⟨0, o, none⟩ = w.cell? ⟨0, o, none⟩ := fun o => hb.cell (p := ⟨0, o, none⟩) z
  obtain ⟨t, fr, hf⟩ := h.blk
  exact ⟨⟨t, fr, (hb.block _ z).trans hf⟩, fun j hj => (k _).trans (h.n j hj), fun j hj => (k _).trans (h.a j hj), fun j hj => (k _).trans (h.b j hj), fun j hj => (k _).trans (h.c j hj), fun j hj => (k _).trans (h.d j hj)⟩

theorem size36 : (Tryd.prog.info? 36).map (·.size) = some 5 := by kernel_rfl
abbrev rowV (s : ByteArray) (a b c : Int) : Value := .agg #[.string s, .int .i64 a, .int .i64 b, .int .i64 c, .int .i64 0]
def rowK (k : Nat) : Value := rowV (str (tN k)) (tA k) (tB k) (tC k)

set_option maxHeartbeats 1000000 in
theorem rowOf_out (n : Int) (w : World) (h : Table w) (o : ¬ (0 ≤ n ∧ n ≤ 16)) :
    Calls Tryd.prog 19 #[.int .i64 n] w fun e w' => e = .returned (rowK 0) ∧ Below w.heap.size w w' := by
  have hs : Table (w.alloc (Obj.cells #[Value.string { data := #[] }, Value.int IntKind.i64 0, Value.int IntKind.i64 0, Value.int IntKind.i64 0, Value.int IntKind.i64 0] 36)) := h.later (by go_grown)
  have z0 := hs.n 0 (by decide)
  have z1 := hs.a 0 (by decide)
  have z2 := hs.b 0 (by decide)
  have z3 := hs.c 0 (by decide)
  have z4 := hs.d 0 (by decide)
  clear hs
  by_cases a : n < 0
  · go_enter Tryd.func19, Tryd.ntmps19
    go_wp2
    exact bodyPost_ret (results_cell_row Tryd.results19 _ _ w.heap.size 36 #[.string (str []), .int .i64 0, .int .i64 0, .int .i64 0, .int .i64 0] (0, 0) _ rfl (heap_alloc_new _ _) Tryd.underlying36 rfl size36) rfl ⟨rfl, by go_grown⟩
  · have b : 17 ≤ n := by omega
    go_enter Tryd.func19, Tryd.ntmps19
    go_wp2
    exact bodyPost_ret (results_cell_row Tryd.results19 _ _ w.heap.size 36 #[.string (str []), .int .i64 0, .int .i64 0, .int .i64 0, .int .i64 0] (0, 0) _ rfl (heap_alloc_new _ _) Tryd.underlying36 rfl size36) rfl ⟨rfl, by go_grown⟩
set_option maxHeartbeats 1000000 in
theorem rowOf_in (k : Nat) (w : World) (h : Table w) (hk : k < 17) :
    Calls Tryd.prog 19 #[.int .i64 k] w fun e w' => e = .returned (rowK k) ∧ Below w.heap.size w w' := by
  have R : Hd (rowK k = rowV (str (tN k)) (tA k) (tB k) (tC k)) := ⟨rfl⟩
  obtain ⟨s, hs⟩ : ∃ x, str (tN k) = x := ⟨_, rfl⟩
  obtain ⟨ta, hta⟩ : ∃ x, tA k = x := ⟨_, rfl⟩
  obtain ⟨tb, htb⟩ : ∃ x, tB k = x := ⟨_, rfl⟩
  obtain ⟨tc, htc⟩ : ∃ x, tC k = x := ⟨_, rfl⟩
  have ht : Table (w.alloc (Obj.cells #[Value.string { data := #[] }, Value.int IntKind.i64 0, Value.int IntKind.i64 0, Value.int IntKind.i64 0, Value.int IntKind.i64 0] 36)) := h.later (by go_grown)
  have z0 := ht.n k hk
  have z1 := ht.a k hk
  have z2 := ht.b k hk
  have z3 := ht.c k hk
  have z4 := ht.d k hk
  rw [hs, hta, htb, htc] at R
  rw [hs] at z0
  rw [hta] at z1
  rw [htb] at z2
  rw [htc] at z3
  clear hs hta htb htc ht
  go_enter Tryd.func19, Tryd.ntmps19
  go_wp2
  rw [R.out]
  exact bodyPost_ret (results_cell_row Tryd.results19 _ _ w.heap.size 36 #[.string s, .int .i64 ta, .int .i64 tb, .int .i64 tc, .int .i64 0] (0, 0) _ rfl (heap_alloc_new _ _) Tryd.underlying36 rfl size36) rfl ⟨rfl, by go_grown⟩
theorem rowOf_any (n : Int) (w : World) (h : Table w) : Calls Tryd.prog 19 #[.int .i64 n] w fun e w' => e = .returned (rowK (rowN n)) ∧ Below w.heap.size w w' := by
  refine split17 (P := fun n => Calls Tryd.prog 19 #[.int .i64 n] w fun e w' => e = .returned (rowK (rowN n)) ∧ Below w.heap.size w w') n (fun k hk => ?_) (fun o => ?_)
  · rw [rowN_in hk]; exact rowOf_in k w h hk
  · rw [rowN_out o]; exact rowOf_out n w h o
theorem rowOf_parts (n : Int) (w : World) (h : Table w) : Calls Tryd.prog 19 #[.int .i64 n] w fun e w' => e = .returned (rowV (str (tN (rowN n))) (tA (rowN n)) (tB (rowN n)) (tC (rowN n))) ∧ Below w.heap.size w w' := rowOf_any n w h

theorem fld0 (s : ByteArray) (a b c : Int) (w : World) : Sem.run Tryd.prog (Instr.field 36 (rowV s a b c) 0) w = .ok (.string s) w := by kernel_rfl
theorem fld1 (s : ByteArray) (a b c : Int) (w : World) : Sem.run Tryd.prog (Instr.field 36 (rowV s a b c) 1) w = .ok (.int .i64 a) w := by kernel_rfl
theorem fld2 (s : ByteArray) (a b c : Int) (w : World) : Sem.run Tryd.prog (Instr.field 36 (rowV s a b c) 2) w = .ok (.agg #[.int .i64 b, .int .i64 c, .int .i64 0]) w := by kernel_rfl
theorem idx0 (b c : Int) (w : World) : Sem.run Tryd.prog (Instr.index 34 (.agg #[.int .i64 b, .int .i64 c, .int .i64 0]) (.int .i64 0)) w = .ok (.int .i64 b) w := by kernel_rfl
theorem idx1 (b c : Int) (w : World) : Sem.run Tryd.prog (Instr.index 34 (.agg #[.int .i64 b, .int .i64 c, .int .i64 0]) (.int .i64 1)) w = .ok (.int .i64 c) w := by kernel_rfl
theorem idx2 (b c : Int) (w : World) : Sem.run Tryd.prog (Instr.index 34 (.agg #[.int .i64 b, .int .i64 c, .int .i64 0]) (.int .i64 2)) w = .ok (.int .i64 0) w := by kernel_rfl
theorem name_any (n : Int) (w : World) (h : Table w) : Calls Tryd.prog 9 #[.int .i64 n] w fun e w' => e = .returned (.string (str (tN (rowN n)))) ∧ Below w.heap.size w w' := by
  have C := rowOf_parts n w h
  generalize str (tN (rowN n)) = s at *
  generalize tA (rowN n) = ta at *
  generalize tB (rowN n) = tb at *
  generalize tC (rowN n) = tc at *
  have F := fld0 s ta tb tc
  go_enter Tryd.func9, Tryd.ntmps9
  go_wp2_with (go_at_call 19; refine C.mono ?_; rintro e w' ⟨rfl, B⟩)
  go_ret
  exact ⟨rfl, B⟩
theorem arity_any (n : Int) (w : World) (h : Table w) : Calls Tryd.prog 13 #[.int .i64 n] w fun e w' => e = .returned (.int .i64 (tA (rowN n))) ∧ Below w.heap.size w w' := by
  have C := rowOf_parts n w h
  generalize str (tN (rowN n)) = s at *
  generalize tA (rowN n) = ta at *
  generalize tB (rowN n) = tb at *
  generalize tC (rowN n) = tc at *
  have F := fld1 s ta tb tc
  go_enter Tryd.func13, Tryd.ntmps13
  go_wp2_with (go_at_call 19; refine C.mono ?_; rintro e w' ⟨rfl, B⟩)
  go_ret
  exact ⟨rfl, B⟩
theorem need_any (n i : Int) (w : World) (h : Table w) : Calls Tryd.prog 15 #[.int .i64 n, .int .i64 i] w fun e w' => e = .returned (.int .i64 (needI (rowN n) i)) ∧ Below w.heap.size w w' := by
  have C := rowOf_parts n w h
  by_cases a : i < 0
  · have E : needI (rowN n) i = 0 := by unfold needI; rw [if_neg (by omega), if_neg (by omega)]
    rw [E]
    go_enter Tryd.func15, Tryd.ntmps15
    go_wp2
    go_ret
    exact ⟨rfl, Below.refl _ _⟩
  · by_cases b : 3 ≤ i
    · have E : needI (rowN n) i = 0 := by unfold needI; rw [if_neg (by omega), if_neg (by omega)]
      rw [E]
      go_enter Tryd.func15, Tryd.ntmps15
      go_wp2
      go_ret
      exact ⟨rfl, Below.refl _ _⟩
    · have c : i = 0 ∨ i = 1 ∨ i = 2 := by omega
      have F := fld2 (str (tN (rowN n))) (tA (rowN n)) (tB (rowN n)) (tC (rowN n))
      have I0 := idx0 (tB (rowN n)) (tC (rowN n))
      have I1 := idx1 (tB (rowN n)) (tC (rowN n))
      have I2 := idx2 (tB (rowN n)) (tC (rowN n))
      have E0 : needI (rowN n) 0 = tB (rowN n) := by unfold needI; rw [if_pos rfl]
      have E1 : needI (rowN n) 1 = tC (rowN n) := by unfold needI; rw [if_neg (by decide), if_pos rfl]
      have E2 : needI (rowN n) 2 = 0 := by unfold needI; rw [if_neg (by decide), if_neg (by decide)]
      rcases c with rfl | rfl | rfl
      · rw [E0]
        clear E0 E1 E2
        generalize str (tN (rowN n)) = s at *
        generalize tA (rowN n) = ta at *
        generalize tB (rowN n) = tb at *
        generalize tC (rowN n) = tc at *
        go_enter Tryd.func15, Tryd.ntmps15
        go_wp2_with (go_at_call 19; refine C.mono ?_; rintro e w' ⟨rfl, B⟩)
        go_ret
        exact ⟨rfl, B⟩
      · rw [E1]
        clear E0 E1 E2
        generalize str (tN (rowN n)) = s at *
        generalize tA (rowN n) = ta at *
        generalize tB (rowN n) = tb at *
        generalize tC (rowN n) = tc at *
        go_enter Tryd.func15, Tryd.ntmps15
        go_wp2_with (go_at_call 19; refine C.mono ?_; rintro e w' ⟨rfl, B⟩)
        go_ret
        exact ⟨rfl, B⟩
      · rw [E2]
        clear E0 E1 E2
        generalize str (tN (rowN n)) = s at *
        generalize tA (rowN n) = ta at *
        generalize tB (rowN n) = tb at *
        generalize tC (rowN n) = tc at *
        go_enter Tryd.func15, Tryd.ntmps15
        go_wp2_with (go_at_call 19; refine C.mono ?_; rintro e w' ⟨rfl, B⟩)
        go_ret
        exact ⟨rfl, B⟩
theorem eql22 (w : World) : Sem.run Tryd.prog (Op.equalIn 9999 34 (.agg #[.int .i64 2, .int .i64 2, .int .i64 0]) (.agg #[.int .i64 2, .int .i64 2, .int .i64 0])) w = .ok true w := by kernel_rfl
theorem eql10 (w : World) : Sem.run Tryd.prog (Op.equalIn 9999 34 (.agg #[.int .i64 1, .int .i64 0, .int .i64 0]) (.agg #[.int .i64 2, .int .i64 2, .int .i64 0])) w = .ok false w := by kernel_rfl
theorem eql30 (w : World) : Sem.run Tryd.prog (Op.equalIn 9999 34 (.agg #[.int .i64 3, .int .i64 0, .int .i64 0]) (.agg #[.int .i64 2, .int .i64 2, .int .i64 0])) w = .ok false w := by kernel_rfl
theorem eql20 (w : World) : Sem.run Tryd.prog (Op.equalIn 9999 34 (.agg #[.int .i64 2, .int .i64 0, .int .i64 0]) (.agg #[.int .i64 2, .int .i64 2, .int .i64 0])) w = .ok false w := by kernel_rfl
theorem eql42 (w : World) : Sem.run Tryd.prog (Op.equalIn 9999 34 (.agg #[.int .i64 4, .int .i64 2, .int .i64 0]) (.agg #[.int .i64 2, .int .i64 2, .int .i64 0])) w = .ok false w := by kernel_rfl
theorem of000 (s : ByteArray) (w : World) : Calls Tryd.prog 20 #[rowV s 0 0 0] w fun e w' => e = .returned (.bool false) ∧ Below w.heap.size w w' := by
  go_enter Tryd.func20, Tryd.ntmps20
  go_wp2
  all_goals go_ret
  all_goals exact ⟨rfl, by go_grown⟩
theorem of222 (s : ByteArray) (w : World) : Calls Tryd.prog 20 #[rowV s 2 2 2] w fun e w' => e = .returned (.bool true) ∧ Below w.heap.size w w' := by
  have E := eql22
  go_enter Tryd.func20, Tryd.ntmps20
  go_wp2
  all_goals go_ret
  all_goals exact ⟨rfl, by go_grown⟩
theorem of120 (s : ByteArray) (w : World) : Calls Tryd.prog 20 #[rowV s 1 2 0] w fun e w' => e = .returned (.bool false) ∧ Below w.heap.size w w' := by
  go_enter Tryd.func20, Tryd.ntmps20
  go_wp2
  all_goals go_ret
  all_goals exact ⟨rfl, by go_grown⟩
theorem of210 (s : ByteArray) (w : World) : Calls Tryd.prog 20 #[rowV s 2 1 0] w fun e w' => e = .returned (.bool false) ∧ Below w.heap.size w w' := by
  have E := eql10
  go_enter Tryd.func20, Tryd.ntmps20
  go_wp2
  all_goals go_ret
  all_goals exact ⟨rfl, by go_grown⟩
theorem of100 (s : ByteArray) (w : World) : Calls Tryd.prog 20 #[rowV s 1 0 0] w fun e w' => e = .returned (.bool false) ∧ Below w.heap.size w w' := by
  go_enter Tryd.func20, Tryd.ntmps20
  go_wp2
  all_goals go_ret
  all_goals exact ⟨rfl, by go_grown⟩
theorem of130 (s : ByteArray) (w : World) : Calls Tryd.prog 20 #[rowV s 1 3 0] w fun e w' => e = .returned (.bool false) ∧ Below w.heap.size w w' := by
  go_enter Tryd.func20, Tryd.ntmps20
  go_wp2
  all_goals go_ret
  all_goals exact ⟨rfl, by go_grown⟩
theorem of230 (s : ByteArray) (w : World) : Calls Tryd.prog 20 #[rowV s 2 3 0] w fun e w' => e = .returned (.bool false) ∧ Below w.heap.size w w' := by
  have E := eql30
  go_enter Tryd.func20, Tryd.ntmps20
  go_wp2
  all_goals go_ret
  all_goals exact ⟨rfl, by go_grown⟩
theorem of220 (s : ByteArray) (w : World) : Calls Tryd.prog 20 #[rowV s 2 2 0] w fun e w' => e = .returned (.bool false) ∧ Below w.heap.size w w' := by
  have E := eql20
  go_enter Tryd.func20, Tryd.ntmps20
  go_wp2
  all_goals go_ret
  all_goals exact ⟨rfl, by go_grown⟩
theorem of242 (s : ByteArray) (w : World) : Calls Tryd.prog 20 #[rowV s 2 4 2] w fun e w' => e = .returned (.bool false) ∧ Below w.heap.size w w' := by
  have E := eql42
  go_enter Tryd.func20, Tryd.ntmps20
  go_wp2
  all_goals go_ret
  all_goals exact ⟨rfl, by go_grown⟩
theorem of342 (s : ByteArray) (w : World) : Calls Tryd.prog 20 #[rowV s 3 4 2] w fun e w' => e = .returned (.bool false) ∧ Below w.heap.size w w' := by
  go_enter Tryd.func20, Tryd.ntmps20
  go_wp2
  all_goals go_ret
  all_goals exact ⟨rfl, by go_grown⟩
theorem of140 (s : ByteArray) (w : World) : Calls Tryd.prog 20 #[rowV s 1 4 0] w fun e w' => e = .returned (.bool false) ∧ Below w.heap.size w w' := by
  go_enter Tryd.func20, Tryd.ntmps20
  go_wp2
  all_goals go_ret
  all_goals exact ⟨rfl, by go_grown⟩
theorem ofNum_any (k : Nat) (hk : k < 17) (w : World) : Calls Tryd.prog 20 #[rowK k] w fun e w' => e = .returned (.bool (decide (1 ≤ k ∧ k ≤ 7))) ∧ Below w.heap.size w w' := by
  have c : k = 0 ∨ k = 1 ∨ k = 2 ∨ k = 3 ∨ k = 4 ∨ k = 5 ∨ k = 6 ∨ k = 7 ∨ k = 8 ∨ k = 9 ∨ k = 10 ∨ k = 11 ∨ k = 12 ∨ k = 13 ∨ k = 14 ∨ k = 15 ∨ k = 16 := by omega
  rcases c with rfl | rfl | rfl | rfl | rfl | rfl | rfl | rfl | rfl | rfl | rfl | rfl | rfl | rfl | rfl | rfl | rfl
  · exact of000 _ w
  · exact of222 _ w
  · exact of222 _ w
  · exact of222 _ w
  · exact of222 _ w
  · exact of222 _ w
  · exact of222 _ w
  · exact of222 _ w
  · exact of120 _ w
  · exact of210 _ w
  · exact of100 _ w
  · exact of130 _ w
  · exact of230 _ w
  · exact of220 _ w
  · exact of242 _ w
  · exact of342 _ w
  · exact of140 _ w
end Go.Proofs.YtfopbakhbobgjaaDoor
