/- The table of the primitives as it lies in memory, and what the program reads from it. -/
import Derived.Test.YtbajpejnnfacbaaGreatDoorSch
import Derived.KernelRfl
namespace Go.Proofs.YtbajpejnnfacbaaGreatDoor
open Go.RowKit
set_option linter.unusedVariables false
set_option linter.unusedSimpArgs false

def rowL (k : Nat) : List Value := [.string (str (tN k)), .int .i64 (tA k), .int .i64 (tB k), .int .i64 (tC k), .int .i64 0]
def tabL : List Value := (List.range 17).flatMap rowL
def tabC : Array Value := tabL.toArray
/-- The table, whole and cell by cell. -/
structure Table (w : World) : Prop where
  blk : ∃ t fr, w.heap[0]? = some (.cells tabC t fr)
  n : ∀ k, k < 17 → w.cell? ⟨0, k * 5, none⟩ = some (.string (str (tN k)))
  a : ∀ k, k < 17 → w.cell? ⟨0, k * 5 + 1, none⟩ = some (.int .i64 (tA k))
  b : ∀ k, k < 17 → w.cell? ⟨0, k * 5 + 2, none⟩ = some (.int .i64 (tB k))
  c : ∀ k, k < 17 → w.cell? ⟨0, k * 5 + 3, none⟩ = some (.int .i64 (tC k))
  d : ∀ k, k < 17 → w.cell? ⟨0, k * 5 + 4, none⟩ = some (.int .i64 0)
theorem Table.later {w w' : World} (h : Table w) (hb : Below w.heap.size w w') : Table w' := by
  have z : 0 < w.heap.size := World.block_lt_of_cell? _ _ (h.n 0 (by decide))
  have k : ∀ o, w'.cell? ⟨0, o, none⟩ = w.cell? ⟨0, o, none⟩ := fun o => hb.cell (p := ⟨0, o, none⟩) z
  obtain ⟨t, fr, hf⟩ := h.blk
  exact ⟨⟨t, fr, (hb.block _ z).trans hf⟩, fun j hj => (k _).trans (h.n j hj), fun j hj => (k _).trans (h.a j hj), fun j hj => (k _).trans (h.b j hj), fun j hj => (k _).trans (h.c j hj), fun j hj => (k _).trans (h.d j hj)⟩

theorem size36 : (Tryz.prog.info? 173).map (·.size) = some 5 := by kernel_rfl
abbrev rowV (s : ByteArray) (a b c : Int) : Value := .agg #[.string s, .int .i64 a, .int .i64 b, .int .i64 c, .int .i64 0]
def rowK (k : Nat) : Value := rowV (str (tN k)) (tA k) (tB k) (tC k)

set_option maxHeartbeats 1000000 in
theorem rowOf_out (n : Int) (w : World) (h : Table w) (o : ¬ (0 ≤ n ∧ n ≤ 16)) :
    Calls Tryz.prog 110 #[.int .i64 n] w fun e w' => e = .returned (rowK 0) ∧ Below w.heap.size w w' := by
  have hs : Table (w.alloc (Obj.cells #[Value.string { data := #[] }, Value.int IntKind.i64 0, Value.int IntKind.i64 0, Value.int IntKind.i64 0, Value.int IntKind.i64 0] 173)) := h.later (by go_grown)
  have z0 := hs.n 0 (by decide)
  have z1 := hs.a 0 (by decide)
  have z2 := hs.b 0 (by decide)
  have z3 := hs.c 0 (by decide)
  have z4 := hs.d 0 (by decide)
  clear hs
  by_cases a : n < 0
  · go_enter Tryz.func110, Tryz.ntmps110
    go_wp2
    exact bodyPost_ret (results_cell_row Tryz.results110 _ _ w.heap.size 173 #[.string (str []), .int .i64 0, .int .i64 0, .int .i64 0, .int .i64 0] (0, 0) _ rfl (heap_alloc_new _ _) Tryz.underlying173 rfl size36) rfl ⟨rfl, by go_grown⟩
  · have b : 17 ≤ n := by omega
    go_enter Tryz.func110, Tryz.ntmps110
    go_wp2
    exact bodyPost_ret (results_cell_row Tryz.results110 _ _ w.heap.size 173 #[.string (str []), .int .i64 0, .int .i64 0, .int .i64 0, .int .i64 0] (0, 0) _ rfl (heap_alloc_new _ _) Tryz.underlying173 rfl size36) rfl ⟨rfl, by go_grown⟩
set_option maxHeartbeats 1000000 in
theorem rowOf_in (k : Nat) (w : World) (h : Table w) (hk : k < 17) :
    Calls Tryz.prog 110 #[.int .i64 k] w fun e w' => e = .returned (rowK k) ∧ Below w.heap.size w w' := by
  have R : Hid (rowK k = rowV (str (tN k)) (tA k) (tB k) (tC k)) := ⟨rfl⟩
  obtain ⟨s, hs⟩ : ∃ x, str (tN k) = x := ⟨_, rfl⟩
  obtain ⟨ta, hta⟩ : ∃ x, tA k = x := ⟨_, rfl⟩
  obtain ⟨tb, htb⟩ : ∃ x, tB k = x := ⟨_, rfl⟩
  obtain ⟨tc, htc⟩ : ∃ x, tC k = x := ⟨_, rfl⟩
  have ht : Table (w.alloc (Obj.cells #[Value.string { data := #[] }, Value.int IntKind.i64 0, Value.int IntKind.i64 0, Value.int IntKind.i64 0, Value.int IntKind.i64 0] 173)) := h.later (by go_grown)
  have z0 := ht.n k hk
  have z1 := ht.a k hk
  have z2 := ht.b k hk
  have z3 := ht.c k hk
  have z4 := ht.d k hk
  rw [hs, hta, htb, htc] at R
  rw [hs] at z0
  rw [hta] at z1
  rw [htb] at z2
  rw [htc] at z3
  clear hs hta htb htc ht
  go_enter Tryz.func110, Tryz.ntmps110
  go_wp2
  rw [R.out]
  exact bodyPost_ret (results_cell_row Tryz.results110 _ _ w.heap.size 173 #[.string s, .int .i64 ta, .int .i64 tb, .int .i64 tc, .int .i64 0] (0, 0) _ rfl (heap_alloc_new _ _) Tryz.underlying173 rfl size36) rfl ⟨rfl, by go_grown⟩
theorem rowOf_any (n : Int) (w : World) (h : Table w) : Calls Tryz.prog 110 #[.int .i64 n] w fun e w' => e = .returned (rowK (rowN n)) ∧ Below w.heap.size w w' := by
  refine split17 (P := fun n => Calls Tryz.prog 110 #[.int .i64 n] w fun e w' => e = .returned (rowK (rowN n)) ∧ Below w.heap.size w w') n (fun k hk => ?_) (fun o => ?_)
  · rw [rowN_in hk]; exact rowOf_in k w h hk
  · rw [rowN_out o]; exact rowOf_out n w h o
theorem rowOf_parts (n : Int) (w : World) (h : Table w) : Calls Tryz.prog 110 #[.int .i64 n] w fun e w' => e = .returned (rowV (str (tN (rowN n))) (tA (rowN n)) (tB (rowN n)) (tC (rowN n))) ∧ Below w.heap.size w w' := rowOf_any n w h

theorem fld0 (s : ByteArray) (a b c : Int) (w : World) : Sem.run Tryz.prog (Instr.field 173 (rowV s a b c) 0) w = .ok (.string s) w := by kernel_rfl
theorem fld1 (s : ByteArray) (a b c : Int) (w : World) : Sem.run Tryz.prog (Instr.field 173 (rowV s a b c) 1) w = .ok (.int .i64 a) w := by kernel_rfl
theorem arity_any (n : Int) (w : World) (h : Table w) : Calls Tryz.prog 130 #[.int .i64 n] w fun e w' => e = .returned (.int .i64 (tA (rowN n))) ∧ Below w.heap.size w w' := by
  have C := rowOf_parts n w h
  generalize str (tN (rowN n)) = s at *
  generalize tA (rowN n) = ta at *
  generalize tB (rowN n) = tb at *
  generalize tC (rowN n) = tc at *
  have F := fld1 s ta tb tc
  go_enter Tryz.func130, Tryz.ntmps130
  go_wp2_with (go_at_call 110; refine C.mono ?_; rintro e w' ⟨rfl, B⟩)
  go_ret
  exact ⟨rfl, B⟩
theorem belowOn {w wr w' : World} (B : Below w.heap.size w wr) (h : Below wr.heap.size wr w') : Below w.heap.size w w' := B.trans (h.mono B.size)
theorem size38 : (Tryz.prog.info? 174).map (·.size) = some tabC.size := by kernel_rfl
theorem row_at0 (w : World) : Sem.run Tryz.prog (Instr.index 174 (.agg tabC) (.int .i64 0)) w = .ok (rowK 0) w := by kernel_rfl
theorem row_at1 (w : World) : Sem.run Tryz.prog (Instr.index 174 (.agg tabC) (.int .i64 1)) w = .ok (rowK 1) w := by kernel_rfl
theorem row_at2 (w : World) : Sem.run Tryz.prog (Instr.index 174 (.agg tabC) (.int .i64 2)) w = .ok (rowK 2) w := by kernel_rfl
theorem row_at3 (w : World) : Sem.run Tryz.prog (Instr.index 174 (.agg tabC) (.int .i64 3)) w = .ok (rowK 3) w := by kernel_rfl
theorem row_at4 (w : World) : Sem.run Tryz.prog (Instr.index 174 (.agg tabC) (.int .i64 4)) w = .ok (rowK 4) w := by kernel_rfl
theorem row_at5 (w : World) : Sem.run Tryz.prog (Instr.index 174 (.agg tabC) (.int .i64 5)) w = .ok (rowK 5) w := by kernel_rfl
theorem row_at6 (w : World) : Sem.run Tryz.prog (Instr.index 174 (.agg tabC) (.int .i64 6)) w = .ok (rowK 6) w := by kernel_rfl
theorem row_at7 (w : World) : Sem.run Tryz.prog (Instr.index 174 (.agg tabC) (.int .i64 7)) w = .ok (rowK 7) w := by kernel_rfl
theorem row_at8 (w : World) : Sem.run Tryz.prog (Instr.index 174 (.agg tabC) (.int .i64 8)) w = .ok (rowK 8) w := by kernel_rfl
theorem row_at9 (w : World) : Sem.run Tryz.prog (Instr.index 174 (.agg tabC) (.int .i64 9)) w = .ok (rowK 9) w := by kernel_rfl
theorem row_at10 (w : World) : Sem.run Tryz.prog (Instr.index 174 (.agg tabC) (.int .i64 10)) w = .ok (rowK 10) w := by kernel_rfl
theorem row_at11 (w : World) : Sem.run Tryz.prog (Instr.index 174 (.agg tabC) (.int .i64 11)) w = .ok (rowK 11) w := by kernel_rfl
theorem row_at12 (w : World) : Sem.run Tryz.prog (Instr.index 174 (.agg tabC) (.int .i64 12)) w = .ok (rowK 12) w := by kernel_rfl
theorem row_at13 (w : World) : Sem.run Tryz.prog (Instr.index 174 (.agg tabC) (.int .i64 13)) w = .ok (rowK 13) w := by kernel_rfl
theorem row_at14 (w : World) : Sem.run Tryz.prog (Instr.index 174 (.agg tabC) (.int .i64 14)) w = .ok (rowK 14) w := by kernel_rfl
theorem row_at15 (w : World) : Sem.run Tryz.prog (Instr.index 174 (.agg tabC) (.int .i64 15)) w = .ok (rowK 15) w := by kernel_rfl
theorem row_at16 (w : World) : Sem.run Tryz.prog (Instr.index 174 (.agg tabC) (.int .i64 16)) w = .ok (rowK 16) w := by kernel_rfl
theorem row_at (k : Nat) (hk : k < 17) (w : World) : Sem.run Tryz.prog (Instr.index 174 (.agg tabC) (.int .i64 k)) w = .ok (rowK k) w := by
  have c : k = 0 ∨ k = 1 ∨ k = 2 ∨ k = 3 ∨ k = 4 ∨ k = 5 ∨ k = 6 ∨ k = 7 ∨ k = 8 ∨ k = 9 ∨ k = 10 ∨ k = 11 ∨ k = 12 ∨ k = 13 ∨ k = 14 ∨ k = 15 ∨ k = 16 := by omega
  rcases c with rfl | rfl | rfl | rfl | rfl | rfl | rfl | rfl | rfl | rfl | rfl | rfl | rfl | rfl | rfl | rfl | rfl
  · exact row_at0 w
  · exact row_at1 w
  · exact row_at2 w
  · exact row_at3 w
  · exact row_at4 w
  · exact row_at5 w
  · exact row_at6 w
  · exact row_at7 w
  · exact row_at8 w
  · exact row_at9 w
  · exact row_at10 w
  · exact row_at11 w
  · exact row_at12 w
  · exact row_at13 w
  · exact row_at14 w
  · exact row_at15 w
  · exact row_at16 w
theorem find_any (s : ByteArray) (w : World) (h : Table w) : Calls Tryz.prog 63 #[.string s] w fun e w' => (∃ r : Nat, e = .returned (.int .i64 r) ∧ FindsTo s r) ∧ Below w.heap.size w w' := by
  obtain ⟨t, fr, hf⟩ := h.blk
  go_enter Tryz.func63, Tryz.ntmps63
  go_wp2_with (refine wpList_load_row rfl 174 _ rfl 0 rfl t tabC fr _ hf Tryz.underlying174 rfl size38 ?_)
  go_loopw [6] (fun c wr => ∃ k : Nat, c = .int .i64 k ∧ k ≤ 17 ∧ Hid (∀ j, j < k → str (tN j) ≠ s) ∧ Below w.heap.size w wr) (fun c _ => 17 - (intOf c).toNat)
  case atStart => exact ⟨0, rfl, by omega, ⟨fun j b => absurd b (by omega)⟩, Below.refl _ _⟩
  case round =>
    obtain ⟨k, rfl, h2, HN, BB⟩ := hrel
    by_cases z : k < 17
    · have z' : (k : Int) < 17 := by omega
      obtain ⟨t, ht⟩ : ∃ t, str (tN k) = t := ⟨_, rfl⟩
      obtain ⟨ta, hta⟩ : ∃ x, tA k = x := ⟨_, rfl⟩
      obtain ⟨tb, htb⟩ : ∃ x, tB k = x := ⟨_, rfl⟩
      obtain ⟨tc, htc⟩ : ∃ x, tC k = x := ⟨_, rfl⟩
      have I : ∀ w, Sem.run Tryz.prog (Instr.index 174 (.agg tabC) (.int .i64 k)) w = .ok (.agg #[.string t, .int .i64 ta, .int .i64 tb, .int .i64 tc, .int .i64 0]) w := fun w => by
        rw [row_at k z, rowK, ht, hta, htb, htc]
      clear hta htb htc
      by_cases q : t = s
      · have F : Hid (FindsTo s k) := ⟨Or.inl ⟨by omega, ht.trans q⟩⟩
        have q' : (t.toList == s.toList) = true := eq_yes q
        clear ht HN q h hf
        go_wp2
        go_ret
        exact ⟨⟨k, rfl, F.out⟩, belowOn BB (by go_grown)⟩
      · have q' : (t.toList == s.toList) = false := eq_no q
        have HN' : Hid (∀ j, j < k + 1 → str (tN j) ≠ s) := ⟨fun j b => by
          by_cases e : j = k
          · subst e; rw [ht]; exact q
          · exact HN.out j (by omega)⟩
        clear ht HN q h hf
        go_wp2
        exact ⟨⟨k + 1, rfl, by omega, HN', belowOn BB (by go_grown)⟩, by simp only [intOf]; omega⟩
    · obtain rfl : k = 17 := by omega
      have F : Hid (FindsTo s 0) := ⟨Or.inr ⟨rfl, HN.out⟩⟩
      clear HN h hf
      go_wp2
      go_ret
      exact ⟨⟨0, rfl, F.out⟩, BB⟩

theorem Table.of_block {w w' : World} (h : Table w) (k : w'.heap[0]? = w.heap[0]?) : Table w' := by
  have c : ∀ o, w'.cell? ⟨0, o, none⟩ = w.cell? ⟨0, o, none⟩ := fun o => World.cell?_of_block k
  obtain ⟨t, fr, hf⟩ := h.blk
  exact ⟨⟨t, fr, k.trans hf⟩, fun j hj => (c _).trans (h.n j hj), fun j hj => (c _).trans (h.a j hj), fun j hj => (c _).trans (h.b j hj), fun j hj => (c _).trans (h.c j hj), fun j hj => (c _).trans (h.d j hj)⟩
theorem Table.pos {w : World} (h : Table w) : 0 < w.heap.size := World.block_lt_of_cell? _ _ (h.n 0 (by decide))
theorem ppFind_any (n : Nm) (w : World) (h : Table w) : Calls Tryz.prog 63 #[.string (str n)] w fun e w' => e = .returned (.int .i64 (prN n)) ∧ Below w.heap.size w w' :=
  (find_any (str n) w h).mono fun e w' ⟨⟨r, hr, F⟩, B⟩ => ⟨by rw [hr, F.one (prN_finds n)], B⟩
theorem ppArity_any (n : Nm) (w : World) (h : Table w) : Calls Tryz.prog 130 #[.int .i64 (prN n)] w fun e w' => e = .returned (.int .i64 (tA (prN n))) ∧ Below w.heap.size w w' := by
  have := arity_any (prN n) w h
  rwa [rowN_in (by rcases prN_finds n with h | h; exact h.1; omega)] at this
end Go.Proofs.YtbajpejnnfacbaaGreatDoor
