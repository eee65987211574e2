/- The program's Find, Do and what must come at any rate. -/
import Derived.Test.YtfopbakhbobgjaaDoorTable
namespace Go.Proofs.YtfopbakhbobgjaaDoor
open Go.RowKit
set_option linter.unusedVariables false
set_option linter.unusedSimpArgs false

theorem belowOn {w wr w' : World} (B : Below w.heap.size w wr) (h : Below wr.heap.size wr w') : Below w.heap.size w w' := B.trans (h.mono B.size)
theorem size38 : (Tryd.prog.info? 38).map (·.size) = some tabC.size := by kernel_rfl
theorem row_at0 (w : World) : Sem.run Tryd.prog (Instr.index 38 (.agg tabC) (.int .i64 0)) w = .ok (rowK 0) w := by kernel_rfl
theorem row_at1 (w : World) : Sem.run Tryd.prog (Instr.index 38 (.agg tabC) (.int .i64 1)) w = .ok (rowK 1) w := by kernel_rfl
theorem row_at2 (w : World) : Sem.run Tryd.prog (Instr.index 38 (.agg tabC) (.int .i64 2)) w = .ok (rowK 2) w := by kernel_rfl
theorem row_at3 (w : World) : Sem.run Tryd.prog (Instr.index 38 (.agg tabC) (.int .i64 3)) w = .ok (rowK 3) w := by kernel_rfl
theorem row_at4 (w : World) : Sem.run Tryd.prog (Instr.index 38 (.agg tabC) (.int .i64 4)) w = .ok (rowK 4) w := by kernel_rfl
theorem row_at5 (w : World) : Sem.run Tryd.prog (Instr.index 38 (.agg tabC) (.int .i64 5)) w = .ok (rowK 5) w := by kernel_rfl
theorem row_at6 (w : World) : Sem.run Tryd.prog (Instr.index 38 (.agg tabC) (.int .i64 6)) w = .ok (rowK 6) w := by kernel_rfl
theorem row_at7 (w : World) : Sem.run Tryd.prog (Instr.index 38 (.agg tabC) (.int .i64 7)) w = .ok (rowK 7) w := by kernel_rfl
theorem row_at8 (w : World) : Sem.run Tryd.prog (Instr.index 38 (.agg tabC) (.int .i64 8)) w = .ok (rowK 8) w := by kernel_rfl
theorem row_at9 (w : World) : Sem.run Tryd.prog (Instr.index 38 (.agg tabC) (.int .i64 9)) w = .ok (rowK 9) w := by kernel_rfl
theorem row_at10 (w : World) : Sem.run Tryd.prog (Instr.index 38 (.agg tabC) (.int .i64 10)) w = .ok (rowK 10) w := by kernel_rfl
theorem row_at11 (w : World) : Sem.run Tryd.prog (Instr.index 38 (.agg tabC) (.int .i64 11)) w = .ok (rowK 11) w := by kernel_rfl
theorem row_at12 (w : World) : Sem.run Tryd.prog (Instr.index 38 (.agg tabC) (.int .i64 12)) w = .ok (rowK 12) w := by kernel_rfl
theorem row_at13 (w : World) : Sem.run Tryd.prog (Instr.index 38 (.agg tabC) (.int .i64 13)) w = .ok (rowK 13) w := by kernel_rfl
theorem row_at14 (w : World) : Sem.run Tryd.prog (Instr.index 38 (.agg tabC) (.int .i64 14)) w = .ok (rowK 14) w := by kernel_rfl
theorem row_at15 (w : World) : Sem.run Tryd.prog (Instr.index 38 (.agg tabC) (.int .i64 15)) w = .ok (rowK 15) w := by kernel_rfl
theorem row_at16 (w : World) : Sem.run Tryd.prog (Instr.index 38 (.agg tabC) (.int .i64 16)) w = .ok (rowK 16) w := by kernel_rfl
theorem row_at (k : Nat) (hk : k < 17) (w : World) : Sem.run Tryd.prog (Instr.index 38 (.agg tabC) (.int .i64 k)) w = .ok (rowK k) w := by
  have c : k = 0 ∨ k = 1 ∨ k = 2 ∨ k = 3 ∨ k = 4 ∨ k = 5 ∨ k = 6 ∨ k = 7 ∨ k = 8 ∨ k = 9 ∨ k = 10 ∨ k = 11 ∨ k = 12 ∨ k = 13 ∨ k = 14 ∨ k = 15 ∨ k = 16 := by omega
  rcases c with rfl | rfl | rfl | rfl | rfl | rfl | rfl | rfl | rfl | rfl | rfl | rfl | rfl | rfl | rfl | rfl | rfl
  · exact row_at0 w
  · exact row_at1 w
  · exact row_at2 w
  · exact row_at3 w
  · exact row_at4 w
  · exact row_at5 w
  · exact row_at6 w
  · exact row_at7 w
  · exact row_at8 w
  · exact row_at9 w
  · exact row_at10 w
  · exact row_at11 w
  · exact row_at12 w
  · exact row_at13 w
  · exact row_at14 w
  · exact row_at15 w
  · exact row_at16 w
theorem find_any (s : ByteArray) (w : World) (h : Table w) : Calls Tryd.prog 11 #[.string s] w fun e w' => (∃ r : Nat, e = .returned (.int .i64 r) ∧ FindsTo s r) ∧ Below w.heap.size w w' := by
  obtain ⟨t, fr, hf⟩ := h.blk
  go_enter Tryd.func11, Tryd.ntmps11
  go_wp2_with (refine wpList_load_row rfl 38 _ rfl 0 rfl t tabC fr _ hf Tryd.underlying38 rfl size38 ?_)
  go_loopw [6] (fun c wr => ∃ k : Nat, c = .int .i64 k ∧ k ≤ 17 ∧ Hd (∀ j, j < k → str (tN j) ≠ s) ∧ Below w.heap.size w wr) (fun c _ => 17 - (intOf c).toNat)
  case atStart => exact ⟨0, rfl, by omega, ⟨fun j b => absurd b (by omega)⟩, Below.refl _ _⟩
  case round =>
    obtain ⟨k, rfl, h2, HN, BB⟩ := hrel
    by_cases z : k < 17
    · have z' : (k : Int) < 17 := by omega
      obtain ⟨t, ht⟩ : ∃ t, str (tN k) = t := ⟨_, rfl⟩
      obtain ⟨ta, hta⟩ : ∃ x, tA k = x := ⟨_, rfl⟩
      obtain ⟨tb, htb⟩ : ∃ x, tB k = x := ⟨_, rfl⟩
      obtain ⟨tc, htc⟩ : ∃ x, tC k = x := ⟨_, rfl⟩
      have I : ∀ w, Sem.run Tryd.prog (Instr.index 38 (.agg tabC) (.int .i64 k)) w = .ok (.agg #[.string t, .int .i64 ta, .int .i64 tb, .int .i64 tc, .int .i64 0]) w := fun w => by
        rw [row_at k z, rowK, ht, hta, htb, htc]
      clear hta htb htc
      by_cases q : t = s
      · have F : Hd (FindsTo s k) := ⟨Or.inl ⟨by omega, ht.trans q⟩⟩
        have q' : (t.toList == s.toList) = true := eq_yes q
        clear ht HN q h hf
        go_wp2
        go_ret
        exact ⟨⟨k, rfl, F.out⟩, belowOn BB (by go_grown)⟩
      · have q' : (t.toList == s.toList) = false := eq_no q
        have HN' : Hd (∀ j, j < k + 1 → str (tN j) ≠ s) := ⟨fun j b => by
          by_cases e : j = k
          · subst e; rw [ht]; exact q
          · exact HN.out j (by omega)⟩
        clear ht HN q h hf
        go_wp2
        exact ⟨⟨k + 1, rfl, by omega, HN', belowOn BB (by go_grown)⟩, by simp only [intOf]; omega⟩
    · obtain rfl : k = 17 := by omega
      have F : Hd (FindsTo s 0) := ⟨Or.inr ⟨rfl, HN.out⟩⟩
      clear HN h hf
      go_wp2
      go_ret
      exact ⟨⟨0, rfl, F.out⟩, BB⟩

theorem inRange {n : Int} : (1 ≤ rowN n ∧ rowN n ≤ 7) ↔ (1 ≤ n ∧ n ≤ 7) := by
  by_cases h : 0 ≤ n ∧ n ≤ 16
  · rw [rowN, if_pos h]; omega
  · rw [rowN_out h]; omega
theorem do_no (n a b : Int) (w : World) (h : Table w) (o : ¬ (1 ≤ n ∧ n ≤ 7)) : Calls Tryd.prog 17 #[.int .i64 n, .int .i64 a, .int .i64 b] w fun e w' => e = .returned (pairV 0 34) ∧ Below w.heap.size w w' := by
  have C := rowOf_any n w h
  have D := fun w => ofNum_any (rowN n) (rowN_lt n) w
  have e : decide (1 ≤ rowN n ∧ rowN n ≤ 7) = false := by rw [decide_eq_false_iff_not, inRange]; exact o
  rw [e] at D
  generalize rowK (rowN n) = v at C D
  clear e
  go_enter Tryd.func17, Tryd.ntmps17
  go_wp2_with (first
    | (go_at_call 19; refine C.mono ?_; rintro e w1 ⟨rfl, B1⟩)
    | (go_at_call 20; refine (D _).mono ?_; rintro e w2 ⟨rfl, B2⟩))
  go_ret2
  exact ⟨rfl, belowOn B1 B2⟩
theorem do_div (n a : Int) (w : World) (h : Table w) (o : n = 4 ∨ n = 5) : Calls Tryd.prog 17 #[.int .i64 n, .int .i64 a, .int .i64 0] w fun e w' => e = .returned (pairV 0 40) ∧ Below w.heap.size w w' := by
  have C := rowOf_any n w h
  have D := fun w => ofNum_any (rowN n) (rowN_lt n) w
  have e : decide (1 ≤ rowN n ∧ rowN n ≤ 7) = true := by rw [decide_eq_true_iff, inRange]; omega
  rw [e] at D
  generalize rowK (rowN n) = v at C D
  clear e
  rcases o with rfl | rfl
  all_goals go_enter Tryd.func17, Tryd.ntmps17
  all_goals go_wp2_with (first
    | (go_at_call 19; refine C.mono ?_; rintro e w1 ⟨rfl, B1⟩)
    | (go_at_call 20; refine (D _).mono ?_; rintro e w2 ⟨rfl, B2⟩))
  all_goals go_ret2
  all_goals exact ⟨rfl, belowOn B1 B2⟩
theorem do_in (k : Nat) (a b : Int) (w : World) (h : Table w) (h1 : 1 ≤ k) (h7 : k ≤ 7) (hb : b = 0 → ¬ (k = 4 ∨ k = 5)) : Calls Tryd.prog 17 #[.int .i64 k, .int .i64 a, .int .i64 b] w fun e w' => e = .returned (pairV (tellI k a b) 0) ∧ Below w.heap.size w w' := by
  have C := rowOf_any k w h
  have D := fun w => ofNum_any (rowN k) (rowN_lt k) w
  have e : decide (1 ≤ rowN k ∧ rowN k ≤ 7) = true := by rw [decide_eq_true_iff, inRange]; omega
  rw [e] at D
  generalize rowK (rowN k) = v at C D
  clear e
  have T := fun w => tell_any k h1 h7 a b hb w
  generalize tellI k a b = r at T ⊢
  by_cases z : b = 0
  · have p4 : ((k : Int) == 4) = false := by have := hb z; simp; omega
    have p5 : ((k : Int) == 5) = false := by have := hb z; simp; omega
    subst z
    clear hb h1 h7
    go_enter Tryd.func17, Tryd.ntmps17
    go_wp2_with (first
      | (go_at_call 19; refine C.mono ?_; rintro e w1 ⟨rfl, B1⟩)
      | (go_at_call 20; refine (D _).mono ?_; rintro e w2 ⟨rfl, B2⟩)
      | (go_at_call 21; refine (T _).mono ?_; rintro e w3 ⟨rfl, rfl⟩))
    go_ret2
    exact ⟨rfl, belowOn B1 B2⟩
  · have z' : (b == 0) = false := by simp [z]
    clear hb h1 h7 z
    go_enter Tryd.func17, Tryd.ntmps17
    go_wp2_with (first
      | (go_at_call 19; refine C.mono ?_; rintro e w1 ⟨rfl, B1⟩)
      | (go_at_call 20; refine (D _).mono ?_; rintro e w2 ⟨rfl, B2⟩)
      | (go_at_call 21; refine (T _).mono ?_; rintro e w3 ⟨rfl, rfl⟩))
    go_ret2
    exact ⟨rfl, belowOn B1 B2⟩
theorem do_any (n a b : Int) (w : World) (h : Table w) : Calls Tryd.prog 17 #[.int .i64 n, .int .i64 a, .int .i64 b] w fun e w' => e = .returned (pairV (doI n a b).1 (doI n a b).2) ∧ Below w.heap.size w w' := by
  by_cases o : 1 ≤ n ∧ n ≤ 7
  · obtain ⟨k, rfl⟩ : ∃ k : Nat, n = k := ⟨n.toNat, by omega⟩
    by_cases d : b = 0 ∧ (k = 4 ∨ k = 5)
    · obtain ⟨rfl, e⟩ := d
      rw [doI_div (by omega)]
      exact do_div _ a w h (by omega)
    · rw [doI_in (by omega) (by omega) (fun e f => d ⟨e, f⟩)]
      exact do_in k a b w h (by omega) (by omega) (fun e f => d ⟨e, f⟩)
  · rw [doI_no o]
    exact do_no n a b w h o

theorem do_tup (n a b : Int) (w : World) (h : Table w) : Calls Tryd.prog 17 #[.int .i64 n, .int .i64 a, .int .i64 b] w fun e w' => e = .returned (.tuple #[.int .i64 (doI n a b).1, .int .i64 (doI n a b).2]) ∧ Below w.heap.size w w' := do_any n a b w h
theorem find_div (w : World) (h : Table w) : Calls Tryd.prog 11 #[.string (str [35, 100, 105, 118])] w fun e w' => e = .returned (.int .i64 4) ∧ Below w.heap.size w w' :=
  (find_any _ w h).mono fun e w' ⟨⟨r, hr, F⟩, B⟩ => ⟨by rw [hr, F.one (Or.inl ⟨by decide, rfl⟩ : FindsTo (str [35, 100, 105, 118]) 4)]; rfl, B⟩
theorem awake_any (w : World) (h : Table w) : Calls Tryd.prog 8 #[] w fun e w' => e = .returned (.bool true) ∧ Below w.heap.size w w' := by
  have D : ∀ w, Table w → Calls Tryd.prog 17 #[.int .i64 4, .int .i64 (-7), .int .i64 2] w fun e w' => e = .returned (.tuple #[.int .i64 (-3), .int .i64 0]) ∧ Below w.heap.size w w' := fun w h => by have := do_tup 4 (-7) 2 w h; rwa [show doI 4 (-7) 2 = (-3, 0) by kernel_rfl] at this
  have N : ∀ w, Table w → Calls Tryd.prog 9 #[.int .i64 8] w fun e w' => e = .returned (.string (str [35, 101, 109, 105, 116])) ∧ Below w.heap.size w w' := fun w h => name_any 8 w h
  have A : ∀ w, Table w → Calls Tryd.prog 13 #[.int .i64 15] w fun e w' => e = .returned (.int .i64 3) ∧ Below w.heap.size w w' := fun w h => arity_any 15 w h
  have q : ((str [35, 101, 109, 105, 116]).toList == [35, 101, 109, 105, 116]) = true := by rw [ByteArray.toList_eq]; rfl
  go_enter Tryd.func8, Tryd.ntmps8
  go_wp2_with (first
    | (go_at_call 11; refine (find_div _ h).mono ?_; rintro e w1 ⟨rfl, B1⟩; have T1 := h.later B1)
    | (go_at_call 17; refine (D _ T1).mono ?_; rintro e w2 ⟨rfl, B2⟩; have T2 := T1.later B2)
    | (go_at_call 9; refine (N _ T2).mono ?_; rintro e w3 ⟨rfl, B3⟩; have T3 := T2.later B3)
    | (go_at_call 13; refine (A _ T3).mono ?_; rintro e w4 ⟨rfl, B4⟩))
  go_ret
  exact ⟨rfl, belowOn (belowOn (belowOn B1 B2) B3) B4⟩
end Go.Proofs.YtfopbakhbobgjaaDoor
