/- Package prim: names, needs, and what primitives of numbers tell. -/
import Derived.Test.YtbajpejnnfacbaaGreatDoorPri
namespace Go.Proofs.YtbajpejnnfacbaaGreatDoor
open Go.RowKit
set_option linter.unusedVariables false
set_option linter.unusedSimpArgs false

structure Hd (p : Prop) : Prop where
  out : p
theorem retPair {k l : IntKind} {a b c d : Int} (h : a = b) (g : c = d) : Ending.returned (.tuple #[.int k a, .int l c]) = .returned (.tuple #[.int k b, .int l d]) := by rw [h, g]

theorem truth_any (b : Bool) (w : World) : Calls Tryz.prog 132 #[.bool b] w fun e w' => e = .returned (.int .i64 (if b = true then 1 else 0)) ∧ w' = w := by
  cases b
  all_goals go_enter Tryz.func132, Tryz.ntmps132
  all_goals go_wp2
  all_goals go_ret
  all_goals exact ⟨rfl, rfl⟩

def tellI : Nat → Int → Int → Int
  | 1, a, b => wrap64 (a + b)
  | 2, a, b => wrap64 (a - b)
  | 3, a, b => wrap64 (a * b)
  | 4, a, b => wrap64 (a.tdiv b)
  | 5, a, b => a.tmod b
  | 6, a, b => if a = b then 1 else 0
  | 7, a, b => if a < b then 1 else 0
  | _, _, _ => 0
abbrev isI (a : Int) : Prop := -9223372036854775808 ≤ a ∧ a ≤ 9223372036854775807
def pairV (x e : Int) : Value := .tuple #[.int .i64 x, .int .i64 e]

theorem tell1 (a b : Int) (w : World) : Calls Tryz.prog 124 #[.int .i64 1, .int .i64 a, .int .i64 b] w fun e w' => e = .returned (.int .i64 (tellI 1 a b)) ∧ w' = w := by
  go_enter Tryz.func124, Tryz.ntmps124
  go_wp2
  go_ret
  exact ⟨rfl, rfl⟩
theorem tell2 (a b : Int) (w : World) : Calls Tryz.prog 124 #[.int .i64 2, .int .i64 a, .int .i64 b] w fun e w' => e = .returned (.int .i64 (tellI 2 a b)) ∧ w' = w := by
  go_enter Tryz.func124, Tryz.ntmps124
  go_wp2
  go_ret
  exact ⟨rfl, rfl⟩
theorem tell3 (a b : Int) (w : World) : Calls Tryz.prog 124 #[.int .i64 3, .int .i64 a, .int .i64 b] w fun e w' => e = .returned (.int .i64 (tellI 3 a b)) ∧ w' = w := by
  go_enter Tryz.func124, Tryz.ntmps124
  go_wp2
  go_ret
  exact ⟨rfl, rfl⟩
theorem tell4 (a b : Int) (w : World) (hb : ¬ b = 0) : Calls Tryz.prog 124 #[.int .i64 4, .int .i64 a, .int .i64 b] w fun e w' => e = .returned (.int .i64 (tellI 4 a b)) ∧ w' = w := by
  go_enter Tryz.func124, Tryz.ntmps124
  go_wp2
  go_ret
  exact ⟨rfl, rfl⟩
theorem tell5 (a b : Int) (w : World) (hb : ¬ b = 0) : Calls Tryz.prog 124 #[.int .i64 5, .int .i64 a, .int .i64 b] w fun e w' => e = .returned (.int .i64 (tellI 5 a b)) ∧ w' = w := by
  go_enter Tryz.func124, Tryz.ntmps124
  go_wp2
  go_ret
  exact ⟨rfl, rfl⟩
theorem tell6 (a b : Int) (w : World) : Calls Tryz.prog 124 #[.int .i64 6, .int .i64 a, .int .i64 b] w fun e w' => e = .returned (.int .i64 (tellI 6 a b)) ∧ w' = w := by
  go_enter Tryz.func124, Tryz.ntmps124
  go_wp2_with (go_at_call 132; refine (truth_any _ _).mono ?_; rintro e w' ⟨rfl, rfl⟩)
  all_goals go_ret
  all_goals exact ⟨retInt (by simp_all [tellI]), rfl⟩
theorem tell7 (a b : Int) (w : World) : Calls Tryz.prog 124 #[.int .i64 7, .int .i64 a, .int .i64 b] w fun e w' => e = .returned (.int .i64 (tellI 7 a b)) ∧ w' = w := by
  go_enter Tryz.func124, Tryz.ntmps124
  go_wp2_with (go_at_call 132; refine (truth_any _ _).mono ?_; rintro e w' ⟨rfl, rfl⟩)
  all_goals go_ret
  all_goals exact ⟨retInt (by simp [tellI]; try omega), rfl⟩

theorem tell_any (k : Nat) (h1 : 1 ≤ k) (h7 : k ≤ 7) (a b : Int) (hb : b = 0 → ¬ (k = 4 ∨ k = 5)) (w : World) : Calls Tryz.prog 124 #[.int .i64 k, .int .i64 a, .int .i64 b] w fun e w' => e = .returned (.int .i64 (tellI k a b)) ∧ w' = w := by
  have c : k = 1 ∨ k = 2 ∨ k = 3 ∨ k = 4 ∨ k = 5 ∨ k = 6 ∨ k = 7 := by omega
  rcases c with rfl | rfl | rfl | rfl | rfl | rfl | rfl
  · exact tell1 a b w
  · exact tell2 a b w
  · exact tell3 a b w
  · exact tell4 a b w (fun e => hb e (Or.inl rfl))
  · exact tell5 a b w (fun e => hb e (Or.inr rfl))
  · exact tell6 a b w
  · exact tell7 a b w

/-- what Do answers -/
def doI (n : Int) (a b : Int) : Int × Int := if 1 ≤ n ∧ n ≤ 7 then (if b = 0 ∧ (n = 4 ∨ n = 5) then (0, 40) else (tellI n.toNat a b, 0)) else (0, 34)

theorem abs_tmod (a b : Int) : a.tmod b = if decide (a < 0) = true then - ((a.natAbs : Int) % (b.natAbs : Int)) else (a.natAbs : Int) % (b.natAbs : Int) := by
  rcases Int.natAbs_eq a with h | h <;> rcases Int.natAbs_eq b with h' | h' <;> generalize a.natAbs = x at h ⊢ <;> generalize b.natAbs = y at h' ⊢ <;> subst h h'
  all_goals simp only [Int.neg_tmod, Int.tmod_neg, ← Int.ofNat_tmod, ← Int.natCast_emod]
  all_goals
    rcases Nat.eq_zero_or_pos x with hx | hx
    · subst hx; simp
    · have x1 : ¬ ((x : Int) < 0) := by omega
      have x2 : - (x : Int) < 0 := by omega
      simp [x1, x2, hx]
theorem tmod_le (a b : Int) (h : isI a) : isI (a.tmod b) := by
  rw [abs_tmod]
  have h1 : ((a.natAbs : Int) % (b.natAbs : Int)) ≤ a.natAbs := by
    rw [← Int.natCast_emod]
    exact Int.ofNat_le.2 (Nat.mod_le _ _)
  have h2 : 0 ≤ ((a.natAbs : Int) % (b.natAbs : Int)) := by rw [← Int.natCast_emod]; omega
  generalize (a.natAbs : Int) % (b.natAbs : Int) = r at *
  obtain ⟨h3, h4⟩ := h
  by_cases n : a < 0
  · simp only [n, decide_true, if_true]; exact ⟨by omega, by omega⟩
  · simp only [n, decide_false]; exact ⟨by simp; omega, by simp; omega⟩
theorem doI_no {n a b : Int} (h : ¬ (1 ≤ n ∧ n ≤ 7)) : doI n a b = (0, 34) := by unfold doI; rw [if_neg h]
theorem doI_div {n a : Int} (h : n = 4 ∨ n = 5) : doI n a 0 = (0, 40) := by unfold doI; rw [if_pos (by omega), if_pos ⟨rfl, h⟩]
theorem doI_in {k : Nat} {a b : Int} (h1 : 1 ≤ k) (h7 : k ≤ 7) (hb : b = 0 → ¬ (k = 4 ∨ k = 5)) : doI k a b = (tellI k a b, 0) := by
  unfold doI
  rw [if_pos (by omega), if_neg (by rintro ⟨e, f⟩; exact hb e (by omega)), Int.toNat_natCast]
theorem fld2 (s : ByteArray) (a b c : Int) (w : World) : Sem.run Tryz.prog (Instr.field 173 (rowV s a b c) 2) w = .ok (.agg #[.int .i64 b, .int .i64 c, .int .i64 0]) w := by kernel_rfl
theorem idx0 (b c : Int) (w : World) : Sem.run Tryz.prog (Instr.index 171 (.agg #[.int .i64 b, .int .i64 c, .int .i64 0]) (.int .i64 0)) w = .ok (.int .i64 b) w := by kernel_rfl
theorem idx1 (b c : Int) (w : World) : Sem.run Tryz.prog (Instr.index 171 (.agg #[.int .i64 b, .int .i64 c, .int .i64 0]) (.int .i64 1)) w = .ok (.int .i64 c) w := by kernel_rfl
theorem idx2 (b c : Int) (w : World) : Sem.run Tryz.prog (Instr.index 171 (.agg #[.int .i64 b, .int .i64 c, .int .i64 0]) (.int .i64 2)) w = .ok (.int .i64 0) w := by kernel_rfl
theorem name_any (n : Int) (w : World) (h : Table w) : Calls Tryz.prog 83 #[.int .i64 n] w fun e w' => e = .returned (.string (str (tN (rowN n)))) ∧ Below w.heap.size w w' := by
  have C := rowOf_parts n w h
  generalize str (tN (rowN n)) = s at *
  generalize tA (rowN n) = ta at *
  generalize tB (rowN n) = tb at *
  generalize tC (rowN n) = tc at *
  have F := fld0 s ta tb tc
  go_enter Tryz.func83, Tryz.ntmps83
  go_wp2_with (go_at_call 110; refine C.mono ?_; rintro e w' ⟨rfl, B⟩)
  go_ret
  exact ⟨rfl, B⟩
theorem need_any (n i : Int) (w : World) (h : Table w) : Calls Tryz.prog 102 #[.int .i64 n, .int .i64 i] w fun e w' => e = .returned (.int .i64 (needI (rowN n) i)) ∧ Below w.heap.size w w' := by
  have C := rowOf_parts n w h
  by_cases a : i < 0
  · have E : needI (rowN n) i = 0 := by unfold needI; rw [if_neg (by omega), if_neg (by omega)]
    rw [E]
    go_enter Tryz.func102, Tryz.ntmps102
    go_wp2
    go_ret
    exact ⟨rfl, Below.refl _ _⟩
  · by_cases b : 3 ≤ i
    · have E : needI (rowN n) i = 0 := by unfold needI; rw [if_neg (by omega), if_neg (by omega)]
      rw [E]
      go_enter Tryz.func102, Tryz.ntmps102
      go_wp2
      go_ret
      exact ⟨rfl, Below.refl _ _⟩
    · have c : i = 0 ∨ i = 1 ∨ i = 2 := by omega
      have F := fld2 (str (tN (rowN n))) (tA (rowN n)) (tB (rowN n)) (tC (rowN n))
      have I0 := idx0 (tB (rowN n)) (tC (rowN n))
      have I1 := idx1 (tB (rowN n)) (tC (rowN n))
      have I2 := idx2 (tB (rowN n)) (tC (rowN n))
      have E0 : needI (rowN n) 0 = tB (rowN n) := by unfold needI; rw [if_pos rfl]
      have E1 : needI (rowN n) 1 = tC (rowN n) := by unfold needI; rw [if_neg (by decide), if_pos rfl]
      have E2 : needI (rowN n) 2 = 0 := by unfold needI; rw [if_neg (by decide), if_neg (by decide)]
      rcases c with rfl | rfl | rfl
      · rw [E0]
        clear E0 E1 E2
        generalize str (tN (rowN n)) = s at *
        generalize tA (rowN n) = ta at *
        generalize tB (rowN n) = tb at *
        generalize tC (rowN n) = tc at *
        go_enter Tryz.func102, Tryz.ntmps102
        go_wp2_with (go_at_call 110; refine C.mono ?_; rintro e w' ⟨rfl, B⟩)
        go_ret
        exact ⟨rfl, B⟩
      · rw [E1]
        clear E0 E1 E2
        generalize str (tN (rowN n)) = s at *
        generalize tA (rowN n) = ta at *
        generalize tB (rowN n) = tb at *
        generalize tC (rowN n) = tc at *
        go_enter Tryz.func102, Tryz.ntmps102
        go_wp2_with (go_at_call 110; refine C.mono ?_; rintro e w' ⟨rfl, B⟩)
        go_ret
        exact ⟨rfl, B⟩
      · rw [E2]
        clear E0 E1 E2
        generalize str (tN (rowN n)) = s at *
        generalize tA (rowN n) = ta at *
        generalize tB (rowN n) = tb at *
        generalize tC (rowN n) = tc at *
        go_enter Tryz.func102, Tryz.ntmps102
        go_wp2_with (go_at_call 110; refine C.mono ?_; rintro e w' ⟨rfl, B⟩)
        go_ret
        exact ⟨rfl, B⟩
theorem eql22 (w : World) : Sem.run Tryz.prog (Op.equalIn 9999 171 (.agg #[.int .i64 2, .int .i64 2, .int .i64 0]) (.agg #[.int .i64 2, .int .i64 2, .int .i64 0])) w = .ok true w := by kernel_rfl
theorem eql10 (w : World) : Sem.run Tryz.prog (Op.equalIn 9999 171 (.agg #[.int .i64 1, .int .i64 0, .int .i64 0]) (.agg #[.int .i64 2, .int .i64 2, .int .i64 0])) w = .ok false w := by kernel_rfl
theorem eql30 (w : World) : Sem.run Tryz.prog (Op.equalIn 9999 171 (.agg #[.int .i64 3, .int .i64 0, .int .i64 0]) (.agg #[.int .i64 2, .int .i64 2, .int .i64 0])) w = .ok false w := by kernel_rfl
theorem eql20 (w : World) : Sem.run Tryz.prog (Op.equalIn 9999 171 (.agg #[.int .i64 2, .int .i64 0, .int .i64 0]) (.agg #[.int .i64 2, .int .i64 2, .int .i64 0])) w = .ok false w := by kernel_rfl
theorem eql42 (w : World) : Sem.run Tryz.prog (Op.equalIn 9999 171 (.agg #[.int .i64 4, .int .i64 2, .int .i64 0]) (.agg #[.int .i64 2, .int .i64 2, .int .i64 0])) w = .ok false w := by kernel_rfl
theorem of000 (s : ByteArray) (w : World) : Calls Tryz.prog 123 #[rowV s 0 0 0] w fun e w' => e = .returned (.bool false) ∧ Below w.heap.size w w' := by
  go_enter Tryz.func123, Tryz.ntmps123
  go_wp2
  all_goals go_ret
  all_goals exact ⟨rfl, by go_grown⟩
theorem of222 (s : ByteArray) (w : World) : Calls Tryz.prog 123 #[rowV s 2 2 2] w fun e w' => e = .returned (.bool true) ∧ Below w.heap.size w w' := by
  have E := eql22
  go_enter Tryz.func123, Tryz.ntmps123
  go_wp2
  all_goals go_ret
  all_goals exact ⟨rfl, by go_grown⟩
theorem of120 (s : ByteArray) (w : World) : Calls Tryz.prog 123 #[rowV s 1 2 0] w fun e w' => e = .returned (.bool false) ∧ Below w.heap.size w w' := by
  go_enter Tryz.func123, Tryz.ntmps123
  go_wp2
  all_goals go_ret
  all_goals exact ⟨rfl, by go_grown⟩
theorem of210 (s : ByteArray) (w : World) : Calls Tryz.prog 123 #[rowV s 2 1 0] w fun e w' => e = .returned (.bool false) ∧ Below w.heap.size w w' := by
  have E := eql10
  go_enter Tryz.func123, Tryz.ntmps123
  go_wp2
  all_goals go_ret
  all_goals exact ⟨rfl, by go_grown⟩
theorem of100 (s : ByteArray) (w : World) : Calls Tryz.prog 123 #[rowV s 1 0 0] w fun e w' => e = .returned (.bool false) ∧ Below w.heap.size w w' := by
  go_enter Tryz.func123, Tryz.ntmps123
  go_wp2
  all_goals go_ret
  all_goals exact ⟨rfl, by go_grown⟩
theorem of130 (s : ByteArray) (w : World) : Calls Tryz.prog 123 #[rowV s 1 3 0] w fun e w' => e = .returned (.bool false) ∧ Below w.heap.size w w' := by
  go_enter Tryz.func123, Tryz.ntmps123
  go_wp2
  all_goals go_ret
  all_goals exact ⟨rfl, by go_grown⟩
theorem of230 (s : ByteArray) (w : World) : Calls Tryz.prog 123 #[rowV s 2 3 0] w fun e w' => e = .returned (.bool false) ∧ Below w.heap.size w w' := by
  have E := eql30
  go_enter Tryz.func123, Tryz.ntmps123
  go_wp2
  all_goals go_ret
  all_goals exact ⟨rfl, by go_grown⟩
theorem of220 (s : ByteArray) (w : World) : Calls Tryz.prog 123 #[rowV s 2 2 0] w fun e w' => e = .returned (.bool false) ∧ Below w.heap.size w w' := by
  have E := eql20
  go_enter Tryz.func123, Tryz.ntmps123
  go_wp2
  all_goals go_ret
  all_goals exact ⟨rfl, by go_grown⟩
theorem of242 (s : ByteArray) (w : World) : Calls Tryz.prog 123 #[rowV s 2 4 2] w fun e w' => e = .returned (.bool false) ∧ Below w.heap.size w w' := by
  have E := eql42
  go_enter Tryz.func123, Tryz.ntmps123
  go_wp2
  all_goals go_ret
  all_goals exact ⟨rfl, by go_grown⟩
theorem of342 (s : ByteArray) (w : World) : Calls Tryz.prog 123 #[rowV s 3 4 2] w fun e w' => e = .returned (.bool false) ∧ Below w.heap.size w w' := by
  go_enter Tryz.func123, Tryz.ntmps123
  go_wp2
  all_goals go_ret
  all_goals exact ⟨rfl, by go_grown⟩
theorem of140 (s : ByteArray) (w : World) : Calls Tryz.prog 123 #[rowV s 1 4 0] w fun e w' => e = .returned (.bool false) ∧ Below w.heap.size w w' := by
  go_enter Tryz.func123, Tryz.ntmps123
  go_wp2
  all_goals go_ret
  all_goals exact ⟨rfl, by go_grown⟩
theorem ofNum_any (k : Nat) (hk : k < 17) (w : World) : Calls Tryz.prog 123 #[rowK k] w fun e w' => e = .returned (.bool (decide (1 ≤ k ∧ k ≤ 7))) ∧ Below w.heap.size w w' := by
  have c : k = 0 ∨ k = 1 ∨ k = 2 ∨ k = 3 ∨ k = 4 ∨ k = 5 ∨ k = 6 ∨ k = 7 ∨ k = 8 ∨ k = 9 ∨ k = 10 ∨ k = 11 ∨ k = 12 ∨ k = 13 ∨ k = 14 ∨ k = 15 ∨ k = 16 := by omega
  rcases c with rfl | rfl | rfl | rfl | rfl | rfl | rfl | rfl | rfl | rfl | rfl | rfl | rfl | rfl | rfl | rfl | rfl
  · exact of000 _ w
  · exact of222 _ w
  · exact of222 _ w
  · exact of222 _ w
  · exact of222 _ w
  · exact of222 _ w
  · exact of222 _ w
  · exact of222 _ w
  · exact of120 _ w
  · exact of210 _ w
  · exact of100 _ w
  · exact of130 _ w
  · exact of230 _ w
  · exact of220 _ w
  · exact of242 _ w
  · exact of342 _ w
  · exact of140 _ w
theorem inRange {n : Int} : (1 ≤ rowN n ∧ rowN n ≤ 7) ↔ (1 ≤ n ∧ n ≤ 7) := by
  by_cases h : 0 ≤ n ∧ n ≤ 16
  · rw [rowN, if_pos h]; omega
  · rw [rowN_out h]; omega
theorem do_no (n a b : Int) (w : World) (h : Table w) (o : ¬ (1 ≤ n ∧ n ≤ 7)) : Calls Tryz.prog 114 #[.int .i64 n, .int .i64 a, .int .i64 b] w fun e w' => e = .returned (pairV 0 34) ∧ Below w.heap.size w w' := by
  have C := rowOf_any n w h
  have D := fun w => ofNum_any (rowN n) (rowN_lt n) w
  have e : decide (1 ≤ rowN n ∧ rowN n ≤ 7) = false := by rw [decide_eq_false_iff_not, inRange]; exact o
  rw [e] at D
  generalize rowK (rowN n) = v at C D
  clear e
  go_enter Tryz.func114, Tryz.ntmps114
  go_wp2_with (first
    | (go_at_call 110; refine C.mono ?_; rintro e w1 ⟨rfl, B1⟩)
    | (go_at_call 123; refine (D _).mono ?_; rintro e w2 ⟨rfl, B2⟩))
  go_ret2
  exact ⟨rfl, belowOn B1 B2⟩
theorem do_div (n a : Int) (w : World) (h : Table w) (o : n = 4 ∨ n = 5) : Calls Tryz.prog 114 #[.int .i64 n, .int .i64 a, .int .i64 0] w fun e w' => e = .returned (pairV 0 40) ∧ Below w.heap.size w w' := by
  have C := rowOf_any n w h
  have D := fun w => ofNum_any (rowN n) (rowN_lt n) w
  have e : decide (1 ≤ rowN n ∧ rowN n ≤ 7) = true := by rw [decide_eq_true_iff, inRange]; omega
  rw [e] at D
  generalize rowK (rowN n) = v at C D
  clear e
  rcases o with rfl | rfl
  all_goals go_enter Tryz.func114, Tryz.ntmps114
  all_goals go_wp2_with (first
    | (go_at_call 110; refine C.mono ?_; rintro e w1 ⟨rfl, B1⟩)
    | (go_at_call 123; refine (D _).mono ?_; rintro e w2 ⟨rfl, B2⟩))
  all_goals go_ret2
  all_goals exact ⟨rfl, belowOn B1 B2⟩
theorem do_in (k : Nat) (a b : Int) (w : World) (h : Table w) (h1 : 1 ≤ k) (h7 : k ≤ 7) (hb : b = 0 → ¬ (k = 4 ∨ k = 5)) : Calls Tryz.prog 114 #[.int .i64 k, .int .i64 a, .int .i64 b] w fun e w' => e = .returned (pairV (tellI k a b) 0) ∧ Below w.heap.size w w' := by
  have C := rowOf_any k w h
  have D := fun w => ofNum_any (rowN k) (rowN_lt k) w
  have e : decide (1 ≤ rowN k ∧ rowN k ≤ 7) = true := by rw [decide_eq_true_iff, inRange]; omega
  rw [e] at D
  generalize rowK (rowN k) = v at C D
  clear e
  have T := fun w => tell_any k h1 h7 a b hb w
  generalize tellI k a b = r at T ⊢
  by_cases z : b = 0
  · have p4 : ((k : Int) == 4) = false := by have := hb z; simp; omega
    have p5 : ((k : Int) == 5) = false := by have := hb z; simp; omega
    subst z
    clear hb h1 h7
    go_enter Tryz.func114, Tryz.ntmps114
    go_wp2_with (first
      | (go_at_call 110; refine C.mono ?_; rintro e w1 ⟨rfl, B1⟩)
      | (go_at_call 123; refine (D _).mono ?_; rintro e w2 ⟨rfl, B2⟩)
      | (go_at_call 124; refine (T _).mono ?_; rintro e w3 ⟨rfl, rfl⟩))
    go_ret2
    exact ⟨rfl, belowOn B1 B2⟩
  · have z' : (b == 0) = false := by simp [z]
    clear hb h1 h7 z
    go_enter Tryz.func114, Tryz.ntmps114
    go_wp2_with (first
      | (go_at_call 110; refine C.mono ?_; rintro e w1 ⟨rfl, B1⟩)
      | (go_at_call 123; refine (D _).mono ?_; rintro e w2 ⟨rfl, B2⟩)
      | (go_at_call 124; refine (T _).mono ?_; rintro e w3 ⟨rfl, rfl⟩))
    go_ret2
    exact ⟨rfl, belowOn B1 B2⟩
theorem do_any (n a b : Int) (w : World) (h : Table w) : Calls Tryz.prog 114 #[.int .i64 n, .int .i64 a, .int .i64 b] w fun e w' => e = .returned (pairV (doI n a b).1 (doI n a b).2) ∧ Below w.heap.size w w' := by
  by_cases o : 1 ≤ n ∧ n ≤ 7
  · obtain ⟨k, rfl⟩ : ∃ k : Nat, n = k := ⟨n.toNat, by omega⟩
    by_cases d : b = 0 ∧ (k = 4 ∨ k = 5)
    · obtain ⟨rfl, e⟩ := d
      rw [doI_div (by omega)]
      exact do_div _ a w h (by omega)
    · rw [doI_in (by omega) (by omega) (fun e f => d ⟨e, f⟩)]
      exact do_in k a b w h (by omega) (by omega) (fun e f => d ⟨e, f⟩)
  · rw [doI_no o]
    exact do_no n a b w h o

theorem do_tup (n a b : Int) (w : World) (h : Table w) : Calls Tryz.prog 114 #[.int .i64 n, .int .i64 a, .int .i64 b] w fun e w' => e = .returned (.tuple #[.int .i64 (doI n a b).1, .int .i64 (doI n a b).2]) ∧ Below w.heap.size w w' := do_any n a b w h
end Go.Proofs.YtbajpejnnfacbaaGreatDoor