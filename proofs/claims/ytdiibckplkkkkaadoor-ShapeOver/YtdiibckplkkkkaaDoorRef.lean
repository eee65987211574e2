/- The document's own Right, Size and Over: they answer what the program's answer. -/
import Derived.Test.YtdiibckplkkkkaaDoorOver
namespace Go.Proofs.YtdiibckplkkkkaaDoor
open Go.RowKit

theorem say1 (p n : Int) : partsB 1 p n = (hasB 0 8 p && (n == 0)) := by
  rw [Bool.eq_iff_iff]
  simp [partsB, hasB, tA, tB, tC, tD]
  try omega
set_option maxHeartbeats 1000000 in
theorem refParts1 (i p n : Int) (w : World) : Calls Tryd.prog 25 #[head 1 i p n] w fun e w' => e = .returned (.bool (partsB 1 p n)) ∧ Below w.heap.size w w' := by
  rw [say1]
  rcases Bool.eq_false_or_eq_true (hasB 0 8 p) with a | a
  all_goals rw [a]
  all_goals go_enter Tryd.func25, Tryd.ntmps25
  all_goals go_wp2_with (go_at_call 24; refine (between_any _ _ _ _).mono ?_; rintro e w' ⟨rfl, rfl⟩)
  all_goals go_ret
  all_goals exact ⟨retBool (by simp), by go_grown⟩

theorem say2 (p n : Int) : partsB 2 p n = ((p == 0) && (n == 1)) := by
  rw [Bool.eq_iff_iff]
  simp [partsB, hasB, tA, tB, tC, tD]
  try omega
set_option maxHeartbeats 1000000 in
theorem refParts2 (i p n : Int) (w : World) : Calls Tryd.prog 25 #[head 2 i p n] w fun e w' => e = .returned (.bool (partsB 2 p n)) ∧ Below w.heap.size w w' := by
  rw [say2]
  rcases Bool.eq_false_or_eq_true ((p == 0)) with a | a
  all_goals rw [a]
  all_goals go_enter Tryd.func25, Tryd.ntmps25
  all_goals go_wp2_with (go_at_call 24; refine (between_any _ _ _ _).mono ?_; rintro e w' ⟨rfl, rfl⟩)
  all_goals go_ret
  all_goals exact ⟨retBool (by simp), by go_grown⟩

theorem say3 (p n : Int) : partsB 3 p n = (hasB 0 255 p && (n == 0)) := by
  rw [Bool.eq_iff_iff]
  simp [partsB, hasB, tA, tB, tC, tD]
  try omega
set_option maxHeartbeats 1000000 in
theorem refParts3 (i p n : Int) (w : World) : Calls Tryd.prog 25 #[head 3 i p n] w fun e w' => e = .returned (.bool (partsB 3 p n)) ∧ Below w.heap.size w w' := by
  rw [say3]
  rcases Bool.eq_false_or_eq_true (hasB 0 255 p) with a | a
  all_goals rw [a]
  all_goals go_enter Tryd.func25, Tryd.ntmps25
  all_goals go_wp2_with (go_at_call 24; refine (between_any _ _ _ _).mono ?_; rintro e w' ⟨rfl, rfl⟩)
  all_goals go_ret
  all_goals exact ⟨retBool (by simp), by go_grown⟩

theorem say4 (p n : Int) : partsB 4 p n = (hasB 2 9 p && (n == 0)) := by
  rw [Bool.eq_iff_iff]
  simp [partsB, hasB, tA, tB, tC, tD]
  try omega
set_option maxHeartbeats 1000000 in
theorem refParts4 (i p n : Int) (w : World) : Calls Tryd.prog 25 #[head 4 i p n] w fun e w' => e = .returned (.bool (partsB 4 p n)) ∧ Below w.heap.size w w' := by
  rw [say4]
  rcases Bool.eq_false_or_eq_true (hasB 2 9 p) with a | a
  all_goals rw [a]
  all_goals go_enter Tryd.func25, Tryd.ntmps25
  all_goals go_wp2_with (go_at_call 24; refine (between_any _ _ _ _).mono ?_; rintro e w' ⟨rfl, rfl⟩)
  all_goals go_ret
  all_goals exact ⟨retBool (by simp), by go_grown⟩

theorem say5 (p n : Int) : partsB 5 p n = (hasB 2 9 p && (n == 0)) := by
  rw [Bool.eq_iff_iff]
  simp [partsB, hasB, tA, tB, tC, tD]
  try omega
set_option maxHeartbeats 1000000 in
theorem refParts5 (i p n : Int) (w : World) : Calls Tryd.prog 25 #[head 5 i p n] w fun e w' => e = .returned (.bool (partsB 5 p n)) ∧ Below w.heap.size w w' := by
  rw [say5]
  rcases Bool.eq_false_or_eq_true (hasB 2 9 p) with a | a
  all_goals rw [a]
  all_goals go_enter Tryd.func25, Tryd.ntmps25
  all_goals go_wp2_with (go_at_call 24; refine (between_any _ _ _ _).mono ?_; rintro e w' ⟨rfl, rfl⟩)
  all_goals go_ret
  all_goals exact ⟨retBool (by simp), by go_grown⟩

theorem say7 (p n : Int) : partsB 7 p n = ((p == 1) && (n == 1)) := by
  rw [Bool.eq_iff_iff]
  simp [partsB, hasB, tA, tB, tC, tD]
  try omega
set_option maxHeartbeats 1000000 in
theorem refParts7 (i p n : Int) (w : World) : Calls Tryd.prog 25 #[head 7 i p n] w fun e w' => e = .returned (.bool (partsB 7 p n)) ∧ Below w.heap.size w w' := by
  rw [say7]
  rcases Bool.eq_false_or_eq_true ((p == 1)) with a | a
  all_goals rw [a]
  all_goals go_enter Tryd.func25, Tryd.ntmps25
  all_goals go_wp2_with (go_at_call 24; refine (between_any _ _ _ _).mono ?_; rintro e w' ⟨rfl, rfl⟩)
  all_goals go_ret
  all_goals exact ⟨retBool (by simp), by go_grown⟩

theorem say8 (p n : Int) : partsB 8 p n = ((p == 1) && hasB 0 4094 n) := by
  rw [Bool.eq_iff_iff]
  simp [partsB, hasB, tA, tB, tC, tD]
  try omega
set_option maxHeartbeats 1000000 in
theorem refParts8 (i p n : Int) (w : World) : Calls Tryd.prog 25 #[head 8 i p n] w fun e w' => e = .returned (.bool (partsB 8 p n)) ∧ Below w.heap.size w w' := by
  rw [say8]
  rcases Bool.eq_false_or_eq_true ((p == 1)) with a | a
  all_goals rw [a]
  all_goals go_enter Tryd.func25, Tryd.ntmps25
  all_goals go_wp2_with (go_at_call 24; refine (between_any _ _ _ _).mono ?_; rintro e w' ⟨rfl, rfl⟩)
  all_goals go_ret
  all_goals exact ⟨retBool (by simp), by go_grown⟩

theorem say9 (p n : Int) : partsB 9 p n = ((p == 0) && hasB 1 4095 n) := by
  rw [Bool.eq_iff_iff]
  simp [partsB, hasB, tA, tB, tC, tD]
  try omega
set_option maxHeartbeats 1000000 in
theorem refParts9 (i p n : Int) (w : World) : Calls Tryd.prog 25 #[head 9 i p n] w fun e w' => e = .returned (.bool (partsB 9 p n)) ∧ Below w.heap.size w w' := by
  rw [say9]
  rcases Bool.eq_false_or_eq_true ((p == 0)) with a | a
  all_goals rw [a]
  all_goals go_enter Tryd.func25, Tryd.ntmps25
  all_goals go_wp2_with (go_at_call 24; refine (between_any _ _ _ _).mono ?_; rintro e w' ⟨rfl, rfl⟩)
  all_goals go_ret
  all_goals exact ⟨retBool (by simp), by go_grown⟩

theorem say10 (p n : Int) : partsB 10 p n = ((p == 1) && (n == 0)) := by
  rw [Bool.eq_iff_iff]
  simp [partsB, hasB, tA, tB, tC, tD]
  try omega
set_option maxHeartbeats 1000000 in
theorem refParts10 (i p n : Int) (w : World) : Calls Tryd.prog 25 #[head 10 i p n] w fun e w' => e = .returned (.bool (partsB 10 p n)) ∧ Below w.heap.size w w' := by
  rw [say10]
  rcases Bool.eq_false_or_eq_true ((p == 1)) with a | a
  all_goals rw [a]
  all_goals go_enter Tryd.func25, Tryd.ntmps25
  all_goals go_wp2_with (go_at_call 24; refine (between_any _ _ _ _).mono ?_; rintro e w' ⟨rfl, rfl⟩)
  all_goals go_ret
  all_goals exact ⟨retBool (by simp), by go_grown⟩

theorem say11 (p n : Int) : partsB 11 p n = (hasB 0 1024 p && (n == 0)) := by
  rw [Bool.eq_iff_iff]
  simp [partsB, hasB, tA, tB, tC, tD]
  try omega
set_option maxHeartbeats 1000000 in
theorem refParts11 (i p n : Int) (w : World) : Calls Tryd.prog 25 #[head 11 i p n] w fun e w' => e = .returned (.bool (partsB 11 p n)) ∧ Below w.heap.size w w' := by
  rw [say11]
  rcases Bool.eq_false_or_eq_true (hasB 0 1024 p) with a | a
  all_goals rw [a]
  all_goals go_enter Tryd.func25, Tryd.ntmps25
  all_goals go_wp2_with (go_at_call 24; refine (between_any _ _ _ _).mono ?_; rintro e w' ⟨rfl, rfl⟩)
  all_goals go_ret
  all_goals exact ⟨retBool (by simp), by go_grown⟩

theorem say12 (p n : Int) : partsB 12 p n = ((p == 0) && hasB 1 4095 n) := by
  rw [Bool.eq_iff_iff]
  simp [partsB, hasB, tA, tB, tC, tD]
  try omega
set_option maxHeartbeats 1000000 in
theorem refParts12 (i p n : Int) (w : World) : Calls Tryd.prog 25 #[head 12 i p n] w fun e w' => e = .returned (.bool (partsB 12 p n)) ∧ Below w.heap.size w w' := by
  rw [say12]
  rcases Bool.eq_false_or_eq_true ((p == 0)) with a | a
  all_goals rw [a]
  all_goals go_enter Tryd.func25, Tryd.ntmps25
  all_goals go_wp2_with (go_at_call 24; refine (between_any _ _ _ _).mono ?_; rintro e w' ⟨rfl, rfl⟩)
  all_goals go_ret
  all_goals exact ⟨retBool (by simp), by go_grown⟩

theorem say6 (p n : Int) : partsB 6 p n = (hasB 1 255 p && (n == 0) || (p == 0) && (n == 1)) := by
  rw [Bool.eq_iff_iff]
  by_cases p0 : p = 0
  · subst p0
    by_cases n1 : n = 1
    · subst n1
      decide
    · simp [partsB, hasB, tA, tB, tC, tD, n1]
  · by_cases n1 : n = 1
    · subst n1
      simp [partsB, hasB, tA, tB, tC, tD, p0]
    · have e1 : (p == 0) = false := by simp [p0]
      have e2 : (n == 1) = false := by simp [n1]
      simp only [partsB, e1, e2, hasB, tA, tB, tC, tD]
      simp
      omega
set_option maxHeartbeats 1000000 in
theorem refParts6 (i p n : Int) (w : World) : Calls Tryd.prog 25 #[head 6 i p n] w fun e w' => e = .returned (.bool (partsB 6 p n)) ∧ Below w.heap.size w w' := by
  rw [say6]
  rcases Bool.eq_false_or_eq_true (hasB 1 255 p) with a | a
  · have p0 : (p == 0) = false := by have := hasB_yes.1 a; simp; omega
    rcases Bool.eq_false_or_eq_true (n == 0) with b | b
    all_goals rw [a, b, p0]
    all_goals go_enter Tryd.func25, Tryd.ntmps25
    all_goals go_wp2_with (go_at_call 24; refine (between_any _ _ _ _).mono ?_; rintro e w' ⟨rfl, rfl⟩)
    all_goals go_ret
    all_goals exact ⟨retBool (by simp), by go_grown⟩
  · rcases Bool.eq_false_or_eq_true (p == 0) with b | b
    all_goals rw [a, b]
    all_goals go_enter Tryd.func25, Tryd.ntmps25
    all_goals go_wp2_with (go_at_call 24; refine (between_any _ _ _ _).mono ?_; rintro e w' ⟨rfl, rfl⟩)
    all_goals go_ret
    all_goals exact ⟨retBool (by simp), by go_grown⟩

theorem refParts_any (k i p n : Int) (w : World) (hk : kindB k = true) : Calls Tryd.prog 25 #[head k i p n] w fun e w' => e = .returned (.bool (partsB k.toNat p n)) ∧ Below w.heap.size w w' := by
  have c : k = 1 ∨ k = 2 ∨ k = 3 ∨ k = 4 ∨ k = 5 ∨ k = 6 ∨ k = 7 ∨ k = 8 ∨ k = 9 ∨ k = 10 ∨ k = 11 ∨ k = 12 := by have := kindB_yes.1 hk; omega
  rcases c with rfl | rfl | rfl | rfl | rfl | rfl | rfl | rfl | rfl | rfl | rfl | rfl
  · exact refParts1 i p n w
  · exact refParts2 i p n w
  · exact refParts3 i p n w
  · exact refParts4 i p n w
  · exact refParts5 i p n w
  · exact refParts6 i p n w
  · exact refParts7 i p n w
  · exact refParts8 i p n w
  · exact refParts9 i p n w
  · exact refParts10 i p n w
  · exact refParts11 i p n w
  · exact refParts12 i p n w


set_option maxHeartbeats 1000000 in
theorem refRight_kind (k i p n : Int) (w : World) (a : kindB k = false) : Calls Tryd.prog 10 #[head k i p n] w fun e w' => e = .returned (.int .i64 6) ∧ Below w.heap.size w w' := by
  have a' : hasB 1 12 k = false := a
  go_enter Tryd.func10, Tryd.ntmps10
  go_wp2_with (go_at_call 24; refine (between_any _ _ _ _).mono ?_; rintro e w' ⟨rfl, rfl⟩)
  go_ret
  exact ⟨rfl, by go_grown⟩
set_option maxHeartbeats 1000000 in
theorem refRight_size (k i p n : Int) (w : World) (a : kindB k = true) (b : partsB k.toNat p n = false) : Calls Tryd.prog 10 #[head k i p n] w fun e w' => e = .returned (.int .i64 7) ∧ Below w.heap.size w w' := by
  have a' : hasB 1 12 k = true := a
  have S := fun w => refParts_any k i p n w a
  simp only [b] at S
  clear a b
  go_enter Tryd.func10, Tryd.ntmps10
  go_wp2_with (first
    | (go_at_call 24; refine (between_any _ _ _ _).mono ?_; rintro e w' ⟨rfl, rfl⟩)
    | (go_at_call 25; refine (S _).mono ?_; rintro e w1 ⟨rfl, B1⟩))
  go_ret
  exact ⟨rfl, far1 B1⟩

set_option maxHeartbeats 1000000 in
theorem refRight_y1 (i p n : Int) (w : World) (a : kindB 1 = true) (b : partsB (1 : Int).toNat p n = true) (c : hasB 0 1048575 i = true) : Calls Tryd.prog 10 #[head 1 i p n] w fun e w' => e = .returned (.int .i64 0) ∧ Below w.heap.size w w' := by
  have a' : hasB 1 12 1 = true := a
  have H : HeadAt (w.alloc (Obj.cells #[Value.int IntKind.i64 1, Value.int IntKind.i64 i, Value.int IntKind.i64 p, Value.int IntKind.i64 n] 23)) w.heap.size 1 i p n := HeadAt.fresh w 1 i p n
  have S := fun w => refParts_any 1 i p n w a
  simp only [b] at S
  clear a b
  go_enter Tryd.func10, Tryd.ntmps10
  go_wp2_with (first
    | (go_at_call 24; refine (between_any _ _ _ _).mono ?_; rintro e w' ⟨rfl, rfl⟩)
    | (go_at_call 25; refine (S _).mono ?_; rintro e w1 ⟨rfl, B1⟩; have H1 := H.later B1; obtain ⟨x0, x1, x2, x3⟩ := H1))
  go_ret
  exact ⟨rfl, far1 B1⟩

set_option maxHeartbeats 1000000 in
theorem refRight_n1 (i p n : Int) (w : World) (a : kindB 1 = true) (b : partsB (1 : Int).toNat p n = true) (c : hasB 0 1048575 i = false) : Calls Tryd.prog 10 #[head 1 i p n] w fun e w' => e = .returned (.int .i64 2) ∧ Below w.heap.size w w' := by
  have a' : hasB 1 12 1 = true := a
  have H : HeadAt (w.alloc (Obj.cells #[Value.int IntKind.i64 1, Value.int IntKind.i64 i, Value.int IntKind.i64 p, Value.int IntKind.i64 n] 23)) w.heap.size 1 i p n := HeadAt.fresh w 1 i p n
  have S := fun w => refParts_any 1 i p n w a
  simp only [b] at S
  clear a b
  go_enter Tryd.func10, Tryd.ntmps10
  go_wp2_with (first
    | (go_at_call 24; refine (between_any _ _ _ _).mono ?_; rintro e w' ⟨rfl, rfl⟩)
    | (go_at_call 25; refine (S _).mono ?_; rintro e w1 ⟨rfl, B1⟩; have H1 := H.later B1; obtain ⟨x0, x1, x2, x3⟩ := H1))
  go_ret
  exact ⟨rfl, far1 B1⟩

set_option maxHeartbeats 1000000 in
theorem refRight_y3 (i p n : Int) (w : World) (a : kindB 3 = true) (b : partsB (3 : Int).toNat p n = true) (c : hasB 0 1048575 i = true) : Calls Tryd.prog 10 #[head 3 i p n] w fun e w' => e = .returned (.int .i64 0) ∧ Below w.heap.size w w' := by
  have a' : hasB 1 12 3 = true := a
  have H : HeadAt (w.alloc (Obj.cells #[Value.int IntKind.i64 3, Value.int IntKind.i64 i, Value.int IntKind.i64 p, Value.int IntKind.i64 n] 23)) w.heap.size 3 i p n := HeadAt.fresh w 3 i p n
  have S := fun w => refParts_any 3 i p n w a
  simp only [b] at S
  clear a b
  go_enter Tryd.func10, Tryd.ntmps10
  go_wp2_with (first
    | (go_at_call 24; refine (between_any _ _ _ _).mono ?_; rintro e w' ⟨rfl, rfl⟩)
    | (go_at_call 25; refine (S _).mono ?_; rintro e w1 ⟨rfl, B1⟩; have H1 := H.later B1; obtain ⟨x0, x1, x2, x3⟩ := H1))
  go_ret
  exact ⟨rfl, far1 B1⟩

set_option maxHeartbeats 1000000 in
theorem refRight_n3 (i p n : Int) (w : World) (a : kindB 3 = true) (b : partsB (3 : Int).toNat p n = true) (c : hasB 0 1048575 i = false) : Calls Tryd.prog 10 #[head 3 i p n] w fun e w' => e = .returned (.int .i64 2) ∧ Below w.heap.size w w' := by
  have a' : hasB 1 12 3 = true := a
  have H : HeadAt (w.alloc (Obj.cells #[Value.int IntKind.i64 3, Value.int IntKind.i64 i, Value.int IntKind.i64 p, Value.int IntKind.i64 n] 23)) w.heap.size 3 i p n := HeadAt.fresh w 3 i p n
  have S := fun w => refParts_any 3 i p n w a
  simp only [b] at S
  clear a b
  go_enter Tryd.func10, Tryd.ntmps10
  go_wp2_with (first
    | (go_at_call 24; refine (between_any _ _ _ _).mono ?_; rintro e w' ⟨rfl, rfl⟩)
    | (go_at_call 25; refine (S _).mono ?_; rintro e w1 ⟨rfl, B1⟩; have H1 := H.later B1; obtain ⟨x0, x1, x2, x3⟩ := H1))
  go_ret
  exact ⟨rfl, far1 B1⟩

set_option maxHeartbeats 1000000 in
theorem refRight_y6 (i p n : Int) (w : World) (a : kindB 6 = true) (b : partsB (6 : Int).toNat p n = true) (c : hasB 0 1048575 i = true) : Calls Tryd.prog 10 #[head 6 i p n] w fun e w' => e = .returned (.int .i64 0) ∧ Below w.heap.size w w' := by
  have a' : hasB 1 12 6 = true := a
  have H : HeadAt (w.alloc (Obj.cells #[Value.int IntKind.i64 6, Value.int IntKind.i64 i, Value.int IntKind.i64 p, Value.int IntKind.i64 n] 23)) w.heap.size 6 i p n := HeadAt.fresh w 6 i p n
  have S := fun w => refParts_any 6 i p n w a
  simp only [b] at S
  clear a b
  go_enter Tryd.func10, Tryd.ntmps10
  go_wp2_with (first
    | (go_at_call 24; refine (between_any _ _ _ _).mono ?_; rintro e w' ⟨rfl, rfl⟩)
    | (go_at_call 25; refine (S _).mono ?_; rintro e w1 ⟨rfl, B1⟩; have H1 := H.later B1; obtain ⟨x0, x1, x2, x3⟩ := H1))
  go_ret
  exact ⟨rfl, far1 B1⟩

set_option maxHeartbeats 1000000 in
theorem refRight_n6 (i p n : Int) (w : World) (a : kindB 6 = true) (b : partsB (6 : Int).toNat p n = true) (c : hasB 0 1048575 i = false) : Calls Tryd.prog 10 #[head 6 i p n] w fun e w' => e = .returned (.int .i64 2) ∧ Below w.heap.size w w' := by
  have a' : hasB 1 12 6 = true := a
  have H : HeadAt (w.alloc (Obj.cells #[Value.int IntKind.i64 6, Value.int IntKind.i64 i, Value.int IntKind.i64 p, Value.int IntKind.i64 n] 23)) w.heap.size 6 i p n := HeadAt.fresh w 6 i p n
  have S := fun w => refParts_any 6 i p n w a
  simp only [b] at S
  clear a b
  go_enter Tryd.func10, Tryd.ntmps10
  go_wp2_with (first
    | (go_at_call 24; refine (between_any _ _ _ _).mono ?_; rintro e w' ⟨rfl, rfl⟩)
    | (go_at_call 25; refine (S _).mono ?_; rintro e w1 ⟨rfl, B1⟩; have H1 := H.later B1; obtain ⟨x0, x1, x2, x3⟩ := H1))
  go_ret
  exact ⟨rfl, far1 B1⟩

set_option maxHeartbeats 1000000 in
theorem refRight_y7 (i p n : Int) (w : World) (a : kindB 7 = true) (b : partsB (7 : Int).toNat p n = true) (c : hasB 0 1048575 i = true) : Calls Tryd.prog 10 #[head 7 i p n] w fun e w' => e = .returned (.int .i64 0) ∧ Below w.heap.size w w' := by
  have a' : hasB 1 12 7 = true := a
  have H : HeadAt (w.alloc (Obj.cells #[Value.int IntKind.i64 7, Value.int IntKind.i64 i, Value.int IntKind.i64 p, Value.int IntKind.i64 n] 23)) w.heap.size 7 i p n := HeadAt.fresh w 7 i p n
  have S := fun w => refParts_any 7 i p n w a
  simp only [b] at S
  clear a b
  go_enter Tryd.func10, Tryd.ntmps10
  go_wp2_with (first
    | (go_at_call 24; refine (between_any _ _ _ _).mono ?_; rintro e w' ⟨rfl, rfl⟩)
    | (go_at_call 25; refine (S _).mono ?_; rintro e w1 ⟨rfl, B1⟩; have H1 := H.later B1; obtain ⟨x0, x1, x2, x3⟩ := H1))
  go_ret
  exact ⟨rfl, far1 B1⟩

set_option maxHeartbeats 1000000 in
theorem refRight_n7 (i p n : Int) (w : World) (a : kindB 7 = true) (b : partsB (7 : Int).toNat p n = true) (c : hasB 0 1048575 i = false) : Calls Tryd.prog 10 #[head 7 i p n] w fun e w' => e = .returned (.int .i64 2) ∧ Below w.heap.size w w' := by
  have a' : hasB 1 12 7 = true := a
  have H : HeadAt (w.alloc (Obj.cells #[Value.int IntKind.i64 7, Value.int IntKind.i64 i, Value.int IntKind.i64 p, Value.int IntKind.i64 n] 23)) w.heap.size 7 i p n := HeadAt.fresh w 7 i p n
  have S := fun w => refParts_any 7 i p n w a
  simp only [b] at S
  clear a b
  go_enter Tryd.func10, Tryd.ntmps10
  go_wp2_with (first
    | (go_at_call 24; refine (between_any _ _ _ _).mono ?_; rintro e w' ⟨rfl, rfl⟩)
    | (go_at_call 25; refine (S _).mono ?_; rintro e w1 ⟨rfl, B1⟩; have H1 := H.later B1; obtain ⟨x0, x1, x2, x3⟩ := H1))
  go_ret
  exact ⟨rfl, far1 B1⟩

set_option maxHeartbeats 1000000 in
theorem refRight_u1 (k i p n : Int) (w : World) (a : kindB k = true) (b : partsB (k : Int).toNat p n = true) (k1 : (k == 1) = false) (k3 : (k == 3) = false) (k6 : (k == 6) = false) (k7 : (k == 7) = false) (c : hasB 0 1048575 i = false) : Calls Tryd.prog 10 #[head k i p n] w fun e w' => e = .returned (.int .i64 2) ∧ Below w.heap.size w w' := by
  have a' : hasB 1 12 k = true := a
  have H : HeadAt (w.alloc (Obj.cells #[Value.int IntKind.i64 k, Value.int IntKind.i64 i, Value.int IntKind.i64 p, Value.int IntKind.i64 n] 23)) w.heap.size k i p n := HeadAt.fresh w k i p n
  have S := fun w => refParts_any k i p n w a
  simp only [b] at S
  clear a b
  go_enter Tryd.func10, Tryd.ntmps10
  go_wp2_with (first
    | (go_at_call 24; refine (between_any _ _ _ _).mono ?_; rintro e w' ⟨rfl, rfl⟩)
    | (go_at_call 25; refine (S _).mono ?_; rintro e w1 ⟨rfl, B1⟩; have H1 := H.later B1; obtain ⟨x0, x1, x2, x3⟩ := H1))
  go_ret
  exact ⟨rfl, far1 B1⟩

set_option maxHeartbeats 1000000 in
theorem refRight_u2 (k i p n : Int) (w : World) (a : kindB k = true) (b : partsB (k : Int).toNat p n = true) (k1 : (k == 1) = false) (k3 : (k == 3) = false) (k6 : (k == 6) = false) (k7 : (k == 7) = false) (c : hasB 0 1048575 i = true) (d : (i != 0) = true) : Calls Tryd.prog 10 #[head k i p n] w fun e w' => e = .returned (.int .i64 2) ∧ Below w.heap.size w w' := by
  have a' : hasB 1 12 k = true := a
  have H : HeadAt (w.alloc (Obj.cells #[Value.int IntKind.i64 k, Value.int IntKind.i64 i, Value.int IntKind.i64 p, Value.int IntKind.i64 n] 23)) w.heap.size k i p n := HeadAt.fresh w k i p n
  have S := fun w => refParts_any k i p n w a
  simp only [b] at S
  clear a b
  go_enter Tryd.func10, Tryd.ntmps10
  go_wp2_with (first
    | (go_at_call 24; refine (between_any _ _ _ _).mono ?_; rintro e w' ⟨rfl, rfl⟩)
    | (go_at_call 25; refine (S _).mono ?_; rintro e w1 ⟨rfl, B1⟩; have H1 := H.later B1; obtain ⟨x0, x1, x2, x3⟩ := H1))
  go_ret
  exact ⟨rfl, far1 B1⟩

set_option maxHeartbeats 1000000 in
theorem refRight_u3 (k i p n : Int) (w : World) (a : kindB k = true) (b : partsB (k : Int).toNat p n = true) (k1 : (k == 1) = false) (k3 : (k == 3) = false) (k6 : (k == 6) = false) (k7 : (k == 7) = false) (c : hasB 0 1048575 i = true) (d : (i != 0) = false) : Calls Tryd.prog 10 #[head k i p n] w fun e w' => e = .returned (.int .i64 0) ∧ Below w.heap.size w w' := by
  have a' : hasB 1 12 k = true := a
  have H : HeadAt (w.alloc (Obj.cells #[Value.int IntKind.i64 k, Value.int IntKind.i64 i, Value.int IntKind.i64 p, Value.int IntKind.i64 n] 23)) w.heap.size k i p n := HeadAt.fresh w k i p n
  have S := fun w => refParts_any k i p n w a
  simp only [b] at S
  clear a b
  go_enter Tryd.func10, Tryd.ntmps10
  go_wp2_with (first
    | (go_at_call 24; refine (between_any _ _ _ _).mono ?_; rintro e w' ⟨rfl, rfl⟩)
    | (go_at_call 25; refine (S _).mono ?_; rintro e w1 ⟨rfl, B1⟩; have H1 := H.later B1; obtain ⟨x0, x1, x2, x3⟩ := H1))
  go_ret
  exact ⟨rfl, far1 B1⟩

theorem infoB_named {k i : Int} (h : k = 1 ∨ k = 3 ∨ k = 6 ∨ k = 7) : infoB k.toNat i = hasB 0 1048575 i := by
  rw [Bool.eq_iff_iff]
  rcases h with rfl | rfl | rfl | rfl <;> simp [infoB, tI, hasB] <;> omega
theorem tI_no {k : Nat} (h1 : k ≠ 1) (h3 : k ≠ 3) (h6 : k ≠ 6) (h7 : k ≠ 7) : tI k = false := by
  unfold tI
  split <;> first | rfl | omega
theorem infoB_plain {k i : Int} (hk : 1 ≤ k) (h : ¬ (k = 1 ∨ k = 3 ∨ k = 6 ∨ k = 7)) : infoB k.toNat i = decide (i = 0) := by
  simp only [infoB, tI_no (k := k.toNat) (by omega) (by omega) (by omega) (by omega)]
  simp
theorem refRight_any (k i p n : Int) (w : World) : Calls Tryd.prog 10 #[head k i p n] w fun e w' => e = .returned (.int .i64 (rightE k i p n)) ∧ Below w.heap.size w w' := by
  rcases Bool.eq_false_or_eq_true (kindB k) with a | a
  · have hk := kindB_yes.1 a
    rcases Bool.eq_false_or_eq_true (partsB k.toNat p n) with b | b
    · by_cases nm : k = 1 ∨ k = 3 ∨ k = 6 ∨ k = 7
      · have I := infoB_named (i := i) nm
        rcases Bool.eq_false_or_eq_true (hasB 0 1048575 i) with c | c
        · rw [c] at I
          rw [show rightE k i p n = 0 by simp [rightE, a, b, I]]
          rcases nm with rfl | rfl | rfl | rfl
          · exact refRight_y1 i p n w a b c
          · exact refRight_y3 i p n w a b c
          · exact refRight_y6 i p n w a b c
          · exact refRight_y7 i p n w a b c
        · rw [c] at I
          rw [show rightE k i p n = 2 by simp [rightE, a, b, I]]
          rcases nm with rfl | rfl | rfl | rfl
          · exact refRight_n1 i p n w a b c
          · exact refRight_n3 i p n w a b c
          · exact refRight_n6 i p n w a b c
          · exact refRight_n7 i p n w a b c
      · have I := infoB_plain (i := i) hk.1 nm
        have k1 : (k == 1) = false := by simp; omega
        have k3 : (k == 3) = false := by simp; omega
        have k6 : (k == 6) = false := by simp; omega
        have k7 : (k == 7) = false := by simp; omega
        rcases Bool.eq_false_or_eq_true (hasB 0 1048575 i) with c | c
        · by_cases d : i = 0
          · have I0 : infoB k.toNat i = true := by rw [I]; simp [d]
            rw [show rightE k i p n = 0 by simp [rightE, a, b, I0]]
            exact refRight_u3 k i p n w a b k1 k3 k6 k7 c (by simp [d])
          · rw [show rightE k i p n = 2 by simp [rightE, a, b, I, d]]
            exact refRight_u2 k i p n w a b k1 k3 k6 k7 c (by simp [d])
        · have d : i ≠ 0 := by have := hasB_no.1 c; omega
          rw [show rightE k i p n = 2 by simp [rightE, a, b, I, d]]
          exact refRight_u1 k i p n w a b k1 k3 k6 k7 c
    · rw [show rightE k i p n = 7 by simp [rightE, a, b]]
      exact refRight_size k i p n w a b
  · rw [show rightE k i p n = 6 by simp [rightE, a]]
    exact refRight_kind k i p n w a

set_option maxHeartbeats 1000000 in
theorem refSize_any (k i p n : Int) (w : World) :
    Calls Tryd.prog 12 #[head k i p n] w fun e w' => e = .returned (.int .i64 (sizeN k i p n)) ∧ Below w.heap.size w w' := by
  have H : HeadAt (w.alloc (Obj.cells #[Value.int IntKind.i64 k, Value.int IntKind.i64 i, Value.int IntKind.i64 p, Value.int IntKind.i64 n] 23)) w.heap.size k i p n := HeadAt.fresh w k i p n
  have S := fun w => refRight_any k i p n w
  by_cases a : rightE k i p n = 0
  · have sm := right_small a
    have a' : (rightE k i p n != 0) = false := by simp [a]
    rw [show sizeN k i p n = 1 + p + n by simp [sizeN, a]]
    obtain ⟨e0, he⟩ : ∃ x, rightE k i p n = x := ⟨_, rfl⟩
    simp only [he] at S a'
    clear a he
    go_enter Tryd.func12, Tryd.ntmps12
    go_wp2_with (go_at_call 10; refine (S _).mono ?_; rintro e w1 ⟨rfl, B1⟩; have H1 := H.later B1; obtain ⟨x0, x1, x2, x3⟩ := H1)
    go_ret
    exact ⟨rfl, far1 B1⟩
  · have a' : (rightE k i p n != 0) = true := by simp [a]
    rw [show sizeN k i p n = 0 by simp [sizeN, a]]
    obtain ⟨e0, he⟩ : ∃ x, rightE k i p n = x := ⟨_, rfl⟩
    simp only [he] at S a'
    clear a he
    go_enter Tryd.func12, Tryd.ntmps12
    go_wp2_with (go_at_call 10; refine (S _).mono ?_; rintro e w1 ⟨rfl, B1⟩)
    go_ret
    exact ⟨rfl, far1 B1⟩
end Go.Proofs.YtdiibckplkkkkaaDoor
