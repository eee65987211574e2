/- The contracts of Right and Size, for whatever header, in a world that holds the table. -/
import Derived.Test.YtbdoekffadmejaaGreatDoorSTable
namespace Go.Proofs.YtbdoekffadmejaaGreatDoor.Sh
open Go.RowKit

/-- The spans of the table are small. -/
theorem span_p {k : Nat} {p : Int} (hk : k < 13) (h : hasB (tA k) (tB k) p = true) : 0 ≤ p ∧ p ≤ 4095 := by
  have h := hasB_yes.1 h
  revert h
  match k, hk with
  | 0, _ | 1, _ | 2, _ | 3, _ | 4, _ | 5, _ | 6, _ | 7, _ | 8, _ | 9, _ | 10, _ | 11, _ | 12, _ => simp only [tA, tB]; omega
theorem span_n {k : Nat} {n : Int} (hk : k < 13) (h : hasB (tC k) (tD k) n = true) : 0 ≤ n ∧ n ≤ 4095 := by
  have h := hasB_yes.1 h
  revert h
  match k, hk with
  | 0, _ | 1, _ | 2, _ | 3, _ | 4, _ | 5, _ | 6, _ | 7, _ | 8, _ | 9, _ | 10, _ | 11, _ | 12, _ => simp only [tC, tD]; omega

theorem parts_any (k : Nat) (i p n : Int) (w : World) (h : Table w) (hk : k < 13) :
    Calls Tryz.prog 161 #[head k i p n] w fun e w' => e = .returned (.bool (partsB k p n)) ∧ Below w.heap.size w w' := by
  rcases Bool.eq_false_or_eq_true (hasB (tA k) (tB k) p) with a | a
  · rcases Bool.eq_false_or_eq_true (hasB (tC k) (tD k) n) with b | b
    · have hp := span_p hk a
      have hn := span_n hk b
      by_cases k6 : k = 6
      · subst k6
        rcases Bool.eq_false_or_eq_true (!((p == 0) == (n == 1))) with c | c
        · rw [show partsB 6 p n = false by simp only [partsB, a, b, c]; simp]
          exact parts_no3 i p n w h a b c
        · rw [show partsB 6 p n = decide (p + n ≤ 4095) by simp only [partsB, a, b, c]; simp]
          exact parts_yes6 i p n w h a b c hp hn
      · rw [show partsB k p n = decide (p + n ≤ 4095) by simp [partsB, a, b, k6]]
        exact parts_yes k i p n w h hk (by simp; omega) a b hp hn
    · rw [show partsB k p n = false by simp [partsB, b]]
      exact parts_no2 k i p n w h hk a b
  · rw [show partsB k p n = false by simp [partsB, a]]
    exact parts_no1 k i p n w h hk a

def infoB (k : Nat) (i : Int) : Bool := if tI k = true then decide (0 ≤ i ∧ i < 1048576) else decide (i = 0)
set_option maxHeartbeats 1000000 in
theorem info_any (k : Nat) (i p n : Int) (w : World) (h : Table w) (hk : k < 13) :
    Calls Tryz.prog 162 #[head k i p n] w fun e w' => e = .returned (.bool (infoB k i)) ∧ Below w.heap.size w w' := by
  have hs : Table (w.alloc (Obj.cells #[Value.int IntKind.i64 k, Value.int IntKind.i64 i, Value.int IntKind.i64 p, Value.int IntKind.i64 n] 30)) := h.later (by go_grown)
  have z0 := hs.i k hk
  rcases Bool.eq_false_or_eq_true (tI k) with a | a
  · by_cases b : 0 ≤ i
    · by_cases c : i < 1048576
      · rw [show infoB k i = true by simp [infoB, a, b, c]]
        rw [a] at z0
        go_enter Tryz.func162, Tryz.ntmps162
        go_wp2
        go_ret
        exact ⟨rfl, by go_grown⟩
      · rw [show infoB k i = false by simp [infoB, a, c]]
        rw [a] at z0
        go_enter Tryz.func162, Tryz.ntmps162
        go_wp2
        go_ret
        exact ⟨rfl, by go_grown⟩
    · rw [show infoB k i = false by simp [infoB, a, b]]
      rw [a] at z0
      go_enter Tryz.func162, Tryz.ntmps162
      go_wp2
      go_ret
      exact ⟨rfl, by go_grown⟩
  · by_cases b : i = 0
    · subst b
      rw [show infoB k 0 = true by simp [infoB, a]]
      rw [a] at z0
      go_enter Tryz.func162, Tryz.ntmps162
      go_wp2
      go_ret
      exact ⟨rfl, by go_grown⟩
    · rw [show infoB k i = false by simp [infoB, a, b]]
      rw [a] at z0
      go_enter Tryz.func162, Tryz.ntmps162
      go_wp2
      go_ret
      exact ⟨retBool (by simp [b]), by go_grown⟩

/-- What Right answers. -/
def rightE (k i p n : Int) : Int := if kindB k = false then 6 else if partsB k.toNat p n = false then 7 else if infoB k.toNat i = false then 2 else 0
theorem far1 {w w1 : World} {o : Obj} (B : Below (w.alloc o).heap.size (w.alloc o) w1) : Below w.heap.size w w1 :=
  (show Below w.heap.size w (w.alloc o) by go_grown).trans (B.mono (by simp))

set_option maxHeartbeats 1000000 in
theorem right_any (k i p n : Int) (w : World) (h : Table w) :
    Calls Tryz.prog 117 #[head k i p n] w fun e w' => e = .returned (.int .i64 (rightE k i p n)) ∧ Below w.heap.size w w' := by
  rcases Bool.eq_false_or_eq_true (kindB k) with a | a
  · obtain ⟨m, rfl⟩ : ∃ m : Nat, k = m := ⟨k.toNat, by have := kindB_yes.1 a; omega⟩
    have hm : m < 13 := by have := kindB_yes.1 a; omega
    have hs : Table (w.alloc (Obj.cells #[Value.int IntKind.i64 m, Value.int IntKind.i64 i, Value.int IntKind.i64 p, Value.int IntKind.i64 n] 30)) := h.later (by go_grown)
    have H : HeadAt (w.alloc (Obj.cells #[Value.int IntKind.i64 m, Value.int IntKind.i64 i, Value.int IntKind.i64 p, Value.int IntKind.i64 n] 30)) w.heap.size m i p n := HeadAt.fresh w m i p n
    rcases Bool.eq_false_or_eq_true (partsB m p n) with b | b
    · rcases Bool.eq_false_or_eq_true (infoB m i) with c | c
      · rw [show rightE m i p n = 0 by simp [rightE, a, b, c]]
        go_enter Tryz.func117, Tryz.ntmps117
        go_wp2_with (first
          | (go_at_call 160; refine (kind_any _ _).mono ?_; rintro e w' ⟨rfl, rfl⟩)
          | (go_at_call 161; refine (parts_any m i p n _ hs hm).mono ?_; rintro e w1 ⟨rfl, B1⟩; have H1 := H.later B1; obtain ⟨x0, x1, x2, x3⟩ := H1)
          | (go_at_call 162; refine (info_any m i p n _ (hs.later B1) hm).mono ?_; rintro e w2 ⟨rfl, B2⟩))
        go_ret
        exact ⟨rfl, (far1 B1).trans (B2.mono (far1 B1).size)⟩
      · rw [show rightE m i p n = 2 by simp [rightE, a, b, c]]
        go_enter Tryz.func117, Tryz.ntmps117
        go_wp2_with (first
          | (go_at_call 160; refine (kind_any _ _).mono ?_; rintro e w' ⟨rfl, rfl⟩)
          | (go_at_call 161; refine (parts_any m i p n _ hs hm).mono ?_; rintro e w1 ⟨rfl, B1⟩; have H1 := H.later B1; obtain ⟨x0, x1, x2, x3⟩ := H1)
          | (go_at_call 162; refine (info_any m i p n _ (hs.later B1) hm).mono ?_; rintro e w2 ⟨rfl, B2⟩))
        go_ret
        exact ⟨rfl, (far1 B1).trans (B2.mono (far1 B1).size)⟩
    · rw [show rightE m i p n = 7 by simp [rightE, a, b]]
      go_enter Tryz.func117, Tryz.ntmps117
      go_wp2_with (first
        | (go_at_call 160; refine (kind_any _ _).mono ?_; rintro e w' ⟨rfl, rfl⟩)
        | (go_at_call 161; refine (parts_any m i p n _ hs hm).mono ?_; rintro e w1 ⟨rfl, B1⟩))
      go_ret
      exact ⟨rfl, far1 B1⟩
  · rw [show rightE k i p n = 6 by simp [rightE, a]]
    go_enter Tryz.func117, Tryz.ntmps117
    go_wp2_with (go_at_call 160; refine (kind_any _ _).mono ?_; rintro e w' ⟨rfl, rfl⟩)
    go_ret
    exact ⟨rfl, by go_grown⟩

/-- A right header's parts are few. -/
theorem right_small {k i p n : Int} (h : rightE k i p n = 0) : 1 ≤ k ∧ k ≤ 12 ∧ 0 ≤ p ∧ p ≤ 4095 ∧ 0 ≤ n ∧ n ≤ 4095 ∧ p + n ≤ 4095 := by
  unfold rightE at h
  rcases Bool.eq_false_or_eq_true (kindB k) with a | a
  · rcases Bool.eq_false_or_eq_true (partsB k.toNat p n) with b | b
    · have ha := kindB_yes.1 a
      simp only [partsB, Bool.and_eq_true, decide_eq_true_eq] at b
      have := span_p (by omega : k.toNat < 13) b.1.1.1
      have := span_n (by omega : k.toNat < 13) b.1.1.2
      omega
    · simp [a, b] at h
  · simp [a] at h

/-- What Size answers. -/
def sizeN (k i p n : Int) : Int := if rightE k i p n = 0 then 1 + p + n else 0
set_option maxHeartbeats 1000000 in
theorem size_any (k i p n : Int) (w : World) (h : Table w) :
    Calls Tryz.prog 61 #[head k i p n] w fun e w' => e = .returned (.int .i64 (sizeN k i p n)) ∧ Below w.heap.size w w' := by
  have hs : Table (w.alloc (Obj.cells #[Value.int IntKind.i64 k, Value.int IntKind.i64 i, Value.int IntKind.i64 p, Value.int IntKind.i64 n] 30)) := h.later (by go_grown)
  have H : HeadAt (w.alloc (Obj.cells #[Value.int IntKind.i64 k, Value.int IntKind.i64 i, Value.int IntKind.i64 p, Value.int IntKind.i64 n] 30)) w.heap.size k i p n := HeadAt.fresh w k i p n
  by_cases a : rightE k i p n = 0
  · have sm := right_small a
    have a' : (rightE k i p n != 0) = false := by simp [a]
    rw [show sizeN k i p n = 1 + p + n by simp [sizeN, a]]
    have S := right_any k i p n _ hs
    obtain ⟨e0, he⟩ : ∃ x, rightE k i p n = x := ⟨_, rfl⟩
    rw [he] at S a'
    clear a he
    go_enter Tryz.func61, Tryz.ntmps61
    go_wp2_with (go_at_call 117; refine S.mono ?_; rintro e w1 ⟨rfl, B1⟩; have H1 := H.later B1; obtain ⟨x0, x1, x2, x3⟩ := H1)
    go_ret
    exact ⟨rfl, far1 B1⟩
  · have a' : (rightE k i p n != 0) = true := by simp [a]
    rw [show sizeN k i p n = 0 by simp [sizeN, a]]
    have S := right_any k i p n _ hs
    obtain ⟨e0, he⟩ : ∃ x, rightE k i p n = x := ⟨_, rfl⟩
    rw [he] at S a'
    clear a he
    go_enter Tryz.func61, Tryz.ntmps61
    go_wp2_with (go_at_call 117; refine S.mono ?_; rintro e w1 ⟨rfl, B1⟩)
    go_ret
    exact ⟨rfl, far1 B1⟩
end Go.Proofs.YtbdoekffadmejaaGreatDoor.Sh
