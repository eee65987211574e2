/- The document's primitives: names and how many arguments. -/
import Derived.Test.YtcbdolflgpmaoaaDoorScg
namespace Go.Proofs.YtcbdolflgpmaoaaDoor
open Go.RowKit
set_option linter.unusedVariables false


def tN : Nat → List UInt8 | 1 => [35, 97, 100, 100] | 2 => [35, 115, 117, 98] | 3 => [35, 109, 117, 108] | 4 => [35, 100, 105, 118] | 5 => [35, 114, 101, 109] | 6 => [35, 101, 113] | 7 => [35, 108, 116] | 8 => [35, 101, 109, 105, 116] | 9 => [35, 115, 101, 113] | 10 => [35, 114, 101, 102] | 11 => [35, 103, 101, 116] | 12 => [35, 115, 101, 116] | 13 => [35, 97, 114, 114] | 14 => [35, 97, 116] | 15 => [35, 112, 117, 116] | 16 => [35, 108, 101, 110] | _ => []
def tA : Nat → Int | 1 => 2 | 2 => 2 | 3 => 2 | 4 => 2 | 5 => 2 | 6 => 2 | 7 => 2 | 8 => 1 | 9 => 2 | 10 => 1 | 11 => 1 | 12 => 2 | 13 => 2 | 14 => 2 | 15 => 3 | 16 => 1 | _ => 0
def tB : Nat → Int | 1 => 2 | 2 => 2 | 3 => 2 | 4 => 2 | 5 => 2 | 6 => 2 | 7 => 2 | 8 => 2 | 9 => 1 | 11 => 3 | 12 => 3 | 13 => 2 | 14 => 4 | 15 => 4 | 16 => 4 | _ => 0
def tC : Nat → Int | 1 => 2 | 2 => 2 | 3 => 2 | 4 => 2 | 5 => 2 | 6 => 2 | 7 => 2 | 14 => 2 | 15 => 2 | _ => 0

/-- the row of a number: its own, or that of none -/
def rowN (n : Int) : Nat := if 0 ≤ n ∧ n ≤ 16 then n.toNat else 0
theorem rowN_in {k : Nat} (h : k < 17) : rowN k = k := by unfold rowN; rw [if_pos (by omega)]; omega
theorem rowN_out {n : Int} (h : ¬ (0 ≤ n ∧ n ≤ 16)) : rowN n = 0 := if_neg h
theorem rowN_lt (n : Int) : rowN n < 17 := by unfold rowN; split <;> omega
theorem split17 {P : Int → Prop} (n : Int) (hin : ∀ k : Nat, k < 17 → P k) (hout : ¬ (0 ≤ n ∧ n ≤ 16) → P n) : P n := by
  by_cases h : 0 ≤ n ∧ n ≤ 16
  · have := hin n.toNat (by omega)
    rwa [Int.toNat_of_nonneg h.1] at this
  · exact hout h
def needI (k : Nat) (i : Int) : Int := if i = 0 then tB k else if i = 1 then tC k else 0

set_option maxHeartbeats 1000000 in
theorem refName_in (k : Nat) (hk : k < 17) (w : World) : Calls Tryd.prog 67 #[.int .i64 k] w fun e w' => e = .returned (.string (str (tN k))) ∧ w' = w := by
  have c : k = 0 ∨ k = 1 ∨ k = 2 ∨ k = 3 ∨ k = 4 ∨ k = 5 ∨ k = 6 ∨ k = 7 ∨ k = 8 ∨ k = 9 ∨ k = 10 ∨ k = 11 ∨ k = 12 ∨ k = 13 ∨ k = 14 ∨ k = 15 ∨ k = 16 := by omega
  rcases c with rfl | rfl | rfl | rfl | rfl | rfl | rfl | rfl | rfl | rfl | rfl | rfl | rfl | rfl | rfl | rfl | rfl
  · go_enter Tryd.func67, Tryd.ntmps67
    go_wp2
    go_ret
    exact ⟨rfl, rfl⟩
  · go_enter Tryd.func67, Tryd.ntmps67
    go_wp2
    go_ret
    exact ⟨rfl, rfl⟩
  · go_enter Tryd.func67, Tryd.ntmps67
    go_wp2
    go_ret
    exact ⟨rfl, rfl⟩
  · go_enter Tryd.func67, Tryd.ntmps67
    go_wp2
    go_ret
    exact ⟨rfl, rfl⟩
  · go_enter Tryd.func67, Tryd.ntmps67
    go_wp2
    go_ret
    exact ⟨rfl, rfl⟩
  · go_enter Tryd.func67, Tryd.ntmps67
    go_wp2
    go_ret
    exact ⟨rfl, rfl⟩
  · go_enter Tryd.func67, Tryd.ntmps67
    go_wp2
    go_ret
    exact ⟨rfl, rfl⟩
  · go_enter Tryd.func67, Tryd.ntmps67
    go_wp2
    go_ret
    exact ⟨rfl, rfl⟩
  · go_enter Tryd.func67, Tryd.ntmps67
    go_wp2
    go_ret
    exact ⟨rfl, rfl⟩
  · go_enter Tryd.func67, Tryd.ntmps67
    go_wp2
    go_ret
    exact ⟨rfl, rfl⟩
  · go_enter Tryd.func67, Tryd.ntmps67
    go_wp2
    go_ret
    exact ⟨rfl, rfl⟩
  · go_enter Tryd.func67, Tryd.ntmps67
    go_wp2
    go_ret
    exact ⟨rfl, rfl⟩
  · go_enter Tryd.func67, Tryd.ntmps67
    go_wp2
    go_ret
    exact ⟨rfl, rfl⟩
  · go_enter Tryd.func67, Tryd.ntmps67
    go_wp2
    go_ret
    exact ⟨rfl, rfl⟩
  · go_enter Tryd.func67, Tryd.ntmps67
    go_wp2
    go_ret
    exact ⟨rfl, rfl⟩
  · go_enter Tryd.func67, Tryd.ntmps67
    go_wp2
    go_ret
    exact ⟨rfl, rfl⟩
  · go_enter Tryd.func67, Tryd.ntmps67
    go_wp2
    go_ret
    exact ⟨rfl, rfl⟩

set_option maxHeartbeats 1000000 in
theorem refName_out (n : Int) (h : ¬ (0 ≤ n ∧ n ≤ 16)) (w : World) : Calls Tryd.prog 67 #[.int .i64 n] w fun e w' => e = .returned (.string (str [])) ∧ w' = w := by
  have e1 : (n == 1) = false := by simp; omega
  have e2 : (n == 2) = false := by simp; omega
  have e3 : (n == 3) = false := by simp; omega
  have e4 : (n == 4) = false := by simp; omega
  have e5 : (n == 5) = false := by simp; omega
  have e6 : (n == 6) = false := by simp; omega
  have e7 : (n == 7) = false := by simp; omega
  have e8 : (n == 8) = false := by simp; omega
  have e9 : (n == 9) = false := by simp; omega
  have e10 : (n == 10) = false := by simp; omega
  have e11 : (n == 11) = false := by simp; omega
  have e12 : (n == 12) = false := by simp; omega
  have e13 : (n == 13) = false := by simp; omega
  have e14 : (n == 14) = false := by simp; omega
  have e15 : (n == 15) = false := by simp; omega
  have e16 : (n == 16) = false := by simp; omega
  go_enter Tryd.func67, Tryd.ntmps67
  go_wp2
  go_ret
  exact ⟨rfl, rfl⟩
theorem refName_any (n : Int) (w : World) : Calls Tryd.prog 67 #[.int .i64 n] w fun e w' => e = .returned (.string (str (tN (rowN n)))) ∧ w' = w := by
  refine split17 (P := fun n => Calls Tryd.prog 67 #[.int .i64 n] w fun e w' => e = .returned (.string (str (tN (rowN n)))) ∧ w' = w) n (fun k hk => ?_) (fun h => ?_)
  · rw [rowN_in hk]; exact refName_in k hk w
  · rw [rowN_out h]; exact refName_out n h w

set_option maxHeartbeats 1000000 in
theorem refArityP_in (k : Nat) (hk : k < 17) (w : World) : Calls Tryd.prog 52 #[.int .i64 k] w fun e w' => e = .returned (.int .i64 (tA k)) ∧ w' = w := by
  have c : k = 0 ∨ k = 1 ∨ k = 2 ∨ k = 3 ∨ k = 4 ∨ k = 5 ∨ k = 6 ∨ k = 7 ∨ k = 8 ∨ k = 9 ∨ k = 10 ∨ k = 11 ∨ k = 12 ∨ k = 13 ∨ k = 14 ∨ k = 15 ∨ k = 16 := by omega
  rcases c with rfl | rfl | rfl | rfl | rfl | rfl | rfl | rfl | rfl | rfl | rfl | rfl | rfl | rfl | rfl | rfl | rfl
  · go_enter Tryd.func52, Tryd.ntmps52
    go_wp2
    go_ret
    exact ⟨rfl, rfl⟩
  · go_enter Tryd.func52, Tryd.ntmps52
    go_wp2
    go_ret
    exact ⟨rfl, rfl⟩
  · go_enter Tryd.func52, Tryd.ntmps52
    go_wp2
    go_ret
    exact ⟨rfl, rfl⟩
  · go_enter Tryd.func52, Tryd.ntmps52
    go_wp2
    go_ret
    exact ⟨rfl, rfl⟩
  · go_enter Tryd.func52, Tryd.ntmps52
    go_wp2
    go_ret
    exact ⟨rfl, rfl⟩
  · go_enter Tryd.func52, Tryd.ntmps52
    go_wp2
    go_ret
    exact ⟨rfl, rfl⟩
  · go_enter Tryd.func52, Tryd.ntmps52
    go_wp2
    go_ret
    exact ⟨rfl, rfl⟩
  · go_enter Tryd.func52, Tryd.ntmps52
    go_wp2
    go_ret
    exact ⟨rfl, rfl⟩
  · go_enter Tryd.func52, Tryd.ntmps52
    go_wp2
    go_ret
    exact ⟨rfl, rfl⟩
  · go_enter Tryd.func52, Tryd.ntmps52
    go_wp2
    go_ret
    exact ⟨rfl, rfl⟩
  · go_enter Tryd.func52, Tryd.ntmps52
    go_wp2
    go_ret
    exact ⟨rfl, rfl⟩
  · go_enter Tryd.func52, Tryd.ntmps52
    go_wp2
    go_ret
    exact ⟨rfl, rfl⟩
  · go_enter Tryd.func52, Tryd.ntmps52
    go_wp2
    go_ret
    exact ⟨rfl, rfl⟩
  · go_enter Tryd.func52, Tryd.ntmps52
    go_wp2
    go_ret
    exact ⟨rfl, rfl⟩
  · go_enter Tryd.func52, Tryd.ntmps52
    go_wp2
    go_ret
    exact ⟨rfl, rfl⟩
  · go_enter Tryd.func52, Tryd.ntmps52
    go_wp2
    go_ret
    exact ⟨rfl, rfl⟩
  · go_enter Tryd.func52, Tryd.ntmps52
    go_wp2
    go_ret
    exact ⟨rfl, rfl⟩

set_option maxHeartbeats 1000000 in
theorem refArityP_out (n : Int) (h : ¬ (0 ≤ n ∧ n ≤ 16)) (w : World) : Calls Tryd.prog 52 #[.int .i64 n] w fun e w' => e = .returned (.int .i64 0) ∧ w' = w := by
  by_cases a : n < 1
  · go_enter Tryd.func52, Tryd.ntmps52
    go_wp2
    go_ret
    exact ⟨rfl, rfl⟩
  · have b : 16 < n := by omega
    go_enter Tryd.func52, Tryd.ntmps52
    go_wp2
    go_ret
    exact ⟨rfl, rfl⟩
theorem refArityP_any (n : Int) (w : World) : Calls Tryd.prog 52 #[.int .i64 n] w fun e w' => e = .returned (.int .i64 (tA (rowN n))) ∧ w' = w := by
  refine split17 (P := fun n => Calls Tryd.prog 52 #[.int .i64 n] w fun e w' => e = .returned (.int .i64 (tA (rowN n))) ∧ w' = w) n (fun k hk => ?_) (fun h => ?_)
  · rw [rowN_in hk]; exact refArityP_in k hk w
  · rw [rowN_out h]; exact refArityP_out n h w


theorem eq_yes {t s : ByteArray} (h : t = s) : (t.toList == s.toList) = true := by subst h; simp
theorem eq_no {t s : ByteArray} (h : t ≠ s) : (t.toList == s.toList) = false := by
  rw [ByteArray.toList_eq, ByteArray.toList_eq]
  exact beq_eq_false_iff_ne.2 fun e => h (Go.WideShapes.bytes_inj e)
/-- the number of a name: the one whose name it is, else 0 -/
def FindsTo (s : ByteArray) (r : Nat) : Prop := (r < 17 ∧ str (tN r) = s) ∨ (r = 0 ∧ ∀ k < 17, str (tN k) ≠ s)
theorem tN_inj : ∀ j < 17, ∀ k < 17, tN j = tN k → j = k := by decide
theorem str_inj {a b : List UInt8} (h : str a = str b) : a = b := by
  have := congrArg (fun x => x.data.toList) h
  simpa [str] using this
theorem FindsTo.one {s : ByteArray} {a b : Nat} (h : FindsTo s a) (g : FindsTo s b) : a = b := by
  rcases h with ⟨ha, ea⟩ | ⟨ha, na⟩ <;> rcases g with ⟨hb, eb⟩ | ⟨hb, nb⟩
  · exact tN_inj a ha b hb (str_inj (ea.trans eb.symm))
  · exact absurd ea (nb a ha)
  · exact absurd eb (na b hb)
  · rw [ha, hb]

set_option maxHeartbeats 2000000 in
theorem refFind_any (s : ByteArray) (w : World) : Calls Tryd.prog 51 #[.string s] w fun e w' => (∃ r : Nat, e = .returned (.int .i64 r) ∧ FindsTo s r) ∧ w' = w := by
  go_enter Tryd.func51, Tryd.ntmps51
  go_wp2
  go_loopw [3] (fun c wr => ∃ k : Nat, c = .int .i64 k ∧ 1 ≤ k ∧ k ≤ 17 ∧ Hid (∀ j, 1 ≤ j → j < k → str (tN j) ≠ s) ∧ w = wr) (fun c _ => 17 - (intOf c).toNat)
  case atStart => exact ⟨1, rfl, Nat.le_refl _, by omega, ⟨fun j a b => absurd b (by omega)⟩, rfl⟩
  case round =>
    obtain ⟨k, rfl, h1, h2, HN, rfl⟩ := hrel
    by_cases z : k ≤ 16
    · have z' : (k : Int) ≤ 16 := by omega
      obtain ⟨t, ht⟩ : ∃ t, str (tN k) = t := ⟨_, rfl⟩
      have C := refName_in k (by omega) w
      rw [ht] at C
      by_cases q : t = s
      · have F : Hid (FindsTo s k) := ⟨Or.inl ⟨by omega, ht.trans q⟩⟩
        have q' : (t.toList == s.toList) = true := eq_yes q
        clear ht HN q
        go_wp2_with (go_at_call 67; refine C.mono ?_; rintro e w' ⟨rfl, rfl⟩)
        go_ret
        exact ⟨⟨k, rfl, F.out⟩, rfl⟩
      · have q' : (t.toList == s.toList) = false := eq_no q
        have HN' : Hid (∀ j, 1 ≤ j → j < k + 1 → str (tN j) ≠ s) := ⟨fun j a b => by
          by_cases e : j = k
          · subst e; rw [ht]; exact q
          · exact HN.out j a (by omega)⟩
        clear ht HN q
        go_wp2_with (go_at_call 67; refine C.mono ?_; rintro e w' ⟨rfl, rfl⟩)
        exact ⟨⟨k + 1, rfl, by omega, by omega, HN', trivial⟩, by simp only [intOf]; omega⟩
    · obtain rfl : k = 17 := by omega
      have F : Hid (FindsTo s 0) := ⟨by
        by_cases e : str (tN 0) = s
        · exact Or.inl ⟨by omega, e⟩
        · exact Or.inr ⟨rfl, fun j hj => by
            by_cases g : j = 0
            · subst g; exact e
            · exact HN.out j (by omega) (by omega)⟩⟩
      clear HN
      go_wp2
      go_ret
      exact ⟨⟨0, rfl, F.out⟩, rfl⟩

theorem need_none (i : Int) : needI 0 i = 0 := by
  unfold needI
  by_cases a : i = 0
  · rw [if_pos a]; rfl
  · rw [if_neg a]
    by_cases b : i = 1
    · rw [if_pos b]; rfl
    · rw [if_neg b]

def prN (n : Nm) : Nat := ((List.range 17).find? (fun k => decide (tN k = n))).getD 0
theorem prN_finds (n : Nm) : FindsTo (str n) (prN n) := by
  unfold prN
  cases h : (List.range 17).find? (fun k => decide (tN k = n)) with
  | some k =>
    have h1 := List.find?_some h
    have h2 := List.mem_of_find?_eq_some h
    simp only [decide_eq_true_eq] at h1
    exact Or.inl ⟨by simpa using h2, by rw [Option.getD_some, h1]⟩
  | none =>
    rw [List.find?_eq_none] at h
    refine Or.inr ⟨rfl, fun k hk e => ?_⟩
    have := h k (by simpa using hk)
    simp only [decide_eq_true_eq] at this
    exact this (str_inj e)
theorem prFind_any (n : Nm) (w : World) : Calls Tryd.prog 51 #[.string (str n)] w fun e w' => e = .returned (.int .i64 (prN n)) ∧ w' = w :=
  (refFind_any (str n) w).mono fun e w' ⟨⟨r, hr, F⟩, B⟩ => ⟨by rw [hr, F.one (prN_finds n)], B⟩
theorem prArity_any (n : Nm) (w : World) : Calls Tryd.prog 52 #[.int .i64 (prN n)] w fun e w' => e = .returned (.int .i64 (tA (prN n))) ∧ w' = w := by
  have := refArityP_any (prN n) w
  rwa [rowN_in (by rcases prN_finds n with h | h; exact h.1; omega)] at this
end Go.Proofs.YtcbdolflgpmaoaaDoor
