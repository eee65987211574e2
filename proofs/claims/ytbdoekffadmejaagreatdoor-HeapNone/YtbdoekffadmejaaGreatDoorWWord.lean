/- The contracts of package word's functions and of the statements' own helpers, for whatever arguments, in a world whose table of spans holds what the program's text lays. -/
import Derived.Test.YtbdoekffadmejaaGreatDoorProg
import Derived.WalkKit
import Derived.Handy
import Derived.BigQuiet
import Derived.Deep.QuietTactic
import Derived.Laws.BitsAllLaws
namespace Go.Proofs.YtbdoekffadmejaaGreatDoor.Wo
open Go.RowKit

/-! ### Plain numbers -/
theorem retInt {k : IntKind} {a b : Int} (h : a = b) : Ending.returned (.int k a) = .returned (.int k b) := by rw [h]
theorem retBool {a b : Bool} (h : a = b) : Ending.returned (.bool a) = .returned (.bool b) := by rw [h]

/-- A number joined by 'or' with a multiple of a power of two above it is their sum. -/
theorem orJoin (i : Nat) (a b : Int) (ha0 : 0 ≤ a) (ha : a < 2 ^ i) (hb0 : 0 ≤ b) (hb : b < 18446744073709551616) (hi : (2 : Int) ^ i ≤ 18446744073709551616) (hd : b % 2 ^ i = 0) : bits .or .u64 a b = a + b := by
  obtain ⟨x, rfl⟩ := Int.eq_ofNat_of_zero_le ha0
  obtain ⟨y, rfl⟩ := Int.eq_ofNat_of_zero_le hb0
  have e : ((2 ^ i : Nat) : Int) = (2 : Int) ^ i := by simp
  have hx : x < 2 ^ i := by have := ha; rw [← e] at this; exact_mod_cast this
  have hy : y % 2 ^ i = 0 := by have := hd; rw [← e] at this; exact_mod_cast this
  rw [u64_or_nat x y (by omega) (by omega), Nat.or_comm, nat_join i y x hy hx]
  omega

/-- The table of spans, cell by cell (low, size of each field in turn). -/
structure Spans (w : World) : Prop where
  c0 : w.cell? ⟨1, 0, none⟩ = some (.int .u64 0)
  c1 : w.cell? ⟨1, 1, none⟩ = some (.int .u64 1)
  c2 : w.cell? ⟨1, 2, none⟩ = some (.int .u64 1)
  c3 : w.cell? ⟨1, 3, none⟩ = some (.int .u64 4)
  c4 : w.cell? ⟨1, 4, none⟩ = some (.int .u64 5)
  c5 : w.cell? ⟨1, 5, none⟩ = some (.int .u64 12)
  c6 : w.cell? ⟨1, 6, none⟩ = some (.int .u64 17)
  c7 : w.cell? ⟨1, 7, none⟩ = some (.int .u64 12)
  c8 : w.cell? ⟨1, 8, none⟩ = some (.int .u64 29)
  c9 : w.cell? ⟨1, 9, none⟩ = some (.int .u64 20)
  c10 : w.cell? ⟨1, 10, none⟩ = some (.int .u64 49)
  c11 : w.cell? ⟨1, 11, none⟩ = some (.int .u64 15)

theorem Spans.later {w w' : World} (h : Spans w) (hb : Below w.heap.size w w') : Spans w' := by
  have z : 1 < w.heap.size := World.block_lt_of_cell? _ _ h.c0
  have k : ∀ o, w'.cell? ⟨1, o, none⟩ = w.cell? ⟨1, o, none⟩ := fun o => hb.cell (p := ⟨1, o, none⟩) z
  exact ⟨(k _).trans h.c0, (k _).trans h.c1, (k _).trans h.c2, (k _).trans h.c3, (k _).trans h.c4, (k _).trans h.c5, (k _).trans h.c6, (k _).trans h.c7, (k _).trans h.c8, (k _).trans h.c9, (k _).trans h.c10, (k _).trans h.c11⟩

theorem Spans.drewN {w : World} (h : Spans w) (n : Nat) : Spans (w.drewN n) := h.later ⟨rfl, rfl, rfl, Nat.le_refl _, fun _ _ => rfl⟩

/-! ### put and get -/
theorem put0 (n : Int) (w : World) (h : Spans w) (h0 : 0 ≤ n) (h1 : n < 2) :
    Calls Tryz.prog 165 #[.int .i64 0, .int .i64 n] w fun e w' => e = .returned (.int .u64 (n)) ∧ w' = w := by
  have a := h.c0
  go_enter Tryz.func165, Tryz.ntmps165
  go_wp2
  go_ret
  exact ⟨rfl, rfl⟩

theorem put1 (n : Int) (w : World) (h : Spans w) (h0 : 0 ≤ n) (h1 : n < 16) :
    Calls Tryz.prog 165 #[.int .i64 1, .int .i64 n] w fun e w' => e = .returned (.int .u64 (n * 2)) ∧ w' = w := by
  have a := h.c2
  go_enter Tryz.func165, Tryz.ntmps165
  go_wp2
  go_ret
  exact ⟨rfl, rfl⟩

theorem put2 (n : Int) (w : World) (h : Spans w) (h0 : 0 ≤ n) (h1 : n < 4096) :
    Calls Tryz.prog 165 #[.int .i64 2, .int .i64 n] w fun e w' => e = .returned (.int .u64 (n * 32)) ∧ w' = w := by
  have a := h.c4
  go_enter Tryz.func165, Tryz.ntmps165
  go_wp2
  go_ret
  exact ⟨rfl, rfl⟩

theorem put3 (n : Int) (w : World) (h : Spans w) (h0 : 0 ≤ n) (h1 : n < 4096) :
    Calls Tryz.prog 165 #[.int .i64 3, .int .i64 n] w fun e w' => e = .returned (.int .u64 (n * 131072)) ∧ w' = w := by
  have a := h.c6
  go_enter Tryz.func165, Tryz.ntmps165
  go_wp2
  go_ret
  exact ⟨rfl, rfl⟩

theorem put4 (n : Int) (w : World) (h : Spans w) (h0 : 0 ≤ n) (h1 : n < 1048576) :
    Calls Tryz.prog 165 #[.int .i64 4, .int .i64 n] w fun e w' => e = .returned (.int .u64 (n * 536870912)) ∧ w' = w := by
  have a := h.c8
  go_enter Tryz.func165, Tryz.ntmps165
  go_wp2
  go_ret
  exact ⟨rfl, rfl⟩

theorem get0 (x : Int) (w : World) (h : Spans w) (h0 : 0 ≤ x) (h1 : x ≤ 18446744073709551615) :
    Calls Tryz.prog 154 #[.int .u64 x, .int .i64 0] w fun e w' => e = .returned (.int .i64 (x % 2)) ∧ w' = w := by
  have a := h.c0
  have b := h.c1
  have m : bits .and .u64 (x) 1 = x % 2 := by
    rw [u64_and _ _ (by omega) (by omega) (by omega) (by omega), show (1 : Int).toNat = 1 from rfl, nat_mask1]
    omega
  go_enter Tryz.func154, Tryz.ntmps154
  go_wp2
  go_ret
  exact ⟨rfl, rfl⟩

theorem get1 (x : Int) (w : World) (h : Spans w) (h0 : 0 ≤ x) (h1 : x ≤ 18446744073709551615) :
    Calls Tryz.prog 154 #[.int .u64 x, .int .i64 1] w fun e w' => e = .returned (.int .i64 (x / 2 % 16)) ∧ w' = w := by
  have a := h.c2
  have b := h.c3
  have m : bits .and .u64 (x / 2) 15 = x / 2 % 16 := by
    rw [u64_and _ _ (by omega) (by omega) (by omega) (by omega), show (15 : Int).toNat = 15 from rfl, nat_mask4]
    omega
  go_enter Tryz.func154, Tryz.ntmps154
  go_wp2
  go_ret
  exact ⟨rfl, rfl⟩

theorem get2 (x : Int) (w : World) (h : Spans w) (h0 : 0 ≤ x) (h1 : x ≤ 18446744073709551615) :
    Calls Tryz.prog 154 #[.int .u64 x, .int .i64 2] w fun e w' => e = .returned (.int .i64 (x / 32 % 4096)) ∧ w' = w := by
  have a := h.c4
  have b := h.c5
  have m : bits .and .u64 (x / 32) 4095 = x / 32 % 4096 := by
    rw [u64_and _ _ (by omega) (by omega) (by omega) (by omega), show (4095 : Int).toNat = 4095 from rfl, nat_mask12]
    omega
  go_enter Tryz.func154, Tryz.ntmps154
  go_wp2
  go_ret
  exact ⟨rfl, rfl⟩

theorem get3 (x : Int) (w : World) (h : Spans w) (h0 : 0 ≤ x) (h1 : x ≤ 18446744073709551615) :
    Calls Tryz.prog 154 #[.int .u64 x, .int .i64 3] w fun e w' => e = .returned (.int .i64 (x / 131072 % 4096)) ∧ w' = w := by
  have a := h.c6
  have b := h.c7
  have m : bits .and .u64 (x / 131072) 4095 = x / 131072 % 4096 := by
    rw [u64_and _ _ (by omega) (by omega) (by omega) (by omega), show (4095 : Int).toNat = 4095 from rfl, nat_mask12]
    omega
  go_enter Tryz.func154, Tryz.ntmps154
  go_wp2
  go_ret
  exact ⟨rfl, rfl⟩

theorem get4 (x : Int) (w : World) (h : Spans w) (h0 : 0 ≤ x) (h1 : x ≤ 18446744073709551615) :
    Calls Tryz.prog 154 #[.int .u64 x, .int .i64 4] w fun e w' => e = .returned (.int .i64 (x / 536870912 % 1048576)) ∧ w' = w := by
  have a := h.c8
  have b := h.c9
  have m : bits .and .u64 (x / 536870912) 1048575 = x / 536870912 % 1048576 := by
    rw [u64_and _ _ (by omega) (by omega) (by omega) (by omega), show (1048575 : Int).toNat = 1048575 from rfl, nat_mask20]
    omega
  go_enter Tryz.func154, Tryz.ntmps154
  go_wp2
  go_ret
  exact ⟨rfl, rfl⟩

theorem get5 (x : Int) (w : World) (h : Spans w) (h0 : 0 ≤ x) (h1 : x ≤ 18446744073709551615) :
    Calls Tryz.prog 154 #[.int .u64 x, .int .i64 5] w fun e w' => e = .returned (.int .i64 (x / 562949953421312 % 32768)) ∧ w' = w := by
  have a := h.c10
  have b := h.c11
  have m : bits .and .u64 (x / 562949953421312) 32767 = x / 562949953421312 % 32768 := by
    rw [u64_and _ _ (by omega) (by omega) (by omega) (by omega), show (32767 : Int).toNat = 32767 from rfl, nat_mask15]
    omega
  go_enter Tryz.func154, Tryz.ntmps154
  go_wp2
  go_ret
  exact ⟨rfl, rfl⟩

/-! ### The two tests -/
def kindB (k : Int) : Bool := decide (1 ≤ k ∧ k ≤ 12)
def partsB (p n : Int) : Bool := decide (0 ≤ p ∧ 0 ≤ n ∧ p + n ≤ 4095)
theorem kindB_yes {k : Int} : kindB k = true ↔ 1 ≤ k ∧ k ≤ 12 := by simp [kindB]
theorem kindB_no {k : Int} : kindB k = false ↔ ¬ (1 ≤ k ∧ k ≤ 12) := by simp [kindB]
theorem partsB_yes {p n : Int} : partsB p n = true ↔ 0 ≤ p ∧ 0 ≤ n ∧ p + n ≤ 4095 := by simp [partsB]
theorem partsB_no {p n : Int} : partsB p n = false ↔ ¬ (0 ≤ p ∧ 0 ≤ n ∧ p + n ≤ 4095) := by simp [partsB]

theorem kind_any (k : Int) (w : World) :
    Calls Tryz.prog 155 #[.int .i64 k] w fun e w' => e = .returned (.bool (kindB k)) ∧ w' = w := by
  by_cases a : 1 ≤ k
  · by_cases b : k ≤ 12
    · go_enter Tryz.func155, Tryz.ntmps155
      go_wp2
      go_ret
      exact ⟨retBool (kindB_yes.2 ⟨a, b⟩).symm, rfl⟩
    · go_enter Tryz.func155, Tryz.ntmps155
      go_wp2
      go_ret
      exact ⟨retBool (kindB_no.2 (by omega)).symm, rfl⟩
  · go_enter Tryz.func155, Tryz.ntmps155
    go_wp2
    go_ret
    exact ⟨retBool (kindB_no.2 (by omega)).symm, rfl⟩

theorem parts_any (p n : Int) (w : World) (hp : p ≤ 9223372036854775807) :
    Calls Tryz.prog 156 #[.int .i64 p, .int .i64 n] w fun e w' => e = .returned (.bool (partsB p n)) ∧ w' = w := by
  by_cases a : 0 ≤ p
  · by_cases b : 0 ≤ n
    · by_cases c : n ≤ 4095 - p
      · go_enter Tryz.func156, Tryz.ntmps156
        go_wp2
        go_ret
        exact ⟨retBool (partsB_yes.2 (by omega)).symm, rfl⟩
      · go_enter Tryz.func156, Tryz.ntmps156
        go_wp2
        go_ret
        exact ⟨retBool (partsB_no.2 (by omega)).symm, rfl⟩
    · go_enter Tryz.func156, Tryz.ntmps156
      go_wp2
      go_ret
      exact ⟨retBool (partsB_no.2 (by omega)).symm, rfl⟩
  · go_enter Tryz.func156, Tryz.ntmps156
    go_wp2
    go_ret
    exact ⟨retBool (partsB_no.2 (by omega)).symm, rfl⟩

/-! ### Numbers and addresses -/
def fwd (a : Int) : Bool := decide (1 ≤ a ∧ a ≤ 524288)
def movedB (x : Int) : Bool := decide (x % 2 = 0 ∧ 2 ≤ x ∧ x ≤ 1048576)
theorem forward_yes (a : Int) (w : World) (h1 : 1 ≤ a) (h2 : a ≤ 524288) :
    Calls Tryz.prog 124 #[.int .i64 a] w fun e w' => e = .returned (.tuple #[.int .u64 (a * 2), .int .i64 0]) ∧ w' = w := by
  go_enter Tryz.func124, Tryz.ntmps124
  go_wp2
  go_ret2
  exact ⟨rfl, rfl⟩
theorem forward_no (a : Int) (w : World) (h : a < 1 ∨ 524288 < a) :
    Calls Tryz.prog 124 #[.int .i64 a] w fun e w' => e = .returned (.tuple #[.int .u64 0, .int .i64 4]) ∧ w' = w := by
  rcases h with h | h
  · go_enter Tryz.func124, Tryz.ntmps124
    go_wp2
    go_ret2
    exact ⟨rfl, rfl⟩
  · have h' : ¬ a < 1 := by omega
    go_enter Tryz.func124, Tryz.ntmps124
    go_wp2
    go_ret2
    exact ⟨rfl, rfl⟩
theorem moved_yes (x : Int) (w : World) (h0 : x % 2 = 0) (h1 : 2 ≤ x) (h2 : x ≤ 1048576) :
    Calls Tryz.prog 122 #[.int .u64 x] w fun e w' => e = .returned (.tuple #[.int .i64 (x / 2), .bool true]) ∧ w' = w := by
  go_enter Tryz.func122, Tryz.ntmps122
  go_wp2
  go_ret2
  exact ⟨rfl, rfl⟩
theorem moved_no (x : Int) (w : World) (h0 : 0 ≤ x) (h1 : x ≤ 18446744073709551615) (h : ¬ (x % 2 = 0 ∧ 2 ≤ x ∧ x ≤ 1048576)) :
    Calls Tryz.prog 122 #[.int .u64 x] w fun e w' => e = .returned (.tuple #[.int .i64 0, .bool false]) ∧ w' = w := by
  by_cases a : x % 2 = 0
  · by_cases b : 2 ≤ x
    · have c : 1048576 < x := by omega
      go_enter Tryz.func122, Tryz.ntmps122
      go_wp2
      go_ret2
      exact ⟨rfl, rfl⟩
    · go_enter Tryz.func122, Tryz.ntmps122
      go_wp2
      go_ret2
      exact ⟨rfl, rfl⟩
  · go_enter Tryz.func122, Tryz.ntmps122
    go_wp2
    go_ret2
    exact ⟨rfl, rfl⟩
end Go.Proofs.YtbdoekffadmejaaGreatDoor.Wo
