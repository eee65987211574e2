/- The contracts of Pack and of the document's own Pack, for whatever header. -/
import Derived.Test.YtbdoekffadmejaaGreatDoorWWord
import Derived.Deep.RegionWith
namespace Go.Proofs.YtbdoekffadmejaaGreatDoor.Wo
open Go.RowKit

abbrev head (k i p n : Int) : Value := .agg #[.int .i64 k, .int .i64 i, .int .i64 p, .int .i64 n]
theorem retPair {k : IntKind} {a b : Int} {v : Value} (h : a = b) : Ending.returned (.tuple #[.int k a, v]) = .returned (.tuple #[.int k b, v]) := by rw [h]
def packed (k i p n : Int) : Int := 1 + 2 * k + 32 * p + 131072 * n + 536870912 * i

set_option maxHeartbeats 1000000 in
theorem pack_kind (k i p n : Int) (w : World) (a : kindB k = false) :
    Calls Tryz.prog 120 #[head k i p n] w fun e w' => e = .returned (.tuple #[.int .u64 0, .int .i64 6]) ∧ Below w.heap.size w w' := by
  go_enter Tryz.func120, Tryz.ntmps120
  go_wp2_with (go_at_call 155; refine (kind_any _ _).mono ?_; rintro e w' ⟨rfl, rfl⟩)
  go_ret2
  exact ⟨rfl, by go_grown⟩

set_option maxHeartbeats 1000000 in
theorem pack_size (k i p n : Int) (w : World) (a : kindB k = true) (b : partsB p n = false) (hp : p ≤ 9223372036854775807) :
    Calls Tryz.prog 120 #[head k i p n] w fun e w' => e = .returned (.tuple #[.int .u64 0, .int .i64 7]) ∧ Below w.heap.size w w' := by
  go_enter Tryz.func120, Tryz.ntmps120
  go_wp2_with (first | (go_at_call 155; refine (kind_any _ _).mono ?_; rintro e w' ⟨rfl, rfl⟩) | (go_at_call 156; refine (parts_any _ _ _ hp).mono ?_; rintro e w' ⟨rfl, rfl⟩))
  go_ret2
  exact ⟨rfl, by go_grown⟩

set_option maxHeartbeats 1000000 in
theorem pack_arg (k i p n : Int) (w : World) (a : kindB k = true) (b : partsB p n = true) (hp : p ≤ 9223372036854775807) (c : i < 0 ∨ 1048576 ≤ i) :
    Calls Tryz.prog 120 #[head k i p n] w fun e w' => e = .returned (.tuple #[.int .u64 0, .int .i64 2]) ∧ Below w.heap.size w w' := by
  rcases c with c | c
  · go_enter Tryz.func120, Tryz.ntmps120
    go_wp2_with (first | (go_at_call 155; refine (kind_any _ _).mono ?_; rintro e w' ⟨rfl, rfl⟩) | (go_at_call 156; refine (parts_any _ _ _ hp).mono ?_; rintro e w' ⟨rfl, rfl⟩))
    go_ret2
    exact ⟨rfl, by go_grown⟩
  · have c' : ¬ i < 0 := by omega
    go_enter Tryz.func120, Tryz.ntmps120
    go_wp2_with (first | (go_at_call 155; refine (kind_any _ _).mono ?_; rintro e w' ⟨rfl, rfl⟩) | (go_at_call 156; refine (parts_any _ _ _ hp).mono ?_; rintro e w' ⟨rfl, rfl⟩))
    go_ret2
    exact ⟨rfl, by go_grown⟩

set_option maxHeartbeats 1000000 in
theorem pack_ok (k i p n : Int) (w : World) (h : Spans w) (a : kindB k = true) (b : partsB p n = true) (c : 0 ≤ i) (d : i < 1048576) :
    Calls Tryz.prog 120 #[head k i p n] w fun e w' => e = .returned (.tuple #[.int .u64 (packed k i p n), .int .i64 0]) ∧ Below w.heap.size w w' := by
  have hk := kindB_yes.1 a
  have hp := partsB_yes.1 b
  have c' : ¬ i < 0 := by omega
  have hs : Spans (w.alloc (Obj.cells #[Value.int IntKind.i64 k, Value.int IntKind.i64 i, Value.int IntKind.i64 p, Value.int IntKind.i64 n] 30)) := h.later (by go_grown)
  have j1 : bits .or .u64 1 (k * 2) = 1 + k * 2 := orJoin 1 _ _ (by omega) (by omega) (by omega) (by omega) (by omega) (by omega)
  have j2 : bits .or .u64 (1 + k * 2) (p * 32) = 1 + k * 2 + p * 32 := orJoin 5 _ _ (by omega) (by omega) (by omega) (by omega) (by omega) (by omega)
  have j3 : bits .or .u64 (1 + k * 2 + p * 32) (n * 131072) = 1 + k * 2 + p * 32 + n * 131072 := orJoin 17 _ _ (by omega) (by omega) (by omega) (by omega) (by omega) (by omega)
  have j4 : bits .or .u64 (1 + k * 2 + p * 32 + n * 131072) (i * 536870912) = 1 + k * 2 + p * 32 + n * 131072 + i * 536870912 := orJoin 29 _ _ (by omega) (by omega) (by omega) (by omega) (by omega) (by omega)
  go_enter Tryz.func120, Tryz.ntmps120
  go_wp2_with (first | (go_at_call 155; refine (kind_any _ _).mono ?_; rintro e w' ⟨rfl, rfl⟩) | (go_at_call 156; refine (parts_any _ _ _ (by omega)).mono ?_; rintro e w' ⟨rfl, rfl⟩))
  go_quiet ((first | (go_at_call_of 165 (Value.int IntKind.i64 0); exact Calls.quiet_of_same (put0 _ _ (hs.drewN _) (by omega) (by omega))) | (go_at_call_of 165 (Value.int IntKind.i64 k); exact Calls.quiet_of_same (put1 _ _ (hs.drewN _) (by omega) (by omega))) | (go_at_call_of 165 (Value.int IntKind.i64 p); exact Calls.quiet_of_same (put2 _ _ (hs.drewN _) (by omega) (by omega)))))
  go_wp2_with fail
  have f1 : ((w.alloc (Obj.cells #[Value.int IntKind.i64 k, Value.int IntKind.i64 i, Value.int IntKind.i64 p, Value.int IntKind.i64 n] 30)).drewN nq).cell? ⟨w.heap.size, 1, none⟩ = some (.int .i64 i) := by simp [go_sem]
  have f3 : ((w.alloc (Obj.cells #[Value.int IntKind.i64 k, Value.int IntKind.i64 i, Value.int IntKind.i64 p, Value.int IntKind.i64 n] 30)).drewN nq).cell? ⟨w.heap.size, 3, none⟩ = some (.int .i64 n) := by simp [go_sem]
  have hs2 := hs.drewN nq
  have hb2 : Below w.heap.size w ((w.alloc (Obj.cells #[Value.int IntKind.i64 k, Value.int IntKind.i64 i, Value.int IntKind.i64 p, Value.int IntKind.i64 n] 30)).drewN nq) := (Below.alloc (Below.refl _ _) (Nat.le_refl _) _).trans ⟨rfl, rfl, rfl, Nat.le_refl _, fun _ _ => rfl⟩
  generalize (w.alloc (Obj.cells #[Value.int IntKind.i64 k, Value.int IntKind.i64 i, Value.int IntKind.i64 p, Value.int IntKind.i64 n] 30)).drewN nq = W2 at f1 f3 hs2 hb2 ⊢
  go_quiet ((first | (go_at_call_of 165 (Value.int IntKind.i64 n); exact Calls.quiet_of_same (put3 _ _ (hs2.drewN _) (by omega) (by omega))) | (go_at_call_of 165 (Value.int IntKind.i64 i); exact Calls.quiet_of_same (put4 _ _ (hs2.drewN _) (by omega) (by omega)))))
  go_wp2
  go_ret2
  exact ⟨retPair (by unfold packed; omega), hb2.trans ⟨rfl, rfl, rfl, Nat.le_refl _, fun _ _ => rfl⟩⟩

/-! ### The document's own -/
/-! ### In one -/
def packE (k i p n : Int) : Int := if kindB k = false then 6 else if partsB p n = false then 7 else if i < 0 ∨ 1048576 ≤ i then 2 else 0
def packW (k i p n : Int) : Int := if packE k i p n = 0 then packed k i p n else 0
theorem packE_kind {k i p n : Int} (a : kindB k = false) : packE k i p n = 6 := by simp [packE, a]
theorem packE_size {k i p n : Int} (a : kindB k = true) (b : partsB p n = false) : packE k i p n = 7 := by simp [packE, a, b]
theorem packE_arg {k i p n : Int} (a : kindB k = true) (b : partsB p n = true) (c : i < 0 ∨ 1048576 ≤ i) : packE k i p n = 2 := by simp [packE, a, b, c]
theorem packE_ok {k i p n : Int} (a : kindB k = true) (b : partsB p n = true) (c : 0 ≤ i) (d : i < 1048576) : packE k i p n = 0 := by
  have e : ¬ (i < 0 ∨ 1048576 ≤ i) := by omega
  simp [packE, a, b, e]
theorem packW_bad {k i p n : Int} {e : Int} (a : packE k i p n = e) (b : e ≠ 0) : packW k i p n = 0 := by simp [packW, a, b]
theorem packW_ok {k i p n : Int} (a : packE k i p n = 0) : packW k i p n = packed k i p n := by simp [packW, a]

theorem pack_any (k i p n : Int) (w : World) (h : Spans w) (hp : p ≤ 9223372036854775807) :
    Calls Tryz.prog 120 #[head k i p n] w fun e w' => e = .returned (.tuple #[.int .u64 (packW k i p n), .int .i64 (packE k i p n)]) ∧ Below w.heap.size w w' := by
  rcases Bool.eq_false_or_eq_true (kindB k) with a | a
  · rcases Bool.eq_false_or_eq_true (partsB p n) with b | b
    · by_cases c : i < 0 ∨ 1048576 ≤ i
      · rw [packW_bad (packE_arg a b c) (by decide), packE_arg a b c]; exact pack_arg k i p n w a b hp c
      · have E := packE_ok a b (by omega : 0 ≤ i) (by omega)
        rw [packW_ok E, E]; exact pack_ok k i p n w h a b (by omega) (by omega)
    · rw [packW_bad (packE_size a b) (by decide), packE_size a b]; exact pack_size k i p n w a b hp
  · rw [packW_bad (packE_kind a) (by decide), packE_kind a]; exact pack_kind k i p n w a
end Go.Proofs.YtbdoekffadmejaaGreatDoor.Wo
