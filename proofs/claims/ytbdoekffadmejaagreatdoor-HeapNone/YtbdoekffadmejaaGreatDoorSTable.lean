/- The table of kinds as it lies in memory, and what is asked of a header's parts by it. -/
import Derived.Test.YtbdoekffadmejaaGreatDoorSSmall
import Derived.Deep.RegionWith
namespace Go.Proofs.YtbdoekffadmejaaGreatDoor.Sh
open Go.RowKit

def tI : Nat → Bool | 1 => true | 3 => true | 6 => true | 7 => true | _ => false
def tA : Nat → Int | 4 => 2 | 5 => 2 | 7 => 1 | 8 => 1 | 10 => 1 | _ => 0
def tB : Nat → Int | 1 => 8 | 3 => 255 | 4 => 9 | 5 => 9 | 6 => 255 | 7 => 1 | 8 => 1 | 10 => 1 | 11 => 1024 | _ => 0
def tC : Nat → Int | 2 => 1 | 7 => 1 | 9 => 1 | 12 => 1 | _ => 0
def tD : Nat → Int | 2 => 1 | 6 => 1 | 7 => 1 | 8 => 4095 | 9 => 4095 | 12 => 4095 | _ => 0

/-- The table, cell by cell. -/
structure Table (w : World) : Prop where
  i : ∀ k, k < 13 → w.cell? ⟨0, k * 5, none⟩ = some (.bool (tI k))
  a : ∀ k, k < 13 → w.cell? ⟨0, k * 5 + 1, none⟩ = some (.int .i64 (tA k))
  b : ∀ k, k < 13 → w.cell? ⟨0, k * 5 + 2, none⟩ = some (.int .i64 (tB k))
  c : ∀ k, k < 13 → w.cell? ⟨0, k * 5 + 3, none⟩ = some (.int .i64 (tC k))
  d : ∀ k, k < 13 → w.cell? ⟨0, k * 5 + 4, none⟩ = some (.int .i64 (tD k))
theorem Table.later {w w' : World} (h : Table w) (hb : Below w.heap.size w w') : Table w' := by
  have z : 0 < w.heap.size := World.block_lt_of_cell? _ _ (h.i 0 (by decide))
  have k : ∀ o, w'.cell? ⟨0, o, none⟩ = w.cell? ⟨0, o, none⟩ := fun o => hb.cell (p := ⟨0, o, none⟩) z
  exact ⟨fun j hj => (k _).trans (h.i j hj), fun j hj => (k _).trans (h.a j hj), fun j hj => (k _).trans (h.b j hj), fun j hj => (k _).trans (h.c j hj), fun j hj => (k _).trans (h.d j hj)⟩

abbrev head (k i p n : Int) : Value := .agg #[.int .i64 k, .int .i64 i, .int .i64 p, .int .i64 n]
def partsB (k : Nat) (p n : Int) : Bool := hasB (tA k) (tB k) p && hasB (tC k) (tD k) n && !(k == 6 && !((p == 0) == (n == 1))) && decide (p + n ≤ 4095)

structure HeadAt (w : World) (b : Nat) (k i p n : Int) : Prop where
  c0 : w.cell? ⟨b, 0, none⟩ = some (.int .i64 k)
  c1 : w.cell? ⟨b, 1, none⟩ = some (.int .i64 i)
  c2 : w.cell? ⟨b, 2, none⟩ = some (.int .i64 p)
  c3 : w.cell? ⟨b, 3, none⟩ = some (.int .i64 n)
theorem HeadAt.fresh (w : World) (k i p n : Int) : HeadAt (w.alloc (Obj.cells #[Value.int IntKind.i64 k, Value.int IntKind.i64 i, Value.int IntKind.i64 p, Value.int IntKind.i64 n] 30)) w.heap.size k i p n :=
  ⟨by simp [go_sem], by simp [go_sem], by simp [go_sem], by simp [go_sem]⟩
theorem HeadAt.later {w w' : World} {b : Nat} {k i p n : Int} (h : HeadAt w b k i p n) (hb : Below w.heap.size w w') : HeadAt w' b k i p n := by
  have z : b < w.heap.size := World.block_lt_of_cell? _ _ h.c0
  have e : ∀ o, w'.cell? ⟨b, o, none⟩ = w.cell? ⟨b, o, none⟩ := fun o => hb.cell (p := ⟨b, o, none⟩) z
  exact ⟨(e _).trans h.c0, (e _).trans h.c1, (e _).trans h.c2, (e _).trans h.c3⟩
structure RowAt (w : World) (b : Nat) (i : Bool) (ta tb tc td : Int) : Prop where
  c0 : w.cell? ⟨b, 0, none⟩ = some (.bool i)
  c1 : w.cell? ⟨b, 1, none⟩ = some (.int .i64 ta)
  c2 : w.cell? ⟨b, 2, none⟩ = some (.int .i64 tb)
  c3 : w.cell? ⟨b, 3, none⟩ = some (.int .i64 tc)
  c4 : w.cell? ⟨b, 4, none⟩ = some (.int .i64 td)
theorem RowAt.fresh (w : World) (i : Bool) (ta tb tc td : Int) : RowAt (w.alloc (Obj.cells #[.bool i, .int .i64 ta, .int .i64 tb, .int .i64 tc, .int .i64 td] 199)) w.heap.size i ta tb tc td :=
  ⟨by simp [go_sem], by simp [go_sem], by simp [go_sem], by simp [go_sem], by simp [go_sem]⟩
theorem RowAt.later {w w' : World} {b : Nat} {i : Bool} {ta tb tc td : Int} (h : RowAt w b i ta tb tc td) (hb : Below w.heap.size w w') : RowAt w' b i ta tb tc td := by
  have z : b < w.heap.size := World.block_lt_of_cell? _ _ h.c0
  have e : ∀ o, w'.cell? ⟨b, o, none⟩ = w.cell? ⟨b, o, none⟩ := fun o => hb.cell (p := ⟨b, o, none⟩) z
  exact ⟨(e _).trans h.c0, (e _).trans h.c1, (e _).trans h.c2, (e _).trans h.c3, (e _).trans h.c4⟩
theorem far2 {w w1 : World} {o o' : Obj} (B : Below ((w.alloc o).alloc o').heap.size ((w.alloc o).alloc o') w1) : Below w.heap.size w w1 :=
  (show Below w.heap.size w ((w.alloc o).alloc o') by go_grown).trans (B.mono (by simp; omega))

set_option maxHeartbeats 1000000 in
theorem parts_no1 (k : Nat) (i p n : Int) (w : World) (h : Table w) (hk : k < 13) (a : hasB (tA k) (tB k) p = false) :
    Calls Tryz.prog 161 #[head k i p n] w fun e w' => e = .returned (.bool false) ∧ Below w.heap.size w w' := by
  obtain ⟨ti, hti⟩ : ∃ x, tI k = x := ⟨_, rfl⟩
  obtain ⟨ta, hta⟩ : ∃ x, tA k = x := ⟨_, rfl⟩
  obtain ⟨tb, htb⟩ : ∃ x, tB k = x := ⟨_, rfl⟩
  obtain ⟨tc, htc⟩ : ∃ x, tC k = x := ⟨_, rfl⟩
  obtain ⟨td, htd⟩ : ∃ x, tD k = x := ⟨_, rfl⟩
  have hs : Table (w.alloc (Obj.cells #[Value.int IntKind.i64 k, Value.int IntKind.i64 i, Value.int IntKind.i64 p, Value.int IntKind.i64 n] 30)) := h.later (by go_grown)
  have z0 := hs.i k hk
  have z1 := hs.a k hk
  have z2 := hs.b k hk
  have z3 := hs.c k hk
  have z4 := hs.d k hk
  rw [hti] at z0
  rw [hta] at z1 a
  rw [htb] at z2 a
  rw [htc] at z3
  rw [htd] at z4
  clear hs hti hta htb htc htd
  go_enter Tryz.func161, Tryz.ntmps161
  go_wp2_with (go_at_call 180; refine (has_any _ _ _ _).mono ?_; rintro e w1 ⟨rfl, B1⟩)
  go_ret
  exact ⟨rfl, far2 B1⟩

set_option maxHeartbeats 1000000 in
theorem parts_no2 (k : Nat) (i p n : Int) (w : World) (h : Table w) (hk : k < 13) (a : hasB (tA k) (tB k) p = true) (b : hasB (tC k) (tD k) n = false) :
    Calls Tryz.prog 161 #[head k i p n] w fun e w' => e = .returned (.bool false) ∧ Below w.heap.size w w' := by
  obtain ⟨ti, hti⟩ : ∃ x, tI k = x := ⟨_, rfl⟩
  obtain ⟨ta, hta⟩ : ∃ x, tA k = x := ⟨_, rfl⟩
  obtain ⟨tb, htb⟩ : ∃ x, tB k = x := ⟨_, rfl⟩
  obtain ⟨tc, htc⟩ : ∃ x, tC k = x := ⟨_, rfl⟩
  obtain ⟨td, htd⟩ : ∃ x, tD k = x := ⟨_, rfl⟩
  have hs : Table (w.alloc (Obj.cells #[Value.int IntKind.i64 k, Value.int IntKind.i64 i, Value.int IntKind.i64 p, Value.int IntKind.i64 n] 30)) := h.later (by go_grown)
  have z0 := hs.i k hk
  have z1 := hs.a k hk
  have z2 := hs.b k hk
  have z3 := hs.c k hk
  have z4 := hs.d k hk
  rw [hti] at z0
  rw [hta] at z1 a
  rw [htb] at z2 a
  rw [htc] at z3 b
  rw [htd] at z4 b
  clear hs hti hta htb htc htd
  have H : HeadAt ((w.alloc (Obj.cells #[Value.int IntKind.i64 k, Value.int IntKind.i64 i, Value.int IntKind.i64 p, Value.int IntKind.i64 n] 30)).alloc (Obj.cells #[.bool ti, .int .i64 ta, .int .i64 tb, .int .i64 tc, .int .i64 td] 199)) w.heap.size k i p n := (HeadAt.fresh w k i p n).later (by go_grown)
  have R : RowAt ((w.alloc (Obj.cells #[Value.int IntKind.i64 k, Value.int IntKind.i64 i, Value.int IntKind.i64 p, Value.int IntKind.i64 n] 30)).alloc (Obj.cells #[.bool ti, .int .i64 ta, .int .i64 tb, .int .i64 tc, .int .i64 td] 199)) (w.heap.size + 1) ti ta tb tc td := by have := RowAt.fresh (w.alloc (Obj.cells #[Value.int IntKind.i64 k, Value.int IntKind.i64 i, Value.int IntKind.i64 p, Value.int IntKind.i64 n] 30)) ti ta tb tc td; simpa using this
  go_enter Tryz.func161, Tryz.ntmps161
  go_wp2_with (first
    | (go_at_call_of 180 (Value.agg #[Value.int IntKind.i64 ta, Value.int IntKind.i64 tb]); refine (has_any p ta tb _).mono ?_; rintro e w1 ⟨rfl, B1⟩; have H1 := H.later B1; have R1 := R.later B1; obtain ⟨x0, x1, x2, x3⟩ := H1; obtain ⟨y0, y1, y2, y3, y4⟩ := R1)
    | (go_at_call_of 180 (Value.agg #[Value.int IntKind.i64 tc, Value.int IntKind.i64 td]); refine (has_any n tc td _).mono ?_; rintro e w2 ⟨rfl, B2⟩; have H2 := (H.later B1).later B2; obtain ⟨x0, x1, x2, x3⟩ := H2))
  go_ret
  exact ⟨rfl, (far2 B1).trans (B2.mono (far2 B1).size)⟩

set_option maxHeartbeats 1000000 in
theorem parts_no3 (i p n : Int) (w : World) (h : Table w) (a : hasB (tA 6) (tB 6) p = true) (b : hasB (tC 6) (tD 6) n = true) (c : (!((p == 0) == (n == 1))) = true) :
    Calls Tryz.prog 161 #[head (6 : Nat) i p n] w fun e w' => e = .returned (.bool false) ∧ Below w.heap.size w w' := by
  obtain ⟨k, k6⟩ : ∃ k : Nat, k = 6 := ⟨_, rfl⟩
  have hk : k < 13 := by omega
  rw [← k6] at a b ⊢
  have k6' : (((k : Nat) : Int) == 6) = true := by simp [k6]
  clear k6
  obtain ⟨ti, hti⟩ : ∃ x, tI k = x := ⟨_, rfl⟩
  obtain ⟨ta, hta⟩ : ∃ x, tA k = x := ⟨_, rfl⟩
  obtain ⟨tb, htb⟩ : ∃ x, tB k = x := ⟨_, rfl⟩
  obtain ⟨tc, htc⟩ : ∃ x, tC k = x := ⟨_, rfl⟩
  obtain ⟨td, htd⟩ : ∃ x, tD k = x := ⟨_, rfl⟩
  have hs : Table (w.alloc (Obj.cells #[Value.int IntKind.i64 k, Value.int IntKind.i64 i, Value.int IntKind.i64 p, Value.int IntKind.i64 n] 30)) := h.later (by go_grown)
  have z0 := hs.i k hk
  have z1 := hs.a k hk
  have z2 := hs.b k hk
  have z3 := hs.c k hk
  have z4 := hs.d k hk
  rw [hti] at z0
  rw [hta] at z1 a
  rw [htb] at z2 a
  rw [htc] at z3 b
  rw [htd] at z4 b
  clear hs hti hta htb htc htd
  have H : HeadAt ((w.alloc (Obj.cells #[Value.int IntKind.i64 k, Value.int IntKind.i64 i, Value.int IntKind.i64 p, Value.int IntKind.i64 n] 30)).alloc (Obj.cells #[.bool ti, .int .i64 ta, .int .i64 tb, .int .i64 tc, .int .i64 td] 199)) w.heap.size k i p n := (HeadAt.fresh w k i p n).later (by go_grown)
  have R : RowAt ((w.alloc (Obj.cells #[Value.int IntKind.i64 k, Value.int IntKind.i64 i, Value.int IntKind.i64 p, Value.int IntKind.i64 n] 30)).alloc (Obj.cells #[.bool ti, .int .i64 ta, .int .i64 tb, .int .i64 tc, .int .i64 td] 199)) (w.heap.size + 1) ti ta tb tc td := by have := RowAt.fresh (w.alloc (Obj.cells #[Value.int IntKind.i64 k, Value.int IntKind.i64 i, Value.int IntKind.i64 p, Value.int IntKind.i64 n] 30)) ti ta tb tc td; simpa using this
  go_enter Tryz.func161, Tryz.ntmps161
  go_wp2_with (first
    | (go_at_call_of 180 (Value.agg #[Value.int IntKind.i64 ta, Value.int IntKind.i64 tb]); refine (has_any p ta tb _).mono ?_; rintro e w1 ⟨rfl, B1⟩; have H1 := H.later B1; have R1 := R.later B1; obtain ⟨x0, x1, x2, x3⟩ := H1; obtain ⟨y0, y1, y2, y3, y4⟩ := R1)
    | (go_at_call_of 180 (Value.agg #[Value.int IntKind.i64 tc, Value.int IntKind.i64 td]); refine (has_any n tc td _).mono ?_; rintro e w2 ⟨rfl, B2⟩; have H2 := (H.later B1).later B2; obtain ⟨x0, x1, x2, x3⟩ := H2))
  go_ret
  exact ⟨rfl, (far2 B1).trans (B2.mono (far2 B1).size)⟩

set_option maxHeartbeats 1000000 in
theorem parts_yes6 (i p n : Int) (w : World) (h : Table w) (a : hasB (tA 6) (tB 6) p = true) (b : hasB (tC 6) (tD 6) n = true) (c : (!((p == 0) == (n == 1))) = false) (hp : 0 ≤ p ∧ p ≤ 4095) (hn : 0 ≤ n ∧ n ≤ 4095) :
    Calls Tryz.prog 161 #[head (6 : Nat) i p n] w fun e w' => e = .returned (.bool (decide (p + n ≤ 4095))) ∧ Below w.heap.size w w' := by
  obtain ⟨k, k6⟩ : ∃ k : Nat, k = 6 := ⟨_, rfl⟩
  have hk : k < 13 := by omega
  rw [← k6] at a b ⊢
  have k6' : (((k : Nat) : Int) == 6) = true := by simp [k6]
  clear k6
  obtain ⟨ti, hti⟩ : ∃ x, tI k = x := ⟨_, rfl⟩
  obtain ⟨ta, hta⟩ : ∃ x, tA k = x := ⟨_, rfl⟩
  obtain ⟨tb, htb⟩ : ∃ x, tB k = x := ⟨_, rfl⟩
  obtain ⟨tc, htc⟩ : ∃ x, tC k = x := ⟨_, rfl⟩
  obtain ⟨td, htd⟩ : ∃ x, tD k = x := ⟨_, rfl⟩
  have hs : Table (w.alloc (Obj.cells #[Value.int IntKind.i64 k, Value.int IntKind.i64 i, Value.int IntKind.i64 p, Value.int IntKind.i64 n] 30)) := h.later (by go_grown)
  have z0 := hs.i k hk
  have z1 := hs.a k hk
  have z2 := hs.b k hk
  have z3 := hs.c k hk
  have z4 := hs.d k hk
  rw [hti] at z0
  rw [hta] at z1 a
  rw [htb] at z2 a
  rw [htc] at z3 b
  rw [htd] at z4 b
  clear hs hti hta htb htc htd
  have H : HeadAt ((w.alloc (Obj.cells #[Value.int IntKind.i64 k, Value.int IntKind.i64 i, Value.int IntKind.i64 p, Value.int IntKind.i64 n] 30)).alloc (Obj.cells #[.bool ti, .int .i64 ta, .int .i64 tb, .int .i64 tc, .int .i64 td] 199)) w.heap.size k i p n := (HeadAt.fresh w k i p n).later (by go_grown)
  have R : RowAt ((w.alloc (Obj.cells #[Value.int IntKind.i64 k, Value.int IntKind.i64 i, Value.int IntKind.i64 p, Value.int IntKind.i64 n] 30)).alloc (Obj.cells #[.bool ti, .int .i64 ta, .int .i64 tb, .int .i64 tc, .int .i64 td] 199)) (w.heap.size + 1) ti ta tb tc td := by have := RowAt.fresh (w.alloc (Obj.cells #[Value.int IntKind.i64 k, Value.int IntKind.i64 i, Value.int IntKind.i64 p, Value.int IntKind.i64 n] 30)) ti ta tb tc td; simpa using this
  go_enter Tryz.func161, Tryz.ntmps161
  go_wp2_with (first
    | (go_at_call_of 180 (Value.agg #[Value.int IntKind.i64 ta, Value.int IntKind.i64 tb]); refine (has_any p ta tb _).mono ?_; rintro e w1 ⟨rfl, B1⟩; have H1 := H.later B1; have R1 := R.later B1; obtain ⟨x0, x1, x2, x3⟩ := H1; obtain ⟨y0, y1, y2, y3, y4⟩ := R1)
    | (go_at_call_of 180 (Value.agg #[Value.int IntKind.i64 tc, Value.int IntKind.i64 td]); refine (has_any n tc td _).mono ?_; rintro e w2 ⟨rfl, B2⟩; have H2 := (H.later B1).later B2; obtain ⟨x0, x1, x2, x3⟩ := H2))
  go_ret
  exact ⟨rfl, (far2 B1).trans (B2.mono (far2 B1).size)⟩

set_option maxHeartbeats 1000000 in
theorem parts_yes (k : Nat) (i p n : Int) (w : World) (h : Table w) (hk : k < 13) (k6 : (((k : Nat) : Int) == 6) = false) (a : hasB (tA k) (tB k) p = true) (b : hasB (tC k) (tD k) n = true) (hp : 0 ≤ p ∧ p ≤ 4095) (hn : 0 ≤ n ∧ n ≤ 4095) :
    Calls Tryz.prog 161 #[head k i p n] w fun e w' => e = .returned (.bool (decide (p + n ≤ 4095))) ∧ Below w.heap.size w w' := by
  obtain ⟨ti, hti⟩ : ∃ x, tI k = x := ⟨_, rfl⟩
  obtain ⟨ta, hta⟩ : ∃ x, tA k = x := ⟨_, rfl⟩
  obtain ⟨tb, htb⟩ : ∃ x, tB k = x := ⟨_, rfl⟩
  obtain ⟨tc, htc⟩ : ∃ x, tC k = x := ⟨_, rfl⟩
  obtain ⟨td, htd⟩ : ∃ x, tD k = x := ⟨_, rfl⟩
  have hs : Table (w.alloc (Obj.cells #[Value.int IntKind.i64 k, Value.int IntKind.i64 i, Value.int IntKind.i64 p, Value.int IntKind.i64 n] 30)) := h.later (by go_grown)
  have z0 := hs.i k hk
  have z1 := hs.a k hk
  have z2 := hs.b k hk
  have z3 := hs.c k hk
  have z4 := hs.d k hk
  rw [hti] at z0
  rw [hta] at z1 a
  rw [htb] at z2 a
  rw [htc] at z3 b
  rw [htd] at z4 b
  clear hs hti hta htb htc htd
  have H : HeadAt ((w.alloc (Obj.cells #[Value.int IntKind.i64 k, Value.int IntKind.i64 i, Value.int IntKind.i64 p, Value.int IntKind.i64 n] 30)).alloc (Obj.cells #[.bool ti, .int .i64 ta, .int .i64 tb, .int .i64 tc, .int .i64 td] 199)) w.heap.size k i p n := (HeadAt.fresh w k i p n).later (by go_grown)
  have R : RowAt ((w.alloc (Obj.cells #[Value.int IntKind.i64 k, Value.int IntKind.i64 i, Value.int IntKind.i64 p, Value.int IntKind.i64 n] 30)).alloc (Obj.cells #[.bool ti, .int .i64 ta, .int .i64 tb, .int .i64 tc, .int .i64 td] 199)) (w.heap.size + 1) ti ta tb tc td := by have := RowAt.fresh (w.alloc (Obj.cells #[Value.int IntKind.i64 k, Value.int IntKind.i64 i, Value.int IntKind.i64 p, Value.int IntKind.i64 n] 30)) ti ta tb tc td; simpa using this
  go_enter Tryz.func161, Tryz.ntmps161
  go_wp2_with (first
    | (go_at_call_of 180 (Value.agg #[Value.int IntKind.i64 ta, Value.int IntKind.i64 tb]); refine (has_any p ta tb _).mono ?_; rintro e w1 ⟨rfl, B1⟩; have H1 := H.later B1; have R1 := R.later B1; obtain ⟨x0, x1, x2, x3⟩ := H1; obtain ⟨y0, y1, y2, y3, y4⟩ := R1)
    | (go_at_call_of 180 (Value.agg #[Value.int IntKind.i64 tc, Value.int IntKind.i64 td]); refine (has_any n tc td _).mono ?_; rintro e w2 ⟨rfl, B2⟩; have H2 := (H.later B1).later B2; obtain ⟨x0, x1, x2, x3⟩ := H2))
  go_ret
  exact ⟨rfl, (far2 B1).trans (B2.mono (far2 B1).size)⟩
end Go.Proofs.YtbdoekffadmejaaGreatDoor.Sh
