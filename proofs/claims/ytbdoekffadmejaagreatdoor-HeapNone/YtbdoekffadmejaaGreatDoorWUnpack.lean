/- The contracts of Unpack and of the document's own Unpack, for whatever word. -/
import Derived.Test.YtbdoekffadmejaaGreatDoorWPack
namespace Go.Proofs.YtbdoekffadmejaaGreatDoor.Wo
open Go.RowKit

/-! ### Plain numbers: a number's next bit -/
theorem nextBit (y : Int) (k : Nat) (h : 0 ≤ y) : y % 2 ^ (k + 1) = y % 2 ^ k + y / 2 ^ k % 2 * 2 ^ k := by
  obtain ⟨n, rfl⟩ := Int.eq_ofNat_of_zero_le h
  have := Nat.mod_mul (x := n) (a := 2 ^ k) (b := 2)
  have e : (n % 2 ^ (k + 1) : Nat) = n % 2 ^ k + n / 2 ^ k % 2 * 2 ^ k := by rw [Nat.pow_succ, this, Nat.mul_comm (2 ^ k)]
  exact_mod_cast e
theorem divPow (x : Int) (f k : Nat) (h : 0 ≤ x) : x / 2 ^ f / 2 ^ k = x / 2 ^ (f + k) := by
  obtain ⟨n, rfl⟩ := Int.eq_ofNat_of_zero_le h
  have e : n / 2 ^ f / 2 ^ k = n / 2 ^ (f + k) := by rw [Nat.div_div_eq_div_mul, Nat.pow_add]
  exact_mod_cast e
theorem powLe (k : Nat) (h : k ≤ 20) : (1 : Int) ≤ 2 ^ k ∧ (2 : Int) ^ k ≤ 1048576 := by
  have a : 2 ^ k ≤ 2 ^ 20 := Nat.pow_le_pow_right (by decide) h
  have b : 0 < 2 ^ k := Nat.pow_pos (by decide)
  have c : ((2 ^ k : Nat) : Int) = (2 : Int) ^ k := by simp
  omega

/-- What the loop of Part holds behind k rounds: the number of k bits, and the next bit's worth. -/
def PartAt (x : Int) (f k : Nat) (n s : Int) : Prop := n = x / 2 ^ f % 2 ^ k ∧ s = 2 ^ k
theorem PartAt.start (x : Int) (f : Nat) : PartAt x f 0 0 1 := ⟨by simp, by simp⟩
theorem PartAt.bd {x : Int} {f k : Nat} {n s : Int} (h : PartAt x f k n s) (hk : k ≤ 20) : 0 ≤ n ∧ n < s ∧ 1 ≤ s ∧ s ≤ 1048576 := by
  obtain ⟨rfl, rfl⟩ := h
  have := powLe k hk
  exact ⟨Int.emod_nonneg _ (by omega), Int.emod_lt_of_pos _ (by omega), this.1, this.2⟩
theorem PartAt.one {x : Int} {f k : Nat} {n s : Int} (h : PartAt x f k n s) (h0 : 0 ≤ x) (hb : x / 2 ^ (f + k) % 2 = 1) : PartAt x f (k + 1) (n + s) (s * 2) := by
  obtain ⟨rfl, rfl⟩ := h
  refine ⟨?_, by rw [Int.pow_succ]⟩
  rw [nextBit _ _ (Int.ediv_nonneg h0 (Int.le_of_lt (Int.pow_pos (by decide)))), divPow _ _ _ h0, hb]; omega
theorem PartAt.zero {x : Int} {f k : Nat} {n s : Int} (h : PartAt x f k n s) (h0 : 0 ≤ x) (hb : x / 2 ^ (f + k) % 2 = 0) : PartAt x f (k + 1) n (s * 2) := by
  obtain ⟨rfl, rfl⟩ := h
  refine ⟨?_, by rw [Int.pow_succ]⟩
  rw [nextBit _ _ (Int.ediv_nonneg h0 (Int.le_of_lt (Int.pow_pos (by decide)))), divPow _ _ _ h0, hb]; omega

/-! ### What a word's fields are -/
def uK (x : Int) : Int := x / 2 % 16
def uI (x : Int) : Int := x / 536870912 % 1048576
def uP (x : Int) : Int := x / 32 % 4096
def uN (x : Int) : Int := x / 131072 % 4096
def uM (x : Int) : Int := x % 2
def uR (x : Int) : Int := x / 562949953421312 % 32768
theorem uK_bd (x : Int) : 0 ≤ uK x ∧ uK x ≤ 15 := by unfold uK; omega
theorem uI_bd (x : Int) : 0 ≤ uI x ∧ uI x ≤ 1048575 := by unfold uI; omega
theorem uP_bd (x : Int) : 0 ≤ uP x ∧ uP x ≤ 4095 := by unfold uP; omega
theorem uN_bd (x : Int) : 0 ≤ uN x ∧ uN x ≤ 4095 := by unfold uN; omega
theorem uM_bd (x : Int) : uM x = 0 ∨ uM x = 1 := by unfold uM; omega

def wordB (x : Int) : Bool := decide (uM x = 1 ∧ uR x = 0 ∧ kindB (uK x) = true)
theorem wordB_yes {x : Int} : wordB x = true ↔ uM x = 1 ∧ uR x = 0 ∧ kindB (uK x) = true := by simp [wordB]
theorem wordB_no {x : Int} : wordB x = false ↔ ¬ (uM x = 1 ∧ uR x = 0 ∧ kindB (uK x) = true) := by rw [← wordB_yes]; simp

theorem gK (x : Int) (w : World) (h : Spans w) (h0 : 0 ≤ x) (h1 : x ≤ 18446744073709551615) : Calls Tryz.prog 154 #[.int .u64 x, .int .i64 1] w fun e w' => e = .returned (.int .i64 (uK x)) ∧ w' = w := get1 x w h h0 h1
theorem gI (x : Int) (w : World) (h : Spans w) (h0 : 0 ≤ x) (h1 : x ≤ 18446744073709551615) : Calls Tryz.prog 154 #[.int .u64 x, .int .i64 4] w fun e w' => e = .returned (.int .i64 (uI x)) ∧ w' = w := get4 x w h h0 h1
theorem gP (x : Int) (w : World) (h : Spans w) (h0 : 0 ≤ x) (h1 : x ≤ 18446744073709551615) : Calls Tryz.prog 154 #[.int .u64 x, .int .i64 2] w fun e w' => e = .returned (.int .i64 (uP x)) ∧ w' = w := get2 x w h h0 h1
theorem gN (x : Int) (w : World) (h : Spans w) (h0 : 0 ≤ x) (h1 : x ≤ 18446744073709551615) : Calls Tryz.prog 154 #[.int .u64 x, .int .i64 3] w fun e w' => e = .returned (.int .i64 (uN x)) ∧ w' = w := get3 x w h h0 h1
theorem gM (x : Int) (w : World) (h : Spans w) (h0 : 0 ≤ x) (h1 : x ≤ 18446744073709551615) : Calls Tryz.prog 154 #[.int .u64 x, .int .i64 0] w fun e w' => e = .returned (.int .i64 (uM x)) ∧ w' = w := get0 x w h h0 h1
theorem gR (x : Int) (w : World) (h : Spans w) (h0 : 0 ≤ x) (h1 : x ≤ 18446744073709551615) : Calls Tryz.prog 154 #[.int .u64 x, .int .i64 5] w fun e w' => e = .returned (.int .i64 (uR x)) ∧ w' = w := get5 x w h h0 h1
set_option maxHeartbeats 2000000 in
theorem unpack_kind (x : Int) (w : World) (h : Spans w) (h0 : 0 ≤ x) (h1 : x ≤ 18446744073709551615) (a : wordB x = false) :
    Calls Tryz.prog 110 #[.int .u64 x] w fun e w' => e = .returned (.tuple #[head 0 0 0 0, .int .i64 6]) ∧ Below w.heap.size w w' := by
  have bP := uP_bd x
  have bN := uN_bd x
  have hn := wordB_no.1 a
  have hm := uM_bd x
  have hs1 : Spans (w.alloc (Obj.cells #[Value.int IntKind.i64 0, Value.int IntKind.i64 0, Value.int IntKind.i64 0, Value.int IntKind.i64 0] 30)) := h.later (by go_grown)
  have hs2 : Spans ((w.alloc (Obj.cells #[Value.int IntKind.i64 0, Value.int IntKind.i64 0, Value.int IntKind.i64 0, Value.int IntKind.i64 0] 30)).alloc (Obj.cells #[Value.int IntKind.i64 (uK x), Value.int IntKind.i64 (uI x), Value.int IntKind.i64 (uP x), Value.int IntKind.i64 (uN x)] 30)) := hs1.later (by go_grown)
  by_cases m : (uM x == 0) = true
  · clear hn hm
    go_enter Tryz.func110, Tryz.ntmps110
    go_wp2_with (first | (go_at_call_of 154 (Value.int IntKind.i64 1); refine (gK _ _ hs1 h0 h1).mono ?_; rintro e w' ⟨rfl, rfl⟩) | (go_at_call_of 154 (Value.int IntKind.i64 4); refine (gI _ _ hs1 h0 h1).mono ?_; rintro e w' ⟨rfl, rfl⟩) | (go_at_call_of 154 (Value.int IntKind.i64 2); refine (gP _ _ hs1 h0 h1).mono ?_; rintro e w' ⟨rfl, rfl⟩) | (go_at_call_of 154 (Value.int IntKind.i64 3); refine (gN _ _ hs1 h0 h1).mono ?_; rintro e w' ⟨rfl, rfl⟩) | (go_at_call_of 154 (Value.int IntKind.i64 0); refine (gM _ _ hs2 h0 h1).mono ?_; rintro e w' ⟨rfl, rfl⟩) | (go_at_call_of 154 (Value.int IntKind.i64 5); refine (gR _ _ hs2 h0 h1).mono ?_; rintro e w' ⟨rfl, rfl⟩) | (go_at_call 155; refine (kind_any _ _).mono ?_; rintro e w' ⟨rfl, rfl⟩) | (go_at_call 156; refine (parts_any _ _ _ (by omega)).mono ?_; rintro e w' ⟨rfl, rfl⟩))
    refine bodyPost_ret (v := .tuple #[head 0 0 0 0, .int .i64 6]) (by simp [results, Tryz.results110, go_sem]) rfl ⟨rfl, ?_⟩
    go_grown
  have m1 : uM x = 1 := by simp at m; omega
  have m2 : (uM x == 0) = false := by simpa using m
  by_cases r : (uR x != 0) = true
  · clear hn hm m m1
    go_enter Tryz.func110, Tryz.ntmps110
    go_wp2_with (first | (go_at_call_of 154 (Value.int IntKind.i64 1); refine (gK _ _ hs1 h0 h1).mono ?_; rintro e w' ⟨rfl, rfl⟩) | (go_at_call_of 154 (Value.int IntKind.i64 4); refine (gI _ _ hs1 h0 h1).mono ?_; rintro e w' ⟨rfl, rfl⟩) | (go_at_call_of 154 (Value.int IntKind.i64 2); refine (gP _ _ hs1 h0 h1).mono ?_; rintro e w' ⟨rfl, rfl⟩) | (go_at_call_of 154 (Value.int IntKind.i64 3); refine (gN _ _ hs1 h0 h1).mono ?_; rintro e w' ⟨rfl, rfl⟩) | (go_at_call_of 154 (Value.int IntKind.i64 0); refine (gM _ _ hs2 h0 h1).mono ?_; rintro e w' ⟨rfl, rfl⟩) | (go_at_call_of 154 (Value.int IntKind.i64 5); refine (gR _ _ hs2 h0 h1).mono ?_; rintro e w' ⟨rfl, rfl⟩) | (go_at_call 155; refine (kind_any _ _).mono ?_; rintro e w' ⟨rfl, rfl⟩) | (go_at_call 156; refine (parts_any _ _ _ (by omega)).mono ?_; rintro e w' ⟨rfl, rfl⟩))
    refine bodyPost_ret (v := .tuple #[head 0 0 0 0, .int .i64 6]) (by simp [results, Tryz.results110, go_sem]) rfl ⟨rfl, ?_⟩
    go_grown
  have r1 : uR x = 0 := by simpa using r
  have r2 : (uR x != 0) = false := by simpa using r
  have k : kindB (uK x) = false := by
    rcases Bool.eq_false_or_eq_true (kindB (uK x)) with e | e
    · exact absurd ⟨m1, r1, e⟩ hn
    · exact e
  clear hn hm m m1 r r1
  go_enter Tryz.func110, Tryz.ntmps110
  go_wp2_with (first | (go_at_call_of 154 (Value.int IntKind.i64 1); refine (gK _ _ hs1 h0 h1).mono ?_; rintro e w' ⟨rfl, rfl⟩) | (go_at_call_of 154 (Value.int IntKind.i64 4); refine (gI _ _ hs1 h0 h1).mono ?_; rintro e w' ⟨rfl, rfl⟩) | (go_at_call_of 154 (Value.int IntKind.i64 2); refine (gP _ _ hs1 h0 h1).mono ?_; rintro e w' ⟨rfl, rfl⟩) | (go_at_call_of 154 (Value.int IntKind.i64 3); refine (gN _ _ hs1 h0 h1).mono ?_; rintro e w' ⟨rfl, rfl⟩) | (go_at_call_of 154 (Value.int IntKind.i64 0); refine (gM _ _ hs2 h0 h1).mono ?_; rintro e w' ⟨rfl, rfl⟩) | (go_at_call_of 154 (Value.int IntKind.i64 5); refine (gR _ _ hs2 h0 h1).mono ?_; rintro e w' ⟨rfl, rfl⟩) | (go_at_call 155; refine (kind_any _ _).mono ?_; rintro e w' ⟨rfl, rfl⟩) | (go_at_call 156; refine (parts_any _ _ _ (by omega)).mono ?_; rintro e w' ⟨rfl, rfl⟩))
  refine bodyPost_ret (v := .tuple #[head 0 0 0 0, .int .i64 6]) (by simp [results, Tryz.results110, go_sem]) rfl ⟨rfl, ?_⟩
  go_grown
set_option maxHeartbeats 2000000 in
theorem unpack_size (x : Int) (w : World) (h : Spans w) (h0 : 0 ≤ x) (h1 : x ≤ 18446744073709551615) (a : wordB x = true) (b : partsB (uP x) (uN x) = false) :
    Calls Tryz.prog 110 #[.int .u64 x] w fun e w' => e = .returned (.tuple #[head 0 0 0 0, .int .i64 7]) ∧ Below w.heap.size w w' := by
  have bP := uP_bd x
  have bN := uN_bd x
  obtain ⟨m1, r1, k⟩ := wordB_yes.1 a
  have m2 : (uM x == 0) = false := by rw [m1]; rfl
  have r2 : (uR x != 0) = false := by rw [r1]; rfl
  clear m1 r1
  have hs1 : Spans (w.alloc (Obj.cells #[Value.int IntKind.i64 0, Value.int IntKind.i64 0, Value.int IntKind.i64 0, Value.int IntKind.i64 0] 30)) := h.later (by go_grown)
  have hs2 : Spans ((w.alloc (Obj.cells #[Value.int IntKind.i64 0, Value.int IntKind.i64 0, Value.int IntKind.i64 0, Value.int IntKind.i64 0] 30)).alloc (Obj.cells #[Value.int IntKind.i64 (uK x), Value.int IntKind.i64 (uI x), Value.int IntKind.i64 (uP x), Value.int IntKind.i64 (uN x)] 30)) := hs1.later (by go_grown)
  go_enter Tryz.func110, Tryz.ntmps110
  go_wp2_with (first | (go_at_call_of 154 (Value.int IntKind.i64 1); refine (gK _ _ hs1 h0 h1).mono ?_; rintro e w' ⟨rfl, rfl⟩) | (go_at_call_of 154 (Value.int IntKind.i64 4); refine (gI _ _ hs1 h0 h1).mono ?_; rintro e w' ⟨rfl, rfl⟩) | (go_at_call_of 154 (Value.int IntKind.i64 2); refine (gP _ _ hs1 h0 h1).mono ?_; rintro e w' ⟨rfl, rfl⟩) | (go_at_call_of 154 (Value.int IntKind.i64 3); refine (gN _ _ hs1 h0 h1).mono ?_; rintro e w' ⟨rfl, rfl⟩) | (go_at_call_of 154 (Value.int IntKind.i64 0); refine (gM _ _ hs2 h0 h1).mono ?_; rintro e w' ⟨rfl, rfl⟩) | (go_at_call_of 154 (Value.int IntKind.i64 5); refine (gR _ _ hs2 h0 h1).mono ?_; rintro e w' ⟨rfl, rfl⟩) | (go_at_call 155; refine (kind_any _ _).mono ?_; rintro e w' ⟨rfl, rfl⟩) | (go_at_call 156; refine (parts_any _ _ _ (by omega)).mono ?_; rintro e w' ⟨rfl, rfl⟩))
  refine bodyPost_ret (v := .tuple #[head 0 0 0 0, .int .i64 7]) (by simp [results, Tryz.results110, go_sem]) rfl ⟨rfl, ?_⟩
  go_grown
set_option maxHeartbeats 2000000 in
theorem unpack_ok (x : Int) (w : World) (h : Spans w) (h0 : 0 ≤ x) (h1 : x ≤ 18446744073709551615) (a : wordB x = true) (b : partsB (uP x) (uN x) = true) :
    Calls Tryz.prog 110 #[.int .u64 x] w fun e w' => e = .returned (.tuple #[head (uK x) (uI x) (uP x) (uN x), .int .i64 0]) ∧ Below w.heap.size w w' := by
  have bP := uP_bd x
  have bN := uN_bd x
  obtain ⟨m1, r1, k⟩ := wordB_yes.1 a
  have m2 : (uM x == 0) = false := by rw [m1]; rfl
  have r2 : (uR x != 0) = false := by rw [r1]; rfl
  clear m1 r1
  have hs1 : Spans (w.alloc (Obj.cells #[Value.int IntKind.i64 0, Value.int IntKind.i64 0, Value.int IntKind.i64 0, Value.int IntKind.i64 0] 30)) := h.later (by go_grown)
  have hs2 : Spans ((w.alloc (Obj.cells #[Value.int IntKind.i64 0, Value.int IntKind.i64 0, Value.int IntKind.i64 0, Value.int IntKind.i64 0] 30)).alloc (Obj.cells #[Value.int IntKind.i64 (uK x), Value.int IntKind.i64 (uI x), Value.int IntKind.i64 (uP x), Value.int IntKind.i64 (uN x)] 30)) := hs1.later (by go_grown)
  go_enter Tryz.func110, Tryz.ntmps110
  go_wp2_with (first | (go_at_call_of 154 (Value.int IntKind.i64 1); refine (gK _ _ hs1 h0 h1).mono ?_; rintro e w' ⟨rfl, rfl⟩) | (go_at_call_of 154 (Value.int IntKind.i64 4); refine (gI _ _ hs1 h0 h1).mono ?_; rintro e w' ⟨rfl, rfl⟩) | (go_at_call_of 154 (Value.int IntKind.i64 2); refine (gP _ _ hs1 h0 h1).mono ?_; rintro e w' ⟨rfl, rfl⟩) | (go_at_call_of 154 (Value.int IntKind.i64 3); refine (gN _ _ hs1 h0 h1).mono ?_; rintro e w' ⟨rfl, rfl⟩) | (go_at_call_of 154 (Value.int IntKind.i64 0); refine (gM _ _ hs2 h0 h1).mono ?_; rintro e w' ⟨rfl, rfl⟩) | (go_at_call_of 154 (Value.int IntKind.i64 5); refine (gR _ _ hs2 h0 h1).mono ?_; rintro e w' ⟨rfl, rfl⟩) | (go_at_call 155; refine (kind_any _ _).mono ?_; rintro e w' ⟨rfl, rfl⟩) | (go_at_call 156; refine (parts_any _ _ _ (by omega)).mono ?_; rintro e w' ⟨rfl, rfl⟩))
  refine bodyPost_ret (v := .tuple #[head (uK x) (uI x) (uP x) (uN x), .int .i64 0]) (by simp [results, Tryz.results110, go_sem]) rfl ⟨rfl, ?_⟩
  go_grown

/-! ### The document's own -/
/-! ### In one -/
def unE (x : Int) : Int := if wordB x = false then 6 else if partsB (uP x) (uN x) = false then 7 else 0
def unK (x : Int) : Int := if unE x = 0 then uK x else 0
def unI (x : Int) : Int := if unE x = 0 then uI x else 0
def unP (x : Int) : Int := if unE x = 0 then uP x else 0
def unN (x : Int) : Int := if unE x = 0 then uN x else 0
theorem unE_kind {x : Int} (a : wordB x = false) : unE x = 6 := by simp [unE, a]
theorem unE_size {x : Int} (a : wordB x = true) (b : partsB (uP x) (uN x) = false) : unE x = 7 := by simp [unE, a, b]
theorem unE_ok {x : Int} (a : wordB x = true) (b : partsB (uP x) (uN x) = true) : unE x = 0 := by simp [unE, a, b]
theorem un_bad {x e : Int} (a : unE x = e) (b : e ≠ 0) : head (unK x) (unI x) (unP x) (unN x) = head 0 0 0 0 := by simp [unK, unI, unP, unN, a, b]
theorem un_ok {x : Int} (a : unE x = 0) : head (unK x) (unI x) (unP x) (unN x) = head (uK x) (uI x) (uP x) (uN x) := by simp [unK, unI, unP, unN, a]
theorem unpack_any (x : Int) (w : World) (h : Spans w) (h0 : 0 ≤ x) (h1 : x ≤ 18446744073709551615) :
    Calls Tryz.prog 110 #[.int .u64 x] w fun e w' => e = .returned (.tuple #[head (unK x) (unI x) (unP x) (unN x), .int .i64 (unE x)]) ∧ Below w.heap.size w w' := by
  rcases Bool.eq_false_or_eq_true (wordB x) with a | a
  · rcases Bool.eq_false_or_eq_true (partsB (uP x) (uN x)) with b | b
    · rw [un_ok (unE_ok a b), unE_ok a b]; exact unpack_ok x w h h0 h1 a b
    · rw [un_bad (unE_size a b) (by decide), unE_size a b]; exact unpack_size x w h h0 h1 a b
  · rw [un_bad (unE_kind a) (by decide), unE_kind a]; exact unpack_kind x w h h0 h1 a
/-! ### There and back -/
theorem of_packE {k i p n : Int} (h : packE k i p n = 0) : (1 ≤ k ∧ k ≤ 12) ∧ (0 ≤ p ∧ 0 ≤ n ∧ p + n ≤ 4095) ∧ 0 ≤ i ∧ i < 1048576 := by
  rcases Bool.eq_false_or_eq_true (kindB k) with a | a
  · rcases Bool.eq_false_or_eq_true (partsB p n) with b | b
    · by_cases c : i < 0 ∨ 1048576 ≤ i
      · rw [packE_arg a b c] at h; exact absurd h (by decide)
      · exact ⟨kindB_yes.1 a, partsB_yes.1 b, by omega, by omega⟩
    · rw [packE_size a b] at h; exact absurd h (by decide)
  · rw [packE_kind a] at h; exact absurd h (by decide)
theorem packed_bd {k i p n : Int} (h : packE k i p n = 0) : 0 ≤ packed k i p n ∧ packed k i p n < 562949953421312 := by
  have := of_packE h
  unfold packed; omega
theorem uM_packed {k i p n : Int} : uM (packed k i p n) = 1 := by unfold uM packed; omega
theorem uK_packed {k i p n : Int} (h : packE k i p n = 0) : uK (packed k i p n) = k := by
  have := of_packE h
  have e : packed k i p n / 2 = k + 16 * (p + 4096 * n + 16777216 * i) := by unfold packed; omega
  unfold uK; rw [e]; omega
theorem uP_packed {k i p n : Int} (h : packE k i p n = 0) : uP (packed k i p n) = p := by
  have := of_packE h
  have e : packed k i p n / 32 = p + 4096 * (n + 4096 * i) := by unfold packed; omega
  unfold uP; rw [e]; omega
theorem uN_packed {k i p n : Int} (h : packE k i p n = 0) : uN (packed k i p n) = n := by
  have := of_packE h
  have e : packed k i p n / 131072 = n + 4096 * i := by unfold packed; omega
  unfold uN; rw [e]; omega
theorem uI_packed {k i p n : Int} (h : packE k i p n = 0) : uI (packed k i p n) = i := by
  have := of_packE h
  have e : packed k i p n / 536870912 = i := by unfold packed; omega
  unfold uI; rw [e]; omega
theorem uR_packed {k i p n : Int} (h : packE k i p n = 0) : uR (packed k i p n) = 0 := by
  have := packed_bd h
  have e : packed k i p n / 562949953421312 = 0 := by omega
  unfold uR; rw [e]; rfl
theorem unE_packed {k i p n : Int} (h : packE k i p n = 0) : unE (packed k i p n) = 0 := by
  have o := of_packE h
  refine unE_ok (wordB_yes.2 ⟨uM_packed, uR_packed h, ?_⟩) ?_
  · rw [uK_packed h]; exact kindB_yes.2 o.1
  · rw [uP_packed h, uN_packed h]; exact partsB_yes.2 o.2.1
/-- A header that is laid is read as itself. -/
theorem back1 {k i p n : Int} (h : packE k i p n = 0) : unE (packW k i p n) = 0 ∧ unK (packW k i p n) = k ∧ unI (packW k i p n) = i ∧ unP (packW k i p n) = p ∧ unN (packW k i p n) = n := by
  have e := unE_packed h
  rw [packW_ok h]
  refine ⟨e, ?_, ?_, ?_, ?_⟩
  · simp [unK, e, uK_packed h]
  · simp [unI, e, uI_packed h]
  · simp [unP, e, uP_packed h]
  · simp [unN, e, uN_packed h]
/-- A word that is read is laid as itself. -/
theorem back2 {x : Int} (h0 : 0 ≤ x) (h1 : x ≤ 18446744073709551615) (h : unE x = 0) : packE (unK x) (unI x) (unP x) (unN x) = 0 ∧ packW (unK x) (unI x) (unP x) (unN x) = x := by
  have a : wordB x = true := by
    rcases Bool.eq_false_or_eq_true (wordB x) with c | c
    · exact c
    · rw [unE_kind c] at h; exact absurd h (by decide)
  have b : partsB (uP x) (uN x) = true := by
    rcases Bool.eq_false_or_eq_true (partsB (uP x) (uN x)) with c | c
    · exact c
    · rw [unE_size a c] at h; exact absurd h (by decide)
  obtain ⟨m, r, k⟩ := wordB_yes.1 a
  have i := uI_bd x
  have e : packE (unK x) (unI x) (unP x) (unN x) = 0 := by
    simp only [unK, unI, unP, unN, h, if_true]
    exact packE_ok k b i.1 (by omega)
  refine ⟨e, ?_⟩
  rw [packW_ok e]
  simp only [unK, unI, unP, unN, h, if_true]
  unfold packed
  unfold uM at m
  unfold uR at r
  unfold uK uI uP uN
  have e1 : x = 1 + 2 * (x / 2) := by omega
  have e2 : x / 2 = x / 2 % 16 + 16 * (x / 32) := by omega
  have e3 : x / 32 = x / 32 % 4096 + 4096 * (x / 131072) := by omega
  have e4 : x / 131072 = x / 131072 % 4096 + 4096 * (x / 536870912) := by omega
  have e5 : x / 536870912 = x / 536870912 % 1048576 + 1048576 * (x / 562949953421312) := by omega
  have e6 : x / 562949953421312 = 0 := by omega
  omega
/-- Unlike headers have unlike words. -/
theorem apart2 {k1 i1 p1 n1 k2 i2 p2 n2 : Int} (h1 : packE k1 i1 p1 n1 = 0) (h2 : packE k2 i2 p2 n2 = 0) (h : packW k1 i1 p1 n1 = packW k2 i2 p2 n2) : k1 = k2 ∧ i1 = i2 ∧ p1 = p2 ∧ n1 = n2 := by
  obtain ⟨_, a1, a2, a3, a4⟩ := back1 h1
  obtain ⟨_, b1, b2, b3, b4⟩ := back1 h2
  rw [h] at a1 a2 a3 a4
  exact ⟨a1.symm.trans b1, a2.symm.trans b2, a3.symm.trans b3, a4.symm.trans b4⟩
end Go.Proofs.YtbdoekffadmejaaGreatDoor.Wo
