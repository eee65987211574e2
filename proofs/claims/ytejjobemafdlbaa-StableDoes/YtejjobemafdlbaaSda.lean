/- The document's table: New, Handle, which slot a handle is of, Get. -/
import Derived.Test.YtejjobemafdlbaaSbj
import Derived.Deep.RegionHeld3
namespace Go.Proofs.Ytejjobemafdlbaa
open Go.RowKit
set_option linter.unusedVariables false
set_option linter.unusedSimpArgs false

structure Rt (lo : Nat) (w : World) (x ab fb n : Nat) (b : Int) (A T : Nat → Int) : Prop where
  box : w.heap[x]? = some (.cells #[.slice (some ⟨ab, 0, none⟩) n n, .slice (some ⟨fb, 0, none⟩) n n] 41 (0, 0))
  at' : ∃ cur, w.heap[ab]? = some (.cells cur 3 (0, 0)) ∧ ∀ i, i < n → cur[i]? = some (.int .i64 (A i))
  fr : ∃ cur, w.heap[fb]? = some (.cells cur 3 (0, 0)) ∧ ∀ i, i < n → cur[i]? = some (.int .i64 (T i - 1))
  ne : ab ≠ fb
  ok : Okt n b A T
  le : 1 ≤ n ∧ n ≤ 256
  lo : lo ≤ x ∧ lo ≤ ab ∧ lo ≤ fb
section
variable {lo : Nat} {w w' : World} {x ab fb n : Nat} {b : Int} {A T : Nat → Int}
theorem Rt.c (h : Rt lo w x ab fb n b A T) : w.cell? ⟨x, 0, none⟩ = some (.slice (some ⟨ab, 0, none⟩) n n) ∧ w.cell? ⟨x, 1, none⟩ = some (.slice (some ⟨fb, 0, none⟩) n n) := by
  rw [Joins.cell_of_block h.box, Joins.cell_of_block h.box]; exact ⟨rfl, rfl⟩
theorem Rt.c0 (h : Rt lo w x ab fb n b A T) (i : Nat) (hi : i < n) : w.cell? ⟨ab, i, none⟩ = some (.int .i64 (A i)) := by
  obtain ⟨cur, h1, h2⟩ := h.at'
  rw [Joins.cell_of_block h1]; exact h2 i hi
theorem Rt.c1 (h : Rt lo w x ab fb n b A T) (i : Nat) (hi : i < n) : w.cell? ⟨fb, i, none⟩ = some (.int .i64 (T i - 1)) := by
  obtain ⟨cur, h1, h2⟩ := h.fr
  rw [Joins.cell_of_block h1]; exact h2 i hi
theorem Rt.z0 (h : Rt lo w x ab fb n b A T) (i : Nat) : w.frozen? ⟨ab, i, none⟩ = false := by
  obtain ⟨cur, h1, h2⟩ := h.at'
  exact Joins.unfrozen_of_block h1 i
theorem Rt.z1 (h : Rt lo w x ab fb n b A T) (i : Nat) : w.frozen? ⟨fb, i, none⟩ = false := by
  obtain ⟨cur, h1, h2⟩ := h.fr
  exact Joins.unfrozen_of_block h1 i
theorem Rt.nx (h : Rt lo w x ab fb n b A T) : x ≠ ab ∧ x ≠ fb := by
  obtain ⟨cur, h1, _⟩ := h.at'
  obtain ⟨cur', h3, _⟩ := h.fr
  exact ⟨ne_kind h.box h1 (by decide), ne_kind h.box h3 (by decide)⟩
theorem Rt.lt (h : Rt lo w x ab fb n b A T) : x < w.heap.size ∧ ab < w.heap.size ∧ fb < w.heap.size := by
  obtain ⟨cur, h1, _⟩ := h.at'
  obtain ⟨cur', h3, _⟩ := h.fr
  exact ⟨(Array.getElem?_eq_some_iff.1 h.box).1, (Array.getElem?_eq_some_iff.1 h1).1, (Array.getElem?_eq_some_iff.1 h3).1⟩
theorem Rt.blocks (h : Rt lo w x ab fb n b A T) (h1 : w'.heap[x]? = w.heap[x]?) (h2 : w'.heap[ab]? = w.heap[ab]?) (h3 : w'.heap[fb]? = w.heap[fb]?) : Rt lo w' x ab fb n b A T := by
  obtain ⟨c1, r1, r2⟩ := h.at'
  obtain ⟨c2, r3, r4⟩ := h.fr
  exact ⟨h1.trans h.box, ⟨c1, h2.trans r1, r2⟩, ⟨c2, h3.trans r3, r4⟩, h.ne, h.ok, h.le, h.lo⟩
theorem Rt.later (h : Rt lo w x ab fb n b A T) (B : Below w.heap.size w w') : Rt lo w' x ab fb n b A T :=
  h.blocks (B.block _ h.lt.1) (B.block _ h.lt.2.1) (B.block _ h.lt.2.2)
theorem Rt.old {m : Nat} (h : Rt lo w x ab fb n b A T) (B : Below m w w') (hm : x < m ∧ ab < m ∧ fb < m) : Rt lo w' x ab fb n b A T :=
  h.blocks (B.block _ hm.1) (B.block _ hm.2.1) (B.block _ hm.2.2)
theorem Rt.up (h : Rt lo w x ab fb n b A T) {c : Int} (hc : b ≤ c) : Rt lo w x ab fb n c A T := ⟨h.box, h.at', h.fr, h.ne, h.ok.mono hc, h.le, h.lo⟩
/-- what another table's calls leave -/
theorem Rt.kx {sb : Nat} {o : Array Value} (h : Rt lo w x ab fb n b A T) (K : Kx sb sb w w') (hs : w.heap[sb]? = some (.cells o 53 (0, 0))) : Rt lo w' x ab fb n b A T := by
  obtain ⟨c1, r1, r2⟩ := h.at'
  obtain ⟨c2, r3, r4⟩ := h.fr
  have n1 := ne_kind h.box hs (by decide)
  have n2 := ne_kind r1 hs (by decide)
  have n3 := ne_kind r3 hs (by decide)
  exact h.blocks (K.block _ h.lt.1 n1 n1) (K.block _ h.lt.2.1 n2 n2) (K.block _ h.lt.2.2 n3 n3)
theorem Rt.setA (h : Rt lo w x ab fb n b A T) {i : Nat} (hi : i < n) (v : Int) (c : Int) (hok : Okt n c (upd A i v) T) : Rt lo (w.setCell ⟨ab, i, none⟩ (.int .i64 v)) x ab fb n c (upd A i v) T := by
  obtain ⟨c1, r1, r2⟩ := h.at'
  obtain ⟨c2, r3, r4⟩ := h.fr
  refine ⟨?_, ⟨_, Joins.block_setCell r1 _, fun j hj => ?_⟩, ⟨c2, ?_, r4⟩, h.ne, hok, h.le, h.lo⟩
  · rw [Below.heap_setCell _ _ _ _ h.nx.1]; exact h.box
  · have sz := (Array.getElem?_eq_some_iff.1 (r2 i hi)).1
    simp only [Array.getElem?_setIfInBounds]
    by_cases e : j = i
    · subst e; rw [upd_at]; simp [sz]
    · rw [upd_far _ _ _ e, if_neg (by omega)]; exact r2 j hj
  · rw [Below.heap_setCell _ _ _ _ h.ne.symm]; exact r3
theorem Rt.setT (h : Rt lo w x ab fb n b A T) {i : Nat} (hi : i < n) (v : Int) (c : Int) (hok : Okt n c A (upd T i v)) : Rt lo (w.setCell ⟨fb, i, none⟩ (.int .i64 (v - 1))) x ab fb n c A (upd T i v) := by
  obtain ⟨c1, r1, r2⟩ := h.at'
  obtain ⟨c2, r3, r4⟩ := h.fr
  refine ⟨?_, ⟨c1, ?_, r2⟩, ⟨_, Joins.block_setCell r3 _, fun j hj => ?_⟩, h.ne, hok, h.le, h.lo⟩
  · rw [Below.heap_setCell _ _ _ _ h.nx.2]; exact h.box
  · rw [Below.heap_setCell _ _ _ _ h.ne]; exact r1
  · have sz := (Array.getElem?_eq_some_iff.1 (r4 i hi)).1
    simp only [Array.getElem?_setIfInBounds]
    by_cases e : j = i
    · subst e; rw [upd_at]; simp [sz]
    · rw [upd_far _ _ _ e, if_neg (by omega)]; exact r4 j hj
end
theorem rhandle_any {lo : Nat} {w : World} {x ab fb n : Nat} {b : Int} {A T : Nat → Int} (h : Rt lo w x ab fb n b A T) (hb : b ≤ 1000000) (i : Nat) (hi : i < n) :
    Calls Try.prog 30 #[pv x, .int .i64 (i : Int)] w fun e w' => e = .returned (.int .i64 (hnd T i)) ∧ w' = w := by
  have c := h.c.2
  have c1 := h.c1 i hi
  have ok := h.ok i hi
  have le := h.le
  have e1 : hnd T i = 256 * (T i - 1 + 1) + i := by unfold hnd; omega
  obtain ⟨t, ht0⟩ : ∃ t, T i - 1 = t := ⟨_, rfl⟩
  have hi' : (i : Int) < n := by omega
  have ht : 0 ≤ t ∧ t ≤ 1000000 := by omega
  rw [e1]
  rw [ht0] at c1 ⊢
  clear e1 h ok ht0
  go_enter Try.func30, Try.ntmps30
  go_wp2
  go_ret
  exact ⟨rfl, rfl⟩
/-- the slot of a handle, as the document's find tells it -/
def fdI (n : Nat) (A T : Nat → Int) (h : Int) : Int := if fd n A T h < n then (fd n A T h : Int) else -1
set_option maxHeartbeats 1000000 in
theorem rfind_any {lo : Nat} {w : World} {x ab fb n : Nat} {b : Int} {A T : Nat → Int} (h : Rt lo w x ab fb n b A T) (hb : b ≤ 1000000) (y : Int) :
    Calls Try.prog 32 #[pv x, .int .i64 y] w fun e w' => e = .returned (.int .i64 (fdI n A T y)) ∧ w' = w := by
  have c := h.c.1
  have le := h.le
  have HH := Hid.mk h
  have RH := Hid.mk (fun i hi => rhandle_any h hb i hi)
  clear h
  go_enter Try.func32, Try.ntmps32
  go_wp2
  go_loop [5] (fun i => ∃ k : Nat, i = .int .i64 k ∧ k ≤ n ∧ Hid (∀ j, j < k → (!(A j == 0) && (hnd T j == y)) = false)) (fun i => n - (intOf i).toNat)
  case atStart => exact ⟨0, rfl, Nat.zero_le _, ⟨fun j hj => absurd hj (Nat.not_lt_zero _)⟩⟩
  case round =>
    obtain ⟨k, rfl, hk, HP⟩ := hrel
    by_cases hlt : k < n
    · have hlt' : (k : Int) < n := by omega
      have c0 := HH.out.c0 k hlt
      have ok := HH.out.ok k hlt
      have RK := RH.out k hlt
      obtain ⟨a, ha⟩ : ∃ a, A k = a := ⟨_, rfl⟩
      obtain ⟨u, hu⟩ : ∃ u, hnd T k = u := ⟨_, rfl⟩
      rw [ha] at c0 ok
      rw [hu] at RK
      have HAU : Hid (A k = a ∧ hnd T k = u) := ⟨ha, hu⟩
      clear ha hu
      by_cases h0 : a > 0
      · cases hz : (u == y) with
        | true =>
          have e : Hid (fd n A T y = k) := ⟨fst_is hlt (by rw [HAU.out.1, HAU.out.2, hz]; simp; omega) HP.out⟩
          go_wp2_with (go_at_call 30; refine RK.mono ?_; clear RK; rintro e w1 ⟨rfl, hw⟩; rw [hw]; clear hw)
          go_ret
          exact ⟨by rw [fdI, e.out, if_pos hlt]; rfl, rfl⟩
        | false =>
          have HN : Hid (∀ j, j < k + 1 → (!(A j == 0) && (hnd T j == y)) = false) := ⟨fun j hj => (Nat.lt_succ_iff_lt_or_eq.1 hj).elim (HP.out j) (fun e => by rw [e, HAU.out.2, hz]; simp)⟩
          go_wp2_with (go_at_call 30; refine RK.mono ?_; clear RK; rintro e w1 ⟨rfl, hw⟩; rw [hw]; clear hw)
          go_round
          case rel => exact ⟨k + 1, by go_num, by omega, HN⟩
          case measure => simp [intOf]; omega
      · have HN : Hid (∀ j, j < k + 1 → (!(A j == 0) && (hnd T j == y)) = false) := ⟨fun j hj => (Nat.lt_succ_iff_lt_or_eq.1 hj).elim (HP.out j) (fun e => by rw [e, HAU.out.1, show a = 0 by omega]; simp)⟩
        go_wp2
        go_round
        case rel => exact ⟨k + 1, by go_num, by omega, HN⟩
        case measure => simp [intOf]; omega
    · obtain rfl : k = n := by omega
      have e : Hid (fd k A T y = k) := ⟨fst_none HP.out⟩
      go_wp2
      go_ret
      exact ⟨by rw [fdI, e.out, if_neg (Nat.lt_irrefl _)]; rfl, rfl⟩
theorem rget_any {lo : Nat} {w : World} {x ab fb n : Nat} {b : Int} {A T : Nat → Int} (h : Rt lo w x ab fb n b A T) (hb : b ≤ 1000000) (y : Int) :
    Calls Try.prog 16 #[pv x, .int .i64 y] w fun e w' => e = .returned (.tuple #[.int .i64 (geV n A T y), .int .i64 (geE n A T y)]) ∧ w' = w := by
  have FA := rfind_any h hb y
  have c := h.c.1
  by_cases hf : fd n A T y < n
  · obtain ⟨i, hi⟩ : ∃ i, fd n A T y = i := ⟨_, rfl⟩
    rw [hi] at hf
    have c0 := h.c0 i hf
    have e1 : fdI n A T y = i := by simp [fdI, hi, hf]
    have e2 : geV n A T y = A i := by simp [geV, hi, hf]
    have e3 : geE n A T y = 0 := by simp [geE, hi, hf]
    rw [e1] at FA
    rw [e2, e3]
    have hi' : (i : Int) < n := by omega
    clear e1 e2 e3 hi h
    go_enter Try.func16, Try.ntmps16
    go_wp2_with (go_at_call 32; refine FA.mono ?_; clear FA; rintro e w1 ⟨rfl, hw⟩; rw [hw]; clear hw)
    go_ret2
    exact ⟨rfl, rfl⟩
  · have e1 : fdI n A T y = -1 := by simp [fdI, hf]
    have e2 : geV n A T y = 0 := by simp [geV, hf]
    have e3 : geE n A T y = 60 := by simp [geE, hf]
    rw [e1] at FA
    rw [e2, e3]
    clear e1 e2 e3 hf h
    go_enter Try.func16, Try.ntmps16
    go_wp2_with (go_at_call 32; refine FA.mono ?_; clear FA; rintro e w1 ⟨rfl, hw⟩; rw [hw]; clear hw)
    go_ret2
    exact ⟨rfl, rfl⟩
end Go.Proofs.Ytejjobemafdlbaa
