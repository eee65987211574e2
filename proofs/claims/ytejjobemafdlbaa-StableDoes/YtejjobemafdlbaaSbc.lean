/- Package stable: the first free slot, the slot of a handle; Make, Get, Free. -/
import Derived.Test.YtejjobemafdlbaaSbb
namespace Go.Proofs.Ytejjobemafdlbaa
open Go.RowKit
set_option linter.unusedVariables false
set_option linter.unusedSimpArgs false

/-- the first free slot, as IndexFunc tells it -/
def lowI (n : Nat) (A : Nat → Int) : Int := if lowF n A < n then (lowF n A : Int) else -1
/-- where the slot of a handle lies -/
def fdP (sb n : Nat) (A T : Nat → Int) (h : Int) : Value := if fd n A T h < n then .pointer (some ⟨sb, fd n A T h * 2, none⟩) else .pointer none
theorem fdP_no {sb n : Nat} {A T : Nat → Int} {h : Int} (e : fd n A T h = n) : fdP sb n A T h = .pointer none ∧ geE n A T h = 60 := by
  simp [fdP, geE, e]
theorem fdP_yes {sb n : Nat} {A T : Nat → Int} {h : Int} {i : Nat} (e : fd n A T h = i) (hi : i < n) : fdP sb n A T h = .pointer (some ⟨sb, i * 2, none⟩) ∧ geE n A T h = 0 := by
  simp [fdP, geE, e, hi]
theorem indexfunc_any {lo : Nat} {w : World} {s sb n : Nat} {b : Int} {A T : Nat → Int} (h : Tb lo w s sb n b A T) :
    Calls Try.prog 28 #[.slice (some ⟨sb, 0, none⟩) n n, .func (.func 29) #[] #[]] w fun e w' => e = .returned (.int .i64 (lowI n A)) ∧ Below w.heap.size w w' := by
  have HH := Hid.mk h
  have le := h.le
  clear h
  go_enter Try.func28, Try.ntmps28
  go_wp2
  go_loopw [8] (fun i wr => ∃ k : Nat, i = .int .i64 k ∧ k ≤ n ∧ Hid (∀ j, j < k → (A j == 0) = false) ∧ Hid (Below w.heap.size w wr)) (fun i _ => n - (intOf i).toNat)
  case atStart => exact ⟨0, rfl, Nat.zero_le _, ⟨fun j hj => absurd hj (Nat.not_lt_zero _)⟩, ⟨Below.refl _ _⟩⟩
  case round =>
    obtain ⟨k, rfl, hk, HP, HB⟩ := hrel
    by_cases hlt : k < n
    · have hlt' : (k : Int) < n := by omega
      have ht := HH.out.later HB.out
      have c0 := ht.c0 k hlt
      have c1 := ht.c1 k hlt
      have FR := free_any wr (A k) (T k)
      clear ht
      cases hz : (A k == 0) with
      | true =>
        rw [hz] at FR
        have e : Hid (lowF n A = k) := ⟨fst_is hlt hz HP.out⟩
        clear hz
        go_wp2_with (go_at_call 29; refine FR.mono ?_; clear FR; rintro e w1 ⟨rfl, B1⟩)
        go_ret
        exact ⟨by rw [lowI, e.out, if_pos hlt]; rfl, HB.out.trans (B1.mono HB.out.size)⟩
      | false =>
        rw [hz] at FR
        go_wp2_with (go_at_call 29; refine FR.mono ?_; clear FR; rintro e w1 ⟨rfl, B1⟩)
        go_roundw
        case rel => exact ⟨k + 1, by go_num, by omega, ⟨fun j hj => (Nat.lt_succ_iff_lt_or_eq.1 hj).elim (HP.out j) (fun e => by rw [e]; exact hz)⟩, ⟨HB.out.trans (B1.mono HB.out.size)⟩⟩
        case measure => simp [intOf]; omega
    · obtain rfl : k = n := by omega
      have e : Hid (lowF k A = k) := ⟨fst_none HP.out⟩
      go_wp2
      go_ret
      exact ⟨by rw [lowI, e.out, if_neg (Nat.lt_irrefl _)]; rfl, HB.out⟩
theorem find_nil (w : World) (h : Int) : Calls Try.prog 31 #[.pointer none, .int .i64 h] w fun e w' => e = .returned (.tuple #[.pointer none, .int .i64 1]) ∧ w' = w := by
  go_enter Try.func31, Try.ntmps31
  go_wp2
  go_ret2
  exact ⟨rfl, rfl⟩
theorem find_any {lo : Nat} {w : World} {s sb n : Nat} {b : Int} {A T : Nat → Int} (h : Tb lo w s sb n b A T) (x : Int) (hx : -9223372036854775808 ≤ x ∧ x ≤ 9223372036854775807) :
    Calls Try.prog 31 #[pv s, .int .i64 x] w fun e w' => e = .returned (.tuple #[fdP sb n A T x, .int .i64 (geE n A T x)]) ∧ Below w.heap.size w w' := by
  have c := h.c
  have le := h.le
  have HH := Hid.mk h
  have HO := Hid.mk h.ok
  clear h
  by_cases h1 : x.tmod 256 < 0
  · obtain ⟨e1, e2⟩ := fdP_no (sb := sb) (fd_out HO.out le.2 (x := x) (.inl h1))
    rw [e1, e2]
    clear e1 e2
    go_enter Try.func31, Try.ntmps31
    go_wp2
    go_ret2
    exact ⟨rfl, Below.refl _ _⟩
  · by_cases h2 : (n : Int) ≤ x.tmod 256
    · obtain ⟨e1, e2⟩ := fdP_no (sb := sb) (fd_out HO.out le.2 (x := x) (.inr h2))
      rw [e1, e2]
      clear e1 e2
      have g : decide (x.tmod 256 ≥ (n : Int)) = true := by simpa using h2
      go_enter Try.func31, Try.ntmps31
      go_wp2
      go_ret2
      exact ⟨rfl, Below.refl _ _⟩
    · obtain ⟨i, hi⟩ : ∃ i : Nat, x.tmod 256 = i := ⟨(x.tmod 256).toNat, by omega⟩
      have hin : i < n := by omega
      have FH := fd_here HO.out le.2 hin hi
      have c0 := HH.out.c0 i hin
      have c1 := HH.out.c1 i hin
      have FR := free_any w (A i) (T i)
      have n1 : ¬ x.tmod 256 < 0 := h1
      have n2 : ¬ (x.tmod 256 ≥ (n : Int)) := by omega
      by_cases h3 : T i = x.tdiv 256
      · have n3 : (T i != x.tdiv 256) = false := by simp [h3]
        cases hz : (A i == 0) with
        | true =>
          rw [hz] at FR
          rw [if_neg (fun q => q.1 (by simpa using hz))] at FH
          obtain ⟨e1, e2⟩ := fdP_no (sb := sb) FH
          rw [e1, e2]
          clear e1 e2
          clear FH hz h3
          go_enter Try.func31, Try.ntmps31
          go_wp2_with (go_at_call 29; refine FR.mono ?_; clear FR; rintro e w1 ⟨rfl, B1⟩)
          go_ret2
          exact ⟨rfl, B1⟩
        | false =>
          rw [hz] at FR
          rw [if_pos ⟨by simpa using hz, h3⟩] at FH
          obtain ⟨e1, e2⟩ := fdP_yes (sb := sb) FH hin
          rw [e1, e2]
          clear e1 e2
          clear FH hz h3
          go_enter Try.func31, Try.ntmps31
          go_wp2_with (go_at_call 29; refine FR.mono ?_; clear FR; rintro e w1 ⟨rfl, B1⟩)
          go_ret2
          exact ⟨rfl, B1⟩
      · have n3 : (T i != x.tdiv 256) = true := by simp [h3]
        rw [if_neg (fun q => h3 q.2)] at FH
        obtain ⟨e1, e2⟩ := fdP_no (sb := sb) FH
        rw [e1, e2]
        clear e1 e2
        clear FH h3 FR
        go_enter Try.func31, Try.ntmps31
        go_wp2
        go_ret2
        exact ⟨rfl, Below.refl _ _⟩
end Go.Proofs.Ytejjobemafdlbaa
