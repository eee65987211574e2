/- The contracts of Move and Clear for whatever arguments, of every call at a nil arena, of the statements' own helpers awake and filled. -/
import Derived.Test.YtldcjbdhcciieaaDoing
namespace Go.Proofs.Ytldcjbdhcciieaa
open Go.RowKit
set_option linter.unusedVariables false

theorem within_nat {n : Nat} {i k : Int} (hk : 0 ≤ k) (h : within n i k = true) : ∃ a c : Nat, i = a ∧ k = c ∧ a + c ≤ n := by
  simp only [within, decide_eq_true_eq] at h
  exact ⟨i.toNat, k.toNat, by omega, by omega, by omega⟩

set_option maxHeartbeats 1000000 in
theorem move_any {w : World} {p b : Nat} {xs : List Int} (h : Has 52 w p b xs) (t f k : Int) (ht : t ≤ 9223372036854775807) (hf : f ≤ 9223372036854775807) :
    Calls Try.prog 16 #[.pointer (some ⟨p, 0, none⟩), .int .i64 t, .int .i64 f, .int .i64 k] w fun e w' => e = .returned (.int .i64 (moveE xs.length t f k)) ∧ Has 52 w' p b (moveL xs t f k) ∧ w.grownBy w' (some b) := by
  by_cases h0 : k < 0
  · have e : moveE xs.length t f k = 7 := by simp [moveE, h0]
    have e' : moveL xs t f k = xs := by simp [moveL, e]
    rw [e, e']
    have ct := count_any (w := w) (p := p) k
    rw [if_pos h0] at ct
    go_enter Try.func16, Try.ntmps16
    go_wp2_with (go_at_call 24; refine ct.mono ?_; rintro e w1 ⟨rfl, hw⟩; rw [hw]; clear hw)
    go_ret
    exact ⟨rfl, h, grown_refl _ _⟩
  · by_cases h1 : within xs.length t k = true ∧ within xs.length f k = true
    · have e : moveE xs.length t f k = 0 := by simp [moveE, h0, h1]
      have e' : moveL xs t f k = splice xs t.toNat ((xs.drop f.toNat).take k.toNat) := by simp only [moveL, e, if_true]
      rw [e, e']
      obtain ⟨t', k', rfl, rfl, ht'⟩ := within_nat (by omega) h1.1
      obtain ⟨f', kk, rfl, hk', hf'⟩ := within_nat (by omega) h1.2
      obtain rfl : k' = kk := by omega
      simp only [Int.toNat_natCast]
      by_cases hk : 0 < k'
      · exact move_in h t' f' k' ht' hf' hk
      · obtain rfl : k' = 0 := by omega
        rw [show splice xs t' (List.take 0 (List.drop f' xs)) = xs by simp [splice]]
        exact move_none h t' f' (by omega) (by omega)
    · have e : moveE xs.length t f k = 4 := by unfold moveE; rw [if_neg h0, if_neg h1]
      have e' : moveL xs t f k = xs := by simp [moveL, e]
      rw [e, e']
      have ct := count_any (w := w) (p := p) k
      rw [if_neg h0] at ct
      have at1 := has_any h t k ht
      have at2 := has_any h f k hf
      cases h2 : within xs.length t k
      · rw [h2] at at1
        clear h1 e e' at2
        go_enter Try.func16, Try.ntmps16
        go_wp2_with (first | (go_at_call 24; refine ct.mono ?_; rintro e w1 ⟨rfl, hw⟩; rw [hw]; clear hw) | (go_at_call 25; refine at1.mono ?_; rintro e w1 ⟨rfl, hw⟩; rw [hw]; clear hw))
        go_ret
        exact ⟨rfl, h, grown_refl _ _⟩
      · have h3 : within xs.length f k = false := by
          cases h4 : within xs.length f k
          · rfl
          · exact absurd ⟨h2, h4⟩ h1
        rw [h2] at at1
        rw [h3] at at2
        clear h1 e e'
        by_cases htf : t = f
        · subst htf; rw [h2] at h3; cases h3
        clear h2 h3
        go_enter Try.func16, Try.ntmps16
        go_wp2_with (first | (go_at_call 24; refine ct.mono ?_; rintro e w1 ⟨rfl, hw⟩; rw [hw]; clear hw) | (go_at_call_of 25 (Value.int IntKind.i64 t); refine at1.mono ?_; rintro e w1 ⟨rfl, hw⟩; rw [hw]; clear hw) | (go_at_call_of 25 (Value.int IntKind.i64 f); refine at2.mono ?_; rintro e w1 ⟨rfl, hw⟩; rw [hw]; clear hw))
        go_ret
        exact ⟨rfl, h, grown_refl _ _⟩

/-! ### Clear -/
theorem zero32 (w : World) : (zeroValue 32).run Try.prog w = .ok (.int .u64 0) w := by kernel_rfl
theorem row_zero (k : Nat) : row (List.replicate k 0) = List.replicate k (.int .u64 0) := by simp [row]

set_option maxHeartbeats 1000000 in
theorem clear_in {w : World} {p b : Nat} {xs : List Int} (h : Has 52 w p b xs) (f k : Nat) (hf : f + k ≤ xs.length) (hk : 0 < k) :
    Calls Try.prog 17 #[.pointer (some ⟨p, 0, none⟩), .int .i64 f, .int .i64 k] w fun e w' => e = .returned (.int .i64 0) ∧ Has 52 w' p b (splice xs f (List.replicate k 0)) ∧ w.grownBy w' (some b) := by
  have c := h.cell
  have l := h.len
  have wf : within xs.length f k = true := by simp [within]; omega
  have ct := count_any (w := w) (p := p) (k : Int)
  rw [if_neg (by omega)] at ct
  have at2 := has_any h f k (by omega)
  rw [wf] at at2
  have hcl : ∀ ty, (Builtin.clear_ #[36] ty #[.slice (some ⟨b, f, none⟩) k (xs.length - f)]).run Try.prog w = .ok (.tuple #[]) (w.setCells b f (List.replicate k (.int .u64 0))) :=
    fun ty => Lib.run_clear_slice w 36 32 ty (.int .u64 0) Try.underlying36 zero32 rfl rfl b f k _ hk (fun j hj => by rw [h.word (f + j) (by omega)]; rfl) (fun j hj => h.free (f + j))
  have R := setCells_row w b (row (List.replicate k 0)) f (row xs) 32 h.words (by rw [row_length, row_length]; simpa using hf)
  have R2 : Has 52 (w.setCells b f (List.replicate k (.int .u64 0))) p b (splice xs f (List.replicate k 0)) := by
    have := h.spliced (o := f) (ys := List.replicate k 0) (by simpa using hf) R.1 R.2
    rwa [row_zero] at this
  have R3 : w.grownBy (w.setCells b f (List.replicate k (.int .u64 0))) (some b) := by have := R.2; rwa [row_zero] at this
  obtain ⟨w2, hw2⟩ : ∃ w2, w.setCells b f (List.replicate k (.int .u64 0)) = w2 := ⟨_, rfl⟩
  rw [hw2] at R2 R3
  simp only [hw2] at hcl
  clear R hw2
  have n4 : (f : Int) + k ≤ xs.length := by omega
  have n6 : ¬ (xs.length = f) := by omega
  have n8 : (0 : Int) ≤ (f : Int) + k := by omega
  have q4 : ((f : Int) + k).toNat = f + k := by omega
  go_enter Try.func17, Try.ntmps17
  go_wp2_with (first | (go_at_call 24; refine ct.mono ?_; rintro e w1 ⟨rfl, hw⟩; rw [hw]; clear hw) | (go_at_call 25; refine at2.mono ?_; rintro e w1 ⟨rfl, hw⟩; rw [hw]; clear hw))
  go_ret
  exact ⟨rfl, R2, R3⟩

set_option maxHeartbeats 1000000 in
theorem clear_none {w : World} {p b : Nat} {xs : List Int} (H0 : Has 52 w p b xs) (f : Nat) (hf : f ≤ xs.length) :
    Calls Try.prog 17 #[.pointer (some ⟨p, 0, none⟩), .int .i64 f, .int .i64 0] w fun e w' => e = .returned (.int .i64 0) ∧ Has 52 w' p b xs ∧ w.grownBy w' (some b) := by
  have c := H0.cell
  have l := H0.len
  have wf : within xs.length f 0 = true := by simp [within]; omega
  have ct := count_any (w := w) (p := p) (0 : Int)
  rw [if_neg (by omega)] at ct
  have at2 := has_any H0 f 0 (by omega)
  rw [wf] at at2
  have hcl : ∀ ty A n, (Builtin.clear_ #[36] ty #[.slice A 0 n]).run Try.prog w = .ok (.tuple #[]) w := fun ty A n => by
    cases A <;> simp [Builtin.clear_, run_underlying Try.underlying36]
  go_enter Try.func17, Try.ntmps17
  go_wp2_with (first | (go_at_call 24; refine ct.mono ?_; rintro e w1 ⟨rfl, hw⟩; rw [hw]; clear hw) | (go_at_call 25; refine at2.mono ?_; rintro e w1 ⟨rfl, hw⟩; rw [hw]; clear hw))
  all_goals (go_ret; exact ⟨rfl, H0, grown_refl _ _⟩)

theorem clear_any {w : World} {p b : Nat} {xs : List Int} (h : Has 52 w p b xs) (f k : Int) (hf : f ≤ 9223372036854775807) :
    Calls Try.prog 17 #[.pointer (some ⟨p, 0, none⟩), .int .i64 f, .int .i64 k] w fun e w' => e = .returned (.int .i64 (clearE xs.length f k)) ∧ Has 52 w' p b (clearL xs f k) ∧ w.grownBy w' (some b) := by
  by_cases h0 : k < 0
  · have e : clearE xs.length f k = 7 := by simp [clearE, h0]
    have e' : clearL xs f k = xs := by simp [clearL, e]
    rw [e, e']
    have ct := count_any (w := w) (p := p) k
    rw [if_pos h0] at ct
    go_enter Try.func17, Try.ntmps17
    go_wp2_with (go_at_call 24; refine ct.mono ?_; rintro e w1 ⟨rfl, hw⟩; rw [hw]; clear hw)
    go_ret
    exact ⟨rfl, h, grown_refl _ _⟩
  · by_cases h1 : within xs.length f k = true
    · have e : clearE xs.length f k = 0 := by simp [clearE, h0, h1]
      have e' : clearL xs f k = splice xs f.toNat (List.replicate k.toNat 0) := by simp only [clearL, e, if_true]
      rw [e, e']
      obtain ⟨f', k', rfl, rfl, hf'⟩ := within_nat (by omega) h1
      simp only [Int.toNat_natCast]
      by_cases hk : 0 < k'
      · exact clear_in h f' k' hf' hk
      · obtain rfl : k' = 0 := by omega
        rw [show splice xs f' (List.replicate 0 0) = xs by simp [splice]]
        exact clear_none h f' (by omega)
    · have e : clearE xs.length f k = 4 := by unfold clearE; rw [if_neg h0, if_neg h1]
      have e' : clearL xs f k = xs := by simp [clearL, e]
      rw [e, e']
      have ct := count_any (w := w) (p := p) k
      rw [if_neg h0] at ct
      have at2 := has_any h f k hf
      have h3 : within xs.length f k = false := by simpa using h1
      rw [h3] at at2
      clear h1 e e' h3
      go_enter Try.func17, Try.ntmps17
      go_wp2_with (first | (go_at_call 24; refine ct.mono ?_; rintro e w1 ⟨rfl, hw⟩; rw [hw]; clear hw) | (go_at_call 25; refine at2.mono ?_; rintro e w1 ⟨rfl, hw⟩; rw [hw]; clear hw))
      go_ret
      exact ⟨rfl, h, grown_refl _ _⟩

/-! ### A nil arena -/
theorem nil_place (w : World) (i : Int) : Calls Try.prog 23 #[.pointer none, .int .i64 i] w fun e w' => e = .returned (.int .i64 1) ∧ w' = w := by
  go_enter Try.func23, Try.ntmps23
  go_wp2
  go_ret
  exact ⟨rfl, rfl⟩
theorem nil_count (w : World) (k : Int) : Calls Try.prog 24 #[.pointer none, .int .i64 k] w fun e w' => e = .returned (.int .i64 1) ∧ w' = w := by
  go_enter Try.func24, Try.ntmps24
  go_wp2
  go_ret
  exact ⟨rfl, rfl⟩
theorem nil_len (w : World) : Calls Try.prog 18 #[.pointer none] w fun e w' => e = .returned (.int .i64 0) ∧ w' = w := by
  go_enter Try.func18, Try.ntmps18
  go_wp2
  go_ret
  exact ⟨rfl, rfl⟩
theorem nil_read (w : World) (i : Int) : Calls Try.prog 15 #[.pointer none, .int .i64 i] w fun e w' => e = .returned (.tuple #[.int .u64 0, .int .i64 1]) ∧ w' = w := by
  go_enter Try.func15, Try.ntmps15
  go_wp2_with (go_at_call 23; refine (nil_place w i).mono ?_; rintro e w1 ⟨rfl, hw⟩; rw [hw]; clear hw)
  go_ret2
  exact ⟨rfl, rfl⟩
theorem nil_write (w : World) (i v : Int) : Calls Try.prog 14 #[.pointer none, .int .i64 i, .int .u64 v] w fun e w' => e = .returned (.int .i64 1) ∧ w' = w := by
  go_enter Try.func14, Try.ntmps14
  go_wp2_with (go_at_call 23; refine (nil_place w i).mono ?_; rintro e w1 ⟨rfl, hw⟩; rw [hw]; clear hw)
  go_ret
  exact ⟨rfl, rfl⟩
theorem nil_move (w : World) (t f k : Int) : Calls Try.prog 16 #[.pointer none, .int .i64 t, .int .i64 f, .int .i64 k] w fun e w' => e = .returned (.int .i64 1) ∧ w' = w := by
  go_enter Try.func16, Try.ntmps16
  go_wp2_with (go_at_call 24; refine (nil_count w k).mono ?_; rintro e w1 ⟨rfl, hw⟩; rw [hw]; clear hw)
  go_ret
  exact ⟨rfl, rfl⟩
theorem nil_clear (w : World) (f k : Int) : Calls Try.prog 17 #[.pointer none, .int .i64 f, .int .i64 k] w fun e w' => e = .returned (.int .i64 1) ∧ w' = w := by
  go_enter Try.func17, Try.ntmps17
  go_wp2_with (go_at_call 24; refine (nil_count w k).mono ?_; rintro e w1 ⟨rfl, hw⟩; rw [hw]; clear hw)
  go_ret
  exact ⟨rfl, rfl⟩

/-! ### awake -/
theorem below_grown {w w' wx : World} {g : Nat} (h : Below w.heap.size w w') (hg : w'.grownBy wx (some g)) (hr : w.heap.size ≤ g) : Below w.heap.size w wx :=
  h.grown hg h.size (fun k hk => by cases hk; exact hr)
set_option maxHeartbeats 1000000 in
theorem awake_any (w : World) : Calls Try.prog 10 #[] w fun e w' => e = .returned (.bool true) ∧ Below w.heap.size w w' := by
  have a1 : atE 4 1 = 0 := by decide
  have a2 : writeL [0, 0, 0, 0] 1 7 = [0, 7, 0, 0] := by decide
  have a3 : moveE 4 2 0 2 = 0 := by decide
  have a4 : moveL [0, 7, 0, 0] 2 0 2 = [0, 7, 0, 7] := by decide
  have a5 : atE 4 3 = 0 := by decide
  have a6 : readW [0, 7, 0, 7] 3 = 7 := by decide
  have n1 := new_ok 4 w (by decide) (by decide)
  go_enter Try.func10, Try.ntmps10
  go_wp2_with (first | (go_at_call 8; refine n1.mono ?_; rintro e w1 ⟨rfl, H1, B1⟩) | (go_at_call 14; refine (write_any H1 1 7).mono ?_; rintro e w2 ⟨rfl, H2, G2⟩; have B2 := below_grown B1 G2 (Nat.le_refl _); rw [show List.replicate 4 (0 : Int) = [0, 0, 0, 0] from rfl, a2] at H2) | (go_at_call 16; refine (move_any H2 2 0 2 (by decide) (by decide)).mono ?_; rintro e w3 ⟨rfl, H3, G3⟩; have B3 := below_grown B2 G3 (Nat.le_refl _); rw [a4] at H3) | (go_at_call 15; refine (read_any H3 3).mono ?_; rintro e w4 ⟨rfl, hw⟩; rw [hw]; clear hw) | (go_at_call 18; refine (len_any H3).mono ?_; rintro e w4 ⟨rfl, hw⟩; rw [hw]; clear hw))
  go_ret
  exact ⟨rfl, B3⟩

/-! ### filled -/
def upTo (n : Nat) : List Int := (List.range n).map (fun (i : Nat) => (i : Int) + 1)
def fillL (n k : Nat) : List Int := upTo k ++ List.replicate (n - k) 0
theorem upTo_length (n : Nat) : (upTo n).length = n := by simp [upTo]
theorem fillL_length (n k : Nat) (h : k ≤ n) : (fillL n k).length = n := by simp [fillL, upTo_length]; omega
theorem fillL_zero (n : Nat) : fillL n 0 = List.replicate n 0 := by simp [fillL, upTo]
theorem fillL_all (n : Nat) : fillL n n = upTo n := by simp [fillL]
theorem fillL_next (n k : Nat) (h : k < n) : writeL (fillL n k) k ((k : Int) + 1) = fillL n (k + 1) := by
  have e : (fillL n k).length = n := fillL_length n k (by omega)
  unfold writeL
  rw [if_pos (by rw [e]; omega)]
  simp only [Int.toNat_natCast, fillL]
  rw [List.set_append_right _ _ (by rw [upTo_length]; omega), upTo_length, Nat.sub_self]
  obtain ⟨d, hd⟩ : ∃ d, n - k = d + 1 := ⟨n - k - 1, by omega⟩
  rw [hd, show n - (k + 1) = d by omega, List.replicate_succ]
  simp [upTo, List.range_succ]
theorem upTo_get (n i : Nat) (h : i < n) : (upTo n).getD i 0 = (i : Int) + 1 := by simp [upTo, h]

set_option maxHeartbeats 1000000 in
theorem filled_any (n : Nat) (w : World) (h1 : 1 ≤ n) (h2 : n ≤ 524288) :
    Calls Try.prog 13 #[.int .i64 n] w fun e w' => e = .returned (.pointer (some ⟨w.heap.size + 1, 0, none⟩)) ∧ Has 52 w' (w.heap.size + 1) w.heap.size (upTo n) ∧ Below w.heap.size w w' := by
  have n1 := new_ok n w h1 h2
  go_enter Try.func13, Try.ntmps13
  go_wp2_with (go_at_call 8; refine n1.mono ?_; rintro e w1 ⟨rfl, H1, B1⟩)
  go_loopw [5] (fun i wr => ∃ k : Nat, k ≤ n ∧ i = .int .i64 k ∧ Has 52 wr (w.heap.size + 1) w.heap.size (fillL n k) ∧ Below w.heap.size w wr) (fun i _ => n - (intOf i).toNat)
  case atStart => exact ⟨0, Nat.zero_le _, rfl, by rw [fillL_zero]; exact H1, B1⟩
  case round =>
    obtain ⟨k, hk, rfl, H, B⟩ := hrel
    by_cases hlt : k < n
    · go_wp2_with (go_at_call 14; refine (write_any H k ((k : Int) + 1)).mono ?_; rintro e w2 ⟨rfl, H2, G2⟩; have B2 := below_grown B G2 (Nat.le_refl _); rw [fillL_next n k hlt] at H2)
      go_roundw
      case rel => exact ⟨k + 1, by omega, by go_num, H2, B2⟩
      case measure => simp [intOf]; omega
    · obtain rfl : k = n := by omega
      rw [fillL_all] at H
      go_wp2
      go_ret
      exact ⟨rfl, H, B⟩
end Go.Proofs.Ytldcjbdhcciieaa
