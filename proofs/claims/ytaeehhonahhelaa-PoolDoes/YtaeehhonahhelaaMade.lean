/- What is made and what must come at any rate: the law's own helpers. -/
import Derived.Test.YtaeehhonahhelaaActs
namespace Go.Proofs.Ytaeehhonahhelaa
open Go.RowKit
set_option linter.unusedVariables false

/-! ### awake -/
def f0 : Nat → Int := fun _ => -1
theorem wakeA : allocA f0 8 3 = 0 ∧ allocE f0 8 3 = 0 ∧ allocA (allocF f0 8 3) 8 2 = 3 ∧ allocE (allocF f0 8 3) 8 2 = 0 ∧ left (allocF (allocF f0 8 3) 8 2) 8 = 3 := by decide +kernel
set_option maxHeartbeats 1000000 in
theorem awake_any (w : World) : Calls Try.prog 11 #[] w fun e w' => e = .returned (.bool true) ∧ Below w.heap.size w w' := by
  obtain ⟨a1, a2, a3, a4, a5⟩ := wakeA
  go_enter Try.func11, Try.ntmps11
  go_wp2_with (first
    | (go_at_call 9; refine (new_ok 8 w (by decide) (by decide)).mono ?_; rintro e w1 ⟨rfl, H1, B1⟩; have A1 := alloc_any H1 3 (by decide); rw [show (fun _ : Nat => (-1 : Int)) = f0 from rfl, a1, a2] at A1)
    | (go_at_call_of 20 (Value.int IntKind.i64 3); refine A1.mono ?_; rintro e w2 ⟨rfl, H2, G2⟩; have A2 := alloc_any H2 2 (by decide); rw [a3, a4] at A2)
    | (go_at_call_of 20 (Value.int IntKind.i64 2); refine A2.mono ?_; rintro e w3 ⟨rfl, H3, G3⟩; have A3 := left_ok H3; rw [a5] at A3)
    | (go_at_call 22; refine A3.mono ?_; rintro e w4 ⟨rfl, B4⟩))
  go_ret
  exact ⟨rfl, (grown_own B1 (grown_trans G2 G3) (Nat.le_refl _)).trans (B4.mono (Nat.le_trans B1.size (grown_trans G2 G3).size))⟩

/-! ### made -/
set_option maxRecDepth 100000 in
set_option maxHeartbeats 8000000 in
theorem made_any (k : Nat) (hk : k ≤ 255) (ad : Option Addr) (len cap : Nat) (w : World) (hl : IsActs w ad len) :
    Calls Try.prog 14 #[.int .u8 k, .slice ad len cap] w fun e w' => e = .returned (.tuple #[.pointer (some ⟨w.heap.size + 1, 0, none⟩), .int .i64 (k + 1)]) ∧ (∃ f, Has 58 w' (w.heap.size + 1) w.heap.size f (k + 1) ∧ Good f (k + 1)) ∧ Below w.heap.size w w' := by
  have hm : len ≤ 9223372036854775807 := by have := hl.1; unfold maxLen at this; exact this
  have HL : Hid (IsActs w ad len) := hl
  clear hl
  have NW := new_ok (k + 1) w (by omega) (by omega)
  rw [show ((k + 1 : Nat) : Int) = (k : Int) + 1 by omega] at NW
  go_enter Try.func14, Try.ntmps14
  go_wp2_with (go_at_call 9; refine NW.mono ?_; rintro e w1 ⟨rfl, H1, B1⟩)
  go_loopw [9] (fun i wr => ∃ (j : Nat) (f : Nat → Int), j ≤ len ∧ j ≤ 200 ∧ i = .int .i64 j ∧ Has 58 wr (w.heap.size + 1) w.heap.size f (k + 1) ∧ Good f (k + 1) ∧ Below w.heap.size w wr) (fun i _ => 200 - (intOf i).toNat)
  case atStart => exact ⟨0, _, Nat.zero_le _, Nat.zero_le _, rfl, H1, good_new _, B1⟩
  case round =>
    obtain ⟨j, f, hj, hj2, rfl, H, G, B⟩ := hrel
    have HB : Hid (Below w.heap.size w w1) := B1
    have HH : Hid (Has 58 w1 (w.heap.size + 1) w.heap.size (fun _ => -1) (k + 1)) := H1
    clear B1 H1 NW
    by_cases hlt : j < len ∧ j < 200
    · obtain ⟨BB, OO, k0, k1, rfl, c0, c1, b0, b1⟩ := HL.out.2 j hlt.1
      have c0 := old_cells c0 B
      have c1 := old_cells c1 B
      have z1 := hlt.1
      have z2 := hlt.2
      have hb1 := b1.2
      clear hlt b0 b1
      have step : ∀ {w4 : World}, wr.grownBy w4 (some w.heap.size) → Below w.heap.size w w4 := fun hg => grown_own B hg (Nat.le_refl _)
      have HS : Hid (∀ {w4 : World}, wr.grownBy w4 (some w.heap.size) → Below w.heap.size w w4) := step
      clear step
      have HG : Hid (Good f (k + 1)) := G
      clear G
      by_cases e0 : k0 = 0 ∨ k0 = 1
      · have A := alloc_any H k1 hb1
        rcases e0 with rfl | rfl
        all_goals go_wp2_with (go_at_call 20; refine A.mono ?_; rintro e w4 ⟨rfl, H4, G4⟩)
        all_goals go_roundw
        all_goals first
          | exact ⟨j + 1, _, by omega, by omega, by go_num, H4, allocF_good HG.out, HS.out G4⟩
          | (simp [intOf]; omega)
      · by_cases e2 : k0 = 2
        · subst e2
          have A := free_any H HG.out k1
          go_wp2_with (go_at_call 19; refine A.mono ?_; rintro e w4 ⟨rfl, H4, G4⟩)
          go_roundw
          case rel => exact ⟨j + 1, _, by omega, by omega, by go_num, H4, freeF_good HG.out, HS.out G4⟩
          case measure => simp [intOf]; omega
        · by_cases e3 : k0 = 3
          · subst e3
            have A := group_any H HG.out k1
            go_wp2_with (first | (go_at_call 18; refine A.mono ?_; rintro e w3 ⟨rfl, B3⟩; have A2 := free_any (H.later B3) HG.out (groupA f (k + 1) k1)) | (go_at_call 19; refine A2.mono ?_; rintro e w4 ⟨rfl, H4, G4⟩))
            go_roundw
            case rel => exact ⟨j + 1, _, by omega, by omega, by go_num, H4, freeF_good HG.out, HS.out (grown_trans (grown_below _ B3) G4)⟩
            case measure => simp [intOf]; omega
          · have n0 : ¬ k0 = 0 := fun h => e0 (.inl h)
            have n1 : ¬ k0 = 1 := fun h => e0 (.inr h)
            clear e0
            go_wp2
            go_roundw
            case rel => exact ⟨j + 1, _, by omega, by omega, by go_num, H, HG.out, B⟩
            case measure => simp [intOf]; omega
    · by_cases g1 : j < len
      · have g2 : 200 ≤ j := by omega
        clear hlt
        go_wp2
        go_ret2
        exact ⟨rfl, ⟨f, H, G⟩, B⟩
      · have g2 : len ≤ j := by omega
        clear hlt
        go_wp2
        go_ret2
        exact ⟨rfl, ⟨f, H, G⟩, B⟩
end Go.Proofs.Ytaeehhonahhelaa
