/- Package remember: which lists there are, what is wrong; Put, Drop, Has, Len. -/
import Derived.Test.YtfenbjkkljggiaaRmb
namespace Go.Proofs.Ytfenbjkkljggiaa
open Go.RowKit
set_option linter.unusedVariables false
set_option linter.unusedSimpArgs false

abbrev pv (s : Nat) : Value := .pointer (some ⟨s, 0, none⟩)
theorem islist_nil (w : World) (gen : Int) : Calls Try.prog 25 #[.pointer none, .int .i64 gen] w fun e w' => e = .returned (.bool false) ∧ w' = w := by
  go_enter Try.func25, Try.ntmps25
  go_wp2
  go_ret
  exact ⟨rfl, rfl⟩
theorem islist_any {lo : Nat} {w : World} {s sb n : Nat} {m : Nat → Nat} {L : Nat → List Int} (h : Ls lo w s sb n m L) (gen : Int) :
    Calls Try.prog 25 #[pv s, .int .i64 gen] w fun e w' => e = .returned (.bool (isl n gen)) ∧ w' = w := by
  have c := h.c0
  clear h
  by_cases h0 : 0 ≤ gen
  · have g1 : decide (gen ≥ 0) = true := by simpa using h0
    by_cases h1 : gen < (n : Int)
    · have e : isl n gen = true := by simp [isl, h0, h1]
      rw [e]
      clear e
      go_enter Try.func25, Try.ntmps25
      go_wp2
      go_ret
      exact ⟨rfl, rfl⟩
    · have e : isl n gen = false := by simp [isl, h1]
      rw [e]
      clear e
      go_enter Try.func25, Try.ntmps25
      go_wp2
      go_ret
      exact ⟨rfl, rfl⟩
  · have e : isl n gen = false := by simp [isl, h0]
    rw [e]
    clear e
    go_enter Try.func25, Try.ntmps25
    go_wp2
    go_ret
    exact ⟨rfl, rfl⟩
theorem fault_nil (w : World) (gen at' : Int) : Calls Try.prog 28 #[.pointer none, .int .i64 gen, .int .i64 at'] w fun e w' => e = .returned (.int .i64 1) ∧ w' = w := by
  go_enter Try.func28, Try.ntmps28
  go_wp2
  go_ret
  exact ⟨rfl, rfl⟩
theorem fault_any {lo : Nat} {w : World} {s sb n : Nat} {m : Nat → Nat} {L : Nat → List Int} (h : Ls lo w s sb n m L) (gen at' : Int) :
    Calls Try.prog 28 #[pv s, .int .i64 gen, .int .i64 at'] w fun e w' => e = .returned (.int .i64 (flt n gen at')) ∧ w' = w := by
  have IS := islist_any h gen
  clear h
  unfold flt
  cases hg : isl n gen with
  | false =>
    rw [hg] at IS
    rw [if_neg (by decide)]
    go_enter Try.func28, Try.ntmps28
    go_wp2_with (go_at_call 25; refine IS.mono ?_; rintro e w1 ⟨rfl, hw⟩; rw [hw]; clear hw)
    go_ret
    exact ⟨rfl, rfl⟩
  | true =>
    rw [hg] at IS
    rw [if_pos rfl]
    by_cases h1 : 1 ≤ at'
    · by_cases h2 : at' ≤ 524288
      · rw [if_pos ⟨h1, h2⟩]
        have g1 : ¬ at' < 1 := by omega
        have g2 : ¬ at' > 524288 := by omega
        go_enter Try.func28, Try.ntmps28
        go_wp2_with (go_at_call 25; refine IS.mono ?_; rintro e w1 ⟨rfl, hw⟩; rw [hw]; clear hw)
        go_ret
        exact ⟨rfl, rfl⟩
      · rw [if_neg (fun q => h2 q.2)]
        have g1 : ¬ at' < 1 := by omega
        have g2 : at' > 524288 := by omega
        go_enter Try.func28, Try.ntmps28
        go_wp2_with (go_at_call 25; refine IS.mono ?_; rintro e w1 ⟨rfl, hw⟩; rw [hw]; clear hw)
        go_ret
        exact ⟨rfl, rfl⟩
    · rw [if_neg (fun q => h1 q.1)]
      have g1 : at' < 1 := by omega
      go_enter Try.func28, Try.ntmps28
      go_wp2_with (go_at_call 25; refine IS.mono ?_; rintro e w1 ⟨rfl, hw⟩; rw [hw]; clear hw)
      go_ret
      exact ⟨rfl, rfl⟩
theorem put_nil (w : World) (gen at' : Int) : Calls Try.prog 17 #[.pointer none, .int .i64 gen, .int .i64 at'] w fun e w' => e = .returned (.int .i64 1) ∧ w' = w := by
  have FT := fault_nil w gen at'
  go_enter Try.func17, Try.ntmps17
  go_wp2_with (go_at_call 28; refine FT.mono ?_; rintro e w1 ⟨rfl, hw⟩; rw [hw]; clear hw)
  go_ret
  exact ⟨rfl, rfl⟩
theorem drop_nil (w : World) (gen at' : Int) : Calls Try.prog 18 #[.pointer none, .int .i64 gen, .int .i64 at'] w fun e w' => e = .returned (.int .i64 1) ∧ w' = w := by
  have FT := fault_nil w gen at'
  go_enter Try.func18, Try.ntmps18
  go_wp2_with (go_at_call 28; refine FT.mono ?_; rintro e w1 ⟨rfl, hw⟩; rw [hw]; clear hw)
  go_ret
  exact ⟨rfl, rfl⟩
theorem has_nil (w : World) (gen at' : Int) : Calls Try.prog 20 #[.pointer none, .int .i64 gen, .int .i64 at'] w fun e w' => e = .returned (.bool false) ∧ w' = w := by
  have FT := islist_nil w gen
  go_enter Try.func20, Try.ntmps20
  go_wp2_with (go_at_call 25; refine FT.mono ?_; rintro e w1 ⟨rfl, hw⟩; rw [hw]; clear hw)
  go_ret
  exact ⟨rfl, rfl⟩
theorem all_nil (w : World) (gen : Int) : Calls Try.prog 15 #[.pointer none, .int .i64 gen] w fun e w' => e = .returned (.slice none 0 0) ∧ w' = w := by
  have FT := islist_nil w gen
  go_enter Try.func15, Try.ntmps15
  go_wp2_with (go_at_call 25; refine FT.mono ?_; rintro e w1 ⟨rfl, hw⟩; rw [hw]; clear hw)
  go_ret
  exact ⟨rfl, rfl⟩
theorem take_nil (w : World) (gen : Int) : Calls Try.prog 19 #[.pointer none, .int .i64 gen] w fun e w' => e = .returned (.slice none 0 0) ∧ w' = w := by
  have FT := islist_nil w gen
  have FA := all_nil w gen
  go_enter Try.func19, Try.ntmps19
  go_wp2_with (first
    | (go_at_call 25; refine FT.mono ?_; rintro e w1 ⟨rfl, hw⟩; rw [hw]; clear hw)
    | (go_at_call 15; refine FA.mono ?_; rintro e w1 ⟨rfl, hw⟩; rw [hw]; clear hw))
  go_ret
  exact ⟨rfl, rfl⟩
theorem len_nil (w : World) : Calls Try.prog 12 #[.pointer none] w fun e w' => e = .returned (.int .i64 0) ∧ w' = w := by
  go_enter Try.func12, Try.ntmps12
  go_wp2
  go_ret
  exact ⟨rfl, rfl⟩

theorem put_any {lo : Nat} {w : World} {s sb n : Nat} {m : Nat → Nat} {L : Nat → List Int} (h : Ls lo w s sb n m L) (gen at' : Int) :
    Calls Try.prog 17 #[pv s, .int .i64 gen, .int .i64 at'] w fun e w' => e = .returned (.int .i64 (flt n gen at')) ∧ Ls lo w' s sb n m (putS n L gen at') ∧ Kp XP lo w w' := by
  have FT := fault_any h gen at'
  unfold putS
  by_cases hf : flt n gen at' = 0
  · obtain ⟨hi, ha⟩ := flt_zero hf
    obtain ⟨q0, q1⟩ := isl_yes hi
    obtain ⟨i, rfl⟩ : ∃ i : Nat, gen = i := ⟨gen.toNat, by omega⟩
    have hin : i < n := by omega
    rw [if_pos hf, Int.toNat_natCast]
    rw [hf] at FT ⊢
    have c0 := h.c0
    have c1 := h.c1 i hin
    have M := Hid.mk (h.map i hin)
    have G := Hid.mk (h.gd i hin)
    have HH := Hid.mk h
    have HA := Hid.mk ha
    clear h ha hf hi
    go_enter Try.func17, Try.ntmps17
    go_wp2_with (first
      | (go_at_call 28; refine FT.mono ?_; rintro e w1 ⟨rfl, hw⟩; rw [hw]; clear hw)
      | (at_mapUpdate; refine wpList_sm_put _ rfl _ _ _ 47 rfl Try.underlying47 (m i) (L i) rfl M.out G.out at' HA.out rfl rfl ?_; intro w1 M1 G1))
    go_ret
    have T := HH.out.turn hin (G.out.put HA.out) M1 G1
    exact ⟨rfl, T.1, T.2⟩
  · rw [if_neg hf]
    have hb : (flt n gen at' != 0) = true := by simpa using hf
    generalize flt n gen at' = e' at *
    clear hf
    go_enter Try.func17, Try.ntmps17
    go_wp2_with (go_at_call 28; refine FT.mono ?_; rintro e w1 ⟨rfl, hw⟩; rw [hw]; clear hw)
    go_ret
    exact ⟨rfl, h, Kp.refl _ _ _⟩
theorem drop_any {lo : Nat} {w : World} {s sb n : Nat} {m : Nat → Nat} {L : Nat → List Int} (h : Ls lo w s sb n m L) (gen at' : Int) :
    Calls Try.prog 18 #[pv s, .int .i64 gen, .int .i64 at'] w fun e w' => e = .returned (.int .i64 (flt n gen at')) ∧ Ls lo w' s sb n m (dropS n L gen at') ∧ Kp XP lo w w' := by
  have FT := fault_any h gen at'
  unfold dropS
  by_cases hf : flt n gen at' = 0
  · obtain ⟨hi, ha⟩ := flt_zero hf
    obtain ⟨q0, q1⟩ := isl_yes hi
    obtain ⟨i, rfl⟩ : ∃ i : Nat, gen = i := ⟨gen.toNat, by omega⟩
    have hin : i < n := by omega
    rw [if_pos hf, Int.toNat_natCast]
    rw [hf] at FT ⊢
    have c0 := h.c0
    have c1 := h.c1 i hin
    have M := Hid.mk (h.map i hin)
    have G := Hid.mk (h.gd i hin)
    have HH := Hid.mk h
    have HA : Hid (isI at') := ⟨⟨by omega, by omega⟩⟩
    clear h ha hf hi
    go_enter Try.func18, Try.ntmps18
    go_wp2_with (first
      | (go_at_call 28; refine FT.mono ?_; rintro e w1 ⟨rfl, hw⟩; rw [hw]; clear hw)
      | (at_delete; refine wpList_sm_del _ rfl _ _ 47 rfl Try.underlying47 (m i) (L i) rfl M.out G.out at' HA.out rfl ?_; intro w1 M1 G1))
    go_ret
    have T := HH.out.turn hin (G.out.les at') M1 G1
    exact ⟨rfl, T.1, T.2⟩
  · rw [if_neg hf]
    have hb : (flt n gen at' != 0) = true := by simpa using hf
    generalize flt n gen at' = e' at *
    clear hf
    go_enter Try.func18, Try.ntmps18
    go_wp2_with (go_at_call 28; refine FT.mono ?_; rintro e w1 ⟨rfl, hw⟩; rw [hw]; clear hw)
    go_ret
    exact ⟨rfl, h, Kp.refl _ _ _⟩
theorem has_any {lo : Nat} {w : World} {s sb n : Nat} {m : Nat → Nat} {L : Nat → List Int} (h : Ls lo w s sb n m L) (gen at' : Int) (hI : isI at') :
    Calls Try.prog 20 #[pv s, .int .i64 gen, .int .i64 at'] w fun e w' => e = .returned (.bool (hasS n L gen at')) ∧ Below w.heap.size w w' := by
  have FT := islist_any h gen
  unfold hasS
  cases hi : isl n gen with
  | true =>
    rw [hi] at FT
    obtain ⟨q0, q1⟩ := isl_yes hi
    obtain ⟨i, rfl⟩ : ∃ i : Nat, gen = i := ⟨gen.toNat, by omega⟩
    have hin : i < n := by omega
    rw [Int.toNat_natCast, Bool.true_and]
    have c0 := h.c0
    have c1 := h.c1 i hin
    have M := Hid.mk (h.map i hin)
    have HH := Hid.mk h
    have HA := Hid.mk hI
    clear h hI
    obtain ⟨b, hb⟩ : ∃ b, decide (at' ∈ L i) = b := ⟨_, rfl⟩
    go_enter Try.func20, Try.ntmps20
    go_wp2_with (first
      | (go_at_call 25; refine FT.mono ?_; rintro e w1 ⟨rfl, hw⟩; rw [hw]; clear hw)
      | (at_lookup; refine wpList_sm_look _ rfl _ _ 47 rfl Try.underlying47 (m i) (L i) rfl M.out at' HA.out rfl ?_; rw [hb]))
    rw [hb]
    go_ret
    exact ⟨rfl, by first | exact Below.refl _ _ | exact (Below.refl _ _).alloc (Nat.le_refl _) _⟩
  | false =>
    rw [hi] at FT
    rw [Bool.false_and]
    go_enter Try.func20, Try.ntmps20
    go_wp2_with (go_at_call 25; refine FT.mono ?_; rintro e w1 ⟨rfl, hw⟩; rw [hw]; clear hw)
    go_ret
    exact ⟨rfl, Below.refl _ _⟩
theorem len_any {lo : Nat} {w : World} {s sb n : Nat} {m : Nat → Nat} {L : Nat → List Int} (h : Ls lo w s sb n m L) :
    Calls Try.prog 12 #[pv s] w fun e w' => e = .returned (.int .i64 (lenS L n : Int)) ∧ w' = w := by
  have c0 := h.c0
  have HH := Hid.mk h
  have hn := h.le
  clear h
  go_enter Try.func12, Try.ntmps12
  go_wp2
  go_loop [13, 3] (fun i z => ∃ k : Nat, k ≤ n ∧ i = .int .i64 k ∧ z = .int .i64 (lenS L k : Int)) (fun i _ => n - (RowKit.intOf i).toNat)
  case atStart => exact ⟨0, Nat.zero_le _, rfl, rfl⟩
  case round =>
    obtain ⟨k, hk, rfl, rfl⟩ := hrel
    by_cases hlt : k < n
    · have hlt' : (k : Int) < n := by omega
      have c1 := HH.out.c1 k hlt
      have M := Hid.mk (HH.out.map k hlt)
      have b1 := lenS_le (L := L) (n := k + 1) (fun i hi => HH.out.gd i (by omega))
      simp only [lenS] at b1
      have HE : Hid (((lenS L k : Nat) : Int) + ((L k).length : Int) = ((lenS L (k + 1) : Nat) : Int)) := ⟨by simp [lenS]⟩
      obtain ⟨a, ha⟩ : ∃ a, lenS L k = a := ⟨_, rfl⟩
      obtain ⟨b, hb⟩ : ∃ b, (L k).length = b := ⟨_, rfl⟩
      rw [ha, hb] at b1 HE
      rw [ha]
      have HB := Hid.mk hb
      clear ha hb
      go_wp2_with (at_len; refine wpList_sm_len _ rfl _ 47 rfl Try.underlying47 (m k) (L k) rfl M.out ?_; rw [HB.out])
      go_round
      case rel => exact ⟨k + 1, by omega, by go_num, by rw [← HE.out]⟩
      case measure => simp [RowKit.intOf]; omega
    · obtain rfl : n = k := by omega
      go_wp2
      go_ret
      exact ⟨rfl, rfl⟩
end Go.Proofs.Ytfenbjkkljggiaa
