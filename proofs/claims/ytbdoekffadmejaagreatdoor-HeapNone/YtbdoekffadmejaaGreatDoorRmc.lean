/- Package remember: which lists there are, what is wrong; Put, Drop, Has, Len. -/
import Derived.Test.YtbdoekffadmejaaGreatDoorRmb
namespace Go.Proofs.YtbdoekffadmejaaGreatDoor.Rm
open Go.RowKit
set_option linter.unusedVariables false
set_option linter.unusedSimpArgs false

abbrev pv (s : Nat) : Value := .pointer (some ⟨s, 0, none⟩)
theorem islist_nil (w : World) (gen : Int) : Calls Tryz.prog 111 #[.pointer none, .int .i64 gen] w fun e w' => e = .returned (.bool false) ∧ w' = w := by
  go_enter Tryz.func111, Tryz.ntmps111
  go_wp2
  go_ret
  exact ⟨rfl, rfl⟩
theorem islist_any {lo : Nat} {w : World} {s sb n : Nat} {m : Nat → Nat} {L : Nat → List Int} (h : Ls lo w s sb n m L) (gen : Int) :
    Calls Tryz.prog 111 #[pv s, .int .i64 gen] w fun e w' => e = .returned (.bool (isl n gen)) ∧ w' = w := by
  have c := h.c0
  clear h
  by_cases h0 : 0 ≤ gen
  · have g1 : decide (gen ≥ 0) = true := by simpa using h0
    by_cases h1 : gen < (n : Int)
    · have e : isl n gen = true := by simp [isl, h0, h1]
      rw [e]
      clear e
      go_enter Tryz.func111, Tryz.ntmps111
      go_wp2
      go_ret
      exact ⟨rfl, rfl⟩
    · have e : isl n gen = false := by simp [isl, h1]
      rw [e]
      clear e
      go_enter Tryz.func111, Tryz.ntmps111
      go_wp2
      go_ret
      exact ⟨rfl, rfl⟩
  · have e : isl n gen = false := by simp [isl, h0]
    rw [e]
    clear e
    go_enter Tryz.func111, Tryz.ntmps111
    go_wp2
    go_ret
    exact ⟨rfl, rfl⟩
theorem fault_nil (w : World) (gen at' : Int) : Calls Tryz.prog 168 #[.pointer none, .int .i64 gen, .int .i64 at'] w fun e w' => e = .returned (.int .i64 1) ∧ w' = w := by
  go_enter Tryz.func168, Tryz.ntmps168
  go_wp2
  go_ret
  exact ⟨rfl, rfl⟩
theorem fault_any {lo : Nat} {w : World} {s sb n : Nat} {m : Nat → Nat} {L : Nat → List Int} (h : Ls lo w s sb n m L) (gen at' : Int) :
    Calls Tryz.prog 168 #[pv s, .int .i64 gen, .int .i64 at'] w fun e w' => e = .returned (.int .i64 (flt n gen at')) ∧ w' = w := by
  have IS := islist_any h gen
  clear h
  unfold flt
  cases hg : isl n gen with
  | false =>
    rw [hg] at IS
    rw [if_neg (by decide)]
    go_enter Tryz.func168, Tryz.ntmps168
    go_wp2_with (go_at_call 111; refine IS.mono ?_; rintro e w1 ⟨rfl, hw⟩; rw [hw]; clear hw)
    go_ret
    exact ⟨rfl, rfl⟩
  | true =>
    rw [hg] at IS
    rw [if_pos rfl]
    by_cases h1 : 1 ≤ at'
    · by_cases h2 : at' ≤ 524288
      · rw [if_pos ⟨h1, h2⟩]
        have g1 : ¬ at' < 1 := by omega
        have g2 : ¬ at' > 524288 := by omega
        go_enter Tryz.func168, Tryz.ntmps168
        go_wp2_with (go_at_call 111; refine IS.mono ?_; rintro e w1 ⟨rfl, hw⟩; rw [hw]; clear hw)
        go_ret
        exact ⟨rfl, rfl⟩
      · rw [if_neg (fun q => h2 q.2)]
        have g1 : ¬ at' < 1 := by omega
        have g2 : at' > 524288 := by omega
        go_enter Tryz.func168, Tryz.ntmps168
        go_wp2_with (go_at_call 111; refine IS.mono ?_; rintro e w1 ⟨rfl, hw⟩; rw [hw]; clear hw)
        go_ret
        exact ⟨rfl, rfl⟩
    · rw [if_neg (fun q => h1 q.1)]
      have g1 : at' < 1 := by omega
      go_enter Tryz.func168, Tryz.ntmps168
      go_wp2_with (go_at_call 111; refine IS.mono ?_; rintro e w1 ⟨rfl, hw⟩; rw [hw]; clear hw)
      go_ret
      exact ⟨rfl, rfl⟩
theorem put_nil (w : World) (gen at' : Int) : Calls Tryz.prog 127 #[.pointer none, .int .i64 gen, .int .i64 at'] w fun e w' => e = .returned (.int .i64 1) ∧ w' = w := by
  have FT := fault_nil w gen at'
  go_enter Tryz.func127, Tryz.ntmps127
  go_wp2_with (go_at_call 168; refine FT.mono ?_; rintro e w1 ⟨rfl, hw⟩; rw [hw]; clear hw)
  go_ret
  exact ⟨rfl, rfl⟩
theorem drop_nil (w : World) (gen at' : Int) : Calls Tryz.prog 139 #[.pointer none, .int .i64 gen, .int .i64 at'] w fun e w' => e = .returned (.int .i64 1) ∧ w' = w := by
  have FT := fault_nil w gen at'
  go_enter Tryz.func139, Tryz.ntmps139
  go_wp2_with (go_at_call 168; refine FT.mono ?_; rintro e w1 ⟨rfl, hw⟩; rw [hw]; clear hw)
  go_ret
  exact ⟨rfl, rfl⟩
theorem all_nil (w : World) (gen : Int) : Calls Tryz.prog 53 #[.pointer none, .int .i64 gen] w fun e w' => e = .returned (.slice none 0 0) ∧ w' = w := by
  have FT := islist_nil w gen
  go_enter Tryz.func53, Tryz.ntmps53
  go_wp2_with (go_at_call 111; refine FT.mono ?_; rintro e w1 ⟨rfl, hw⟩; rw [hw]; clear hw)
  go_ret
  exact ⟨rfl, rfl⟩
theorem take_nil (w : World) (gen : Int) : Calls Tryz.prog 130 #[.pointer none, .int .i64 gen] w fun e w' => e = .returned (.slice none 0 0) ∧ w' = w := by
  have FT := islist_nil w gen
  have FA := all_nil w gen
  go_enter Tryz.func130, Tryz.ntmps130
  go_wp2_with (first
    | (go_at_call 111; refine FT.mono ?_; rintro e w1 ⟨rfl, hw⟩; rw [hw]; clear hw)
    | (go_at_call 53; refine FA.mono ?_; rintro e w1 ⟨rfl, hw⟩; rw [hw]; clear hw))
  go_ret
  exact ⟨rfl, rfl⟩
/-- One of the sets has turned, if any. -/
def Tn (n : Nat) (m : Nat → Nat) (w w' : World) : Prop := w' = w ∨ ∃ i, i < n ∧ w.grownBy w' (some (m i))
theorem put_any {lo : Nat} {w : World} {s sb n : Nat} {m : Nat → Nat} {L : Nat → List Int} (h : Ls lo w s sb n m L) (gen at' : Int) :
    Calls Tryz.prog 127 #[pv s, .int .i64 gen, .int .i64 at'] w fun e w' => e = .returned (.int .i64 (flt n gen at')) ∧ Ls lo w' s sb n m (putS n L gen at') ∧ Kp XP lo w w' ∧ Tn n m w w' := by
  have FT := fault_any h gen at'
  unfold putS
  by_cases hf : flt n gen at' = 0
  · obtain ⟨hi, ha⟩ := flt_zero hf
    obtain ⟨q0, q1⟩ := isl_yes hi
    obtain ⟨i, rfl⟩ : ∃ i : Nat, gen = i := ⟨gen.toNat, by omega⟩
    have hin : i < n := by omega
    rw [if_pos hf, Int.toNat_natCast]
    rw [hf] at FT ⊢
    have c0 := h.c0
    have c1 := h.c1 i hin
    have M := Hid.mk (h.map i hin)
    have G := Hid.mk (h.gd i hin)
    have HH := Hid.mk h
    have HA := Hid.mk ha
    clear h ha hf hi
    go_enter Tryz.func127, Tryz.ntmps127
    go_wp2_with (first
      | (go_at_call 168; refine FT.mono ?_; rintro e w1 ⟨rfl, hw⟩; rw [hw]; clear hw)
      | (at_mapUpdate; refine wpList_sm_put _ rfl _ _ _ 156 rfl Tryz.underlying156 (m i) (L i) rfl M.out G.out at' HA.out rfl rfl ?_; intro w1 M1 G1))
    go_ret
    have T := HH.out.turn hin (G.out.put HA.out) M1 G1
    exact ⟨rfl, T.1, T.2, .inr ⟨i, hin, G1⟩⟩
  · rw [if_neg hf]
    have hb : (flt n gen at' != 0) = true := by simpa using hf
    generalize flt n gen at' = e' at *
    clear hf
    go_enter Tryz.func127, Tryz.ntmps127
    go_wp2_with (go_at_call 168; refine FT.mono ?_; rintro e w1 ⟨rfl, hw⟩; rw [hw]; clear hw)
    go_ret
    exact ⟨rfl, h, Kp.refl _ _ _, .inl rfl⟩
theorem drop_any {lo : Nat} {w : World} {s sb n : Nat} {m : Nat → Nat} {L : Nat → List Int} (h : Ls lo w s sb n m L) (gen at' : Int) :
    Calls Tryz.prog 139 #[pv s, .int .i64 gen, .int .i64 at'] w fun e w' => e = .returned (.int .i64 (flt n gen at')) ∧ Ls lo w' s sb n m (dropS n L gen at') ∧ Kp XP lo w w' ∧ Tn n m w w' := by
  have FT := fault_any h gen at'
  unfold dropS
  by_cases hf : flt n gen at' = 0
  · obtain ⟨hi, ha⟩ := flt_zero hf
    obtain ⟨q0, q1⟩ := isl_yes hi
    obtain ⟨i, rfl⟩ : ∃ i : Nat, gen = i := ⟨gen.toNat, by omega⟩
    have hin : i < n := by omega
    rw [if_pos hf, Int.toNat_natCast]
    rw [hf] at FT ⊢
    have c0 := h.c0
    have c1 := h.c1 i hin
    have M := Hid.mk (h.map i hin)
    have G := Hid.mk (h.gd i hin)
    have HH := Hid.mk h
    have HA : Hid (isI at') := ⟨⟨by omega, by omega⟩⟩
    clear h ha hf hi
    go_enter Tryz.func139, Tryz.ntmps139
    go_wp2_with (first
      | (go_at_call 168; refine FT.mono ?_; rintro e w1 ⟨rfl, hw⟩; rw [hw]; clear hw)
      | (at_delete; refine wpList_sm_del _ rfl _ _ 156 rfl Tryz.underlying156 (m i) (L i) rfl M.out G.out at' HA.out rfl ?_; intro w1 M1 G1))
    go_ret
    have T := HH.out.turn hin (G.out.les at') M1 G1
    exact ⟨rfl, T.1, T.2, .inr ⟨i, hin, G1⟩⟩
  · rw [if_neg hf]
    have hb : (flt n gen at' != 0) = true := by simpa using hf
    generalize flt n gen at' = e' at *
    clear hf
    go_enter Tryz.func139, Tryz.ntmps139
    go_wp2_with (go_at_call 168; refine FT.mono ?_; rintro e w1 ⟨rfl, hw⟩; rw [hw]; clear hw)
    go_ret
    exact ⟨rfl, h, Kp.refl _ _ _, .inl rfl⟩
end Go.Proofs.YtbdoekffadmejaaGreatDoor.Rm
