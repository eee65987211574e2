/- Package stable: Make, Get, Free; of a nil table. -/
import Derived.Test.YtejjobemafdlbaaSbc
namespace Go.Proofs.Ytejjobemafdlbaa
open Go.RowKit
set_option linter.unusedVariables false
set_option linter.unusedSimpArgs false

theorem make_nil (w : World) (at' : Int) : Calls Try.prog 11 #[.pointer none, .int .i64 at'] w fun e w' => e = .returned (.tuple #[.int .i64 0, .int .i64 1]) ∧ w' = w := by
  go_enter Try.func11, Try.ntmps11
  go_wp2
  go_ret2
  exact ⟨rfl, rfl⟩
theorem get_nil (w : World) (h : Int) : Calls Try.prog 15 #[.pointer none, .int .i64 h] w fun e w' => e = .returned (.tuple #[.int .i64 0, .int .i64 1]) ∧ w' = w := by
  have FN := find_nil w h
  go_enter Try.func15, Try.ntmps15
  go_wp2_with (go_at_call 31; refine FN.mono ?_; rintro e w1 ⟨rfl, hw⟩; rw [hw]; clear hw)
  go_ret2
  exact ⟨rfl, rfl⟩
theorem free_nil (w : World) (h : Int) : Calls Try.prog 13 #[.pointer none, .int .i64 h] w fun e w' => e = .returned (.int .i64 1) ∧ w' = w := by
  have FN := find_nil w h
  go_enter Try.func13, Try.ntmps13
  go_wp2_with (go_at_call 31; refine FN.mono ?_; rintro e w1 ⟨rfl, hw⟩; rw [hw]; clear hw)
  go_ret
  exact ⟨rfl, rfl⟩

theorem mk_no {n : Nat} {A T : Nat → Int} {at' : Int} (h : isA at' = false) : mkE n A at' = 4 ∧ mkH n A T at' = 0 ∧ mkA n A at' = A := by
  have e : mkE n A at' = 4 := by simp [mkE, h]
  exact ⟨e, by simp [mkH, e], by simp [mkA, e]⟩
theorem mk_full {n : Nat} {A T : Nat → Int} {at' : Int} (h : isA at' = true) (hl : ¬ lowF n A < n) : mkE n A at' = 5 ∧ mkH n A T at' = 0 ∧ mkA n A at' = A := by
  have e : mkE n A at' = 5 := by simp [mkE, h, hl]
  exact ⟨e, by simp [mkH, e], by simp [mkA, e]⟩
theorem mk_yes {n : Nat} {A T : Nat → Int} {at' : Int} {i : Nat} (h : isA at' = true) (hl : lowF n A = i) (hi : i < n) : mkE n A at' = 0 ∧ mkH n A T at' = T i * 256 + i ∧ mkA n A at' = upd A i at' := by
  have e : mkE n A at' = 0 := by simp [mkE, h, hl, hi]
  exact ⟨e, by simp [mkH, e, hl, hnd], by simp [mkA, e, hl]⟩
set_option maxHeartbeats 1000000 in
theorem make_any {lo : Nat} {w : World} {s sb n : Nat} {b : Int} {A T : Nat → Int} (h : Tb lo w s sb n b A T) (hb : b ≤ 1000000) (at' : Int) :
    Calls Try.prog 11 #[pv s, .int .i64 at'] w fun e w' => e = .returned (.tuple #[.int .i64 (mkH n A T at'), .int .i64 (mkE n A at')]) ∧ Tb lo w' s sb n b (mkA n A at') T ∧ Kx sb sb w w' := by
  have IA := isaddr_any w at'
  have c := h.c
  have le := h.le
  have IX := indexfunc_any h
  cases ha : isA at' with
  | false =>
    rw [ha] at IA
    obtain ⟨e1, e2, e3⟩ := mk_no (n := n) (A := A) (T := T) ha
    rw [e1, e2, e3]
    clear e1 e2 e3 IX
    go_enter Try.func11, Try.ntmps11
    go_wp2_with (go_at_call 27; refine IA.mono ?_; rintro e w1 ⟨rfl, hw⟩; rw [hw]; clear hw)
    go_ret2
    exact ⟨rfl, h, Kx.refl _ _ _⟩
  | true =>
    rw [ha] at IA
    by_cases hl : lowF n A < n
    · obtain ⟨i, hi⟩ : ∃ i, lowF n A = i := ⟨_, rfl⟩
      rw [hi] at hl
      obtain ⟨e1, e2, e3⟩ := mk_yes (T := T) ha hi hl
      have HO := Hid.mk (show Okt n b (upd A i at') T by rw [← e3]; exact h.ok.make at')
      rw [e1, e2, e3]
      have e4 : lowI n A = i := by simp [lowI, hi, hl]
      rw [e4] at IX
      have t := h.ok i hl
      have HH := Hid.mk h
      generalize hT : T i = ti at *
      have g1 : -9223372036854775808 ≤ ti * 256 := by omega
      clear e1 e2 e3 e4 h hi ha
      have HT := Hid.mk hT
      clear hT
      go_enter Try.func11, Try.ntmps11
      go_wp2_with (first
        | (go_at_call 27; refine IA.mono ?_; rintro e w1 ⟨rfl, hw⟩; rw [hw]; clear hw IA)
        | (go_at_call 28; refine IX.mono ?_; clear IX; rintro e w1 ⟨rfl, B1⟩; have H1 := HH.out.later B1; have d := H1.c; have dz := H1.z (i * 2); have d0 := H1.c0 i hl; have d1 := H1.c1 i hl; rw [HT.out] at d1; have HH1 := Hid.mk H1; have dn1 : ¬ s = sb := H1.ne; have dn2 : ¬ sb = s := fun e => H1.ne e.symm; have HB1 := Hid.mk B1; clear H1 B1))
      go_ret2
      exact ⟨rfl, HH1.out.setA hl at' b HO.out, (Kx.later _ _ HB1.out).trans (Kx.set _ _ _ (.inl rfl))⟩
    · obtain ⟨e1, e2, e3⟩ := mk_full (n := n) (A := A) (T := T) ha hl
      rw [e1, e2, e3]
      have e4 : lowI n A = -1 := by simp [lowI, hl]
      rw [e4] at IX
      clear e1 e2 e3 e4
      have HH := Hid.mk h
      clear h
      go_enter Try.func11, Try.ntmps11
      go_wp2_with (first
        | (go_at_call 27; refine IA.mono ?_; rintro e w1 ⟨rfl, hw⟩; rw [hw]; clear hw)
        | (go_at_call 28; refine IX.mono ?_; clear IX; rintro e w1 ⟨rfl, B1⟩))
      go_ret2
      exact ⟨rfl, HH.out.later B1, Kx.later _ _ B1⟩
theorem get_any {lo : Nat} {w : World} {s sb n : Nat} {b : Int} {A T : Nat → Int} (h : Tb lo w s sb n b A T) (x : Int) (hx : -9223372036854775808 ≤ x ∧ x ≤ 9223372036854775807) :
    Calls Try.prog 15 #[pv s, .int .i64 x] w fun e w' => e = .returned (.tuple #[.int .i64 (geV n A T x), .int .i64 (geE n A T x)]) ∧ Below w.heap.size w w' := by
  have FA := find_any h x hx
  by_cases hf : fd n A T x < n
  · obtain ⟨i, hi⟩ : ∃ i, fd n A T x = i := ⟨_, rfl⟩
    rw [hi] at hf
    obtain ⟨e1, e2⟩ := fdP_yes (sb := sb) hi hf
    have e3 : geV n A T x = A i := by simp [geV, hi, hf]
    rw [e1, e2] at FA
    rw [e2, e3]
    have HH := Hid.mk h
    clear e1 e2 e3 h hi
    go_enter Try.func15, Try.ntmps15
    go_wp2_with (go_at_call 31; refine FA.mono ?_; clear FA; rintro e w1 ⟨rfl, B1⟩; have d := (HH.out.later B1).c0 i hf)
    go_ret2
    exact ⟨rfl, B1⟩
  · have e : fd n A T x = n := by have := fst_le (fun i => !(A i == 0) && (hnd T i == x)) n; unfold fd at hf ⊢; omega
    obtain ⟨e1, e2⟩ := fdP_no (sb := sb) e
    have e3 : geV n A T x = 0 := by simp [geV, e]
    rw [e1, e2] at FA
    rw [e2, e3]
    clear e1 e2 e3 e hf
    go_enter Try.func15, Try.ntmps15
    go_wp2_with (go_at_call 31; refine FA.mono ?_; clear FA; rintro e w1 ⟨rfl, B1⟩)
    go_ret2
    exact ⟨rfl, B1⟩
theorem fr_no {n : Nat} {A T : Nat → Int} {x : Int} (h : ¬ fd n A T x < n) : frA n A T x = A ∧ frT n A T x = T := by simp [frA, frT, h]
theorem fr_yes {n : Nat} {A T : Nat → Int} {x : Int} {i : Nat} (e : fd n A T x = i) (h : i < n) : frA n A T x = upd A i 0 ∧ frT n A T x = upd T i (T i + 1) := by simp [frA, frT, e, h]
set_option maxHeartbeats 1000000 in
theorem free13_any {lo : Nat} {w : World} {s sb n : Nat} {b : Int} {A T : Nat → Int} (h : Tb lo w s sb n b A T) (hb : b ≤ 1000000) (x : Int) (hx : -9223372036854775808 ≤ x ∧ x ≤ 9223372036854775807) :
    Calls Try.prog 13 #[pv s, .int .i64 x] w fun e w' => e = .returned (.int .i64 (geE n A T x)) ∧ Tb lo w' s sb n (b + 1) (frA n A T x) (frT n A T x) ∧ Kx sb sb w w' := by
  have FA := find_any h x hx
  by_cases hf : fd n A T x < n
  · obtain ⟨i, hi⟩ : ∃ i, fd n A T x = i := ⟨_, rfl⟩
    rw [hi] at hf
    obtain ⟨e1, e2⟩ := fdP_yes (sb := sb) hi hf
    obtain ⟨e3, e4⟩ := fr_yes hi hf
    have HO := Hid.mk (show Okt n (b + 1) (upd A i 0) (upd T i (T i + 1)) by rw [← e3, ← e4]; exact h.ok.free x)
    have HO2 := Hid.mk (show Okt n b (upd A i 0) T from fun j hj => by have q := h.ok j hj; unfold upd; split <;> omega)
    rw [e1, e2] at FA
    rw [e2, e3, e4]
    have t := h.ok i hf
    have HH := Hid.mk h
    clear e1 e2 e3 e4 h hi
    generalize hT : T i = ti at *
    have HT := Hid.mk hT
    clear hT
    go_enter Try.func13, Try.ntmps13
    go_wp2_with (go_at_call 31; refine FA.mono ?_; clear FA; rintro e w1 ⟨rfl, B1⟩; have H1 := HH.out.later B1; have d0 := H1.c0 i hf; have d := H1.c1 i hf; rw [HT.out] at d; have dz := H1.z (i * 2); have dz1 := H1.z (i * 2 + 1); have HH1 := Hid.mk H1; have HB1 := Hid.mk B1; clear H1 B1)
    go_ret
    exact ⟨rfl, (HH1.out.setA hf 0 b HO2.out).setT hf (ti + 1) _ HO.out, ((Kx.later _ _ HB1.out).trans (Kx.set _ _ _ (.inl rfl))).trans (Kx.set _ _ _ (.inl rfl))⟩
  · have e : fd n A T x = n := by have := fst_le (fun i => !(A i == 0) && (hnd T i == x)) n; unfold fd at hf ⊢; omega
    obtain ⟨e1, e2⟩ := fdP_no (sb := sb) e
    obtain ⟨e3, e4⟩ := fr_no hf
    rw [e1, e2] at FA
    rw [e2, e3, e4]
    have HH := Hid.mk h
    clear e1 e2 e3 e4 e hf h
    go_enter Try.func13, Try.ntmps13
    go_wp2_with (go_at_call 31; refine FA.mono ?_; clear FA; rintro e w1 ⟨rfl, B1⟩)
    go_ret
    exact ⟨rfl, (HH.out.later B1).up (by omega), Kx.later _ _ B1⟩
end Go.Proofs.Ytejjobemafdlbaa
