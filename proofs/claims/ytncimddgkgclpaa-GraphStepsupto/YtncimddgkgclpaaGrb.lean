/- The program's Same. -/
import Derived.Test.YtncimddgkgclpaaGra
namespace Go.Proofs.Ytncimddgkgclpaa
open Go.RowKit
set_option linter.unusedVariables false
set_option linter.unusedSimpArgs false
set_option maxRecDepth 100000

abbrev pt (b : Nat) : Value := .pointer (some ⟨b, 0, none⟩)
theorem f31_any (x y : Int) (m bm : Nat) (w : World) (c : w.cell? ⟨bm, 0, none⟩ = some (.int .i64 m)) :
    Calls Try.prog 31 #[.int .i64 x, .int .i64 y, pt bm] w fun e w' => e = .returned (.bool (kn m x == kn m y)) ∧ Below w.heap.size w w' := by
  go_enter Try.func31, Try.ntmps31
  go_wp2
  go_quiet ((first | (go_at_call_of 23 (Value.int IntKind.i64 x); exact Calls.quiet_of_same (known_any _ _ _)) | (go_at_call_of 23 (Value.int IntKind.i64 y); exact Calls.quiet_of_same (known_any _ _ _))))
  go_wp2
  go_ret
  exact ⟨rfl, below_drewN (Below.refl _ _) _⟩
set_option maxHeartbeats 2000000 in
theorem eqf30 (l r : List Int) (o1 o2 : Option Addr) (c1 c2 m bm : Nat) (w : World) (P1 : PS .i64 w o1 c1 l) (P2 : PS .i64 w o2 c2 r) (c : w.cell? ⟨bm, 0, none⟩ = some (.int .i64 m)) :
    Calls Try.prog 30 #[.slice o1 l.length c1, .slice o2 r.length c2, .func (.func 31) #[] #[pt bm]] w fun e w' => (∃ b, e = .returned (.bool b) ∧ (b = true ↔ SameN m l r)) ∧ Below w.heap.size w w' := by
  have H1 := Hid.mk P1
  have H2 := Hid.mk P2
  have HC := Hid.mk c
  have hc1 := P1.cap
  have hc2 := P1.len
  clear P1 P2 c
  unfold maxLen at hc2
  obtain ⟨n, hn⟩ : ∃ n, l.length = n := ⟨_, rfl⟩
  obtain ⟨n2, hn2⟩ : ∃ n, r.length = n := ⟨_, rfl⟩
  have HN := Hid.mk hn
  have HN2 := Hid.mk hn2
  rw [hn, hn2]
  rw [hn] at hc1 hc2
  clear hn hn2
  by_cases hh : n = n2
  · subst hh
    have e0 : ((n : Int) != n) = false := by simp
    go_enter Try.func30, Try.ntmps30
    go_wp2
    go_loopw [17] (fun cv wr => ∃ i : Nat, cv = .int .i64 i ∧ i ≤ n ∧ Hid (∀ j (h : j < l.length) (h' : j < r.length), j < i → kn m l[j] = kn m r[j]) ∧ Hid (Below w.heap.size w wr)) (fun cv _ => n - (intOf cv).toNat)
    case atStart => exact ⟨0, rfl, Nat.zero_le _, ⟨fun j _ _ hj => absurd hj (Nat.not_lt_zero _)⟩, ⟨Below.refl _ _⟩⟩
    case round =>
      obtain ⟨i, rfl, hi, HP, BB⟩ := hrel
      by_cases hlt : i < n
      · have hlt' : (i : Int) < n := by omega
        have kl : i < l.length := by rw [HN.out]; exact hlt
        have kr : i < r.length := by rw [HN2.out]; exact hlt
        obtain ⟨g1, f1, rfl, cx⟩ := (H1.out.later BB.out).get i kl
        obtain ⟨g2, f2, rfl, cy⟩ := (H2.out.later BB.out).get i kr
        have HE : Hid (∀ j (h : j < l.length) (h' : j < r.length), j = i → (kn m l[j] = kn m r[j] ↔ kn m l[i] = kn m r[i])) := ⟨fun j h h' e => by subst e; rfl⟩
        generalize l[i] = x at cx HE
        generalize r[i] = y at cy HE
        have CF := f31_any x y m bm wr (cellLater BB.out HC.out)
        cases hz : (kn m x == kn m y) with
        | true =>
          rw [hz] at CF
          have hz' : Hid (kn m x = kn m y) := ⟨by simpa using hz⟩
          clear hz
          go_wp2_with (go_at_call 31; refine CF.mono ?_; clear CF; rintro e w1 ⟨rfl, B1⟩)
          go_roundw
          case rel => exact ⟨i + 1, by go_num, by omega, ⟨fun j h1 h2 hj => (Nat.lt_succ_iff_lt_or_eq.1 hj).elim (HP.out j h1 h2) (fun e => (HE.out j h1 h2 e).2 hz'.out)⟩, ⟨belowOn BB.out B1⟩⟩
          case measure => simp [intOf]; omega
        | false =>
          rw [hz] at CF
          have hz' : Hid (¬ kn m x = kn m y) := ⟨by simpa using hz⟩
          clear hz
          go_wp2_with (go_at_call 31; refine CF.mono ?_; clear CF; rintro e w1 ⟨rfl, B1⟩)
          go_ret
          exact ⟨⟨false, rfl, ⟨fun h => (by cases h), fun h => absurd ((HE.out i kl kr rfl).1 (h.2 i kl kr)) hz'.out⟩⟩, belowOn BB.out B1⟩
      · obtain rfl : i = n := by omega
        go_wp2
        go_ret
        exact ⟨⟨true, rfl, ⟨fun _ => ⟨HN.out.trans HN2.out.symm, fun j h h' => HP.out j h h' (by have := HN.out; omega)⟩, fun _ => rfl⟩⟩, BB.out⟩
  · have e0 : ((n : Int) != n2) = true := by simp; omega
    have hh' := Hid.mk hh
    clear hh
    go_enter Try.func30, Try.ntmps30
    go_wp2
    go_ret
    exact ⟨⟨false, rfl, ⟨fun h => (by cases h), fun h => absurd (HN.out.symm.trans (h.1.trans HN2.out)) hh'.out⟩⟩, Below.refl _ _⟩
theorem f29_any (l r : List Int) (o1 o2 : Option Addr) (c1 c2 m bm : Nat) (w : World) (P1 : PS .i64 w o1 c1 l) (P2 : PS .i64 w o2 c2 r) (c : w.cell? ⟨bm, 0, none⟩ = some (.int .i64 m)) :
    Calls Try.prog 29 #[.slice o1 l.length c1, .slice o2 r.length c2, pt bm] w fun e w' => (∃ b, e = .returned (.bool b) ∧ (b = true ↔ SameN m l r)) ∧ Below w.heap.size w w' := by
  have C := eqf30 l r o1 o2 c1 c2 m bm w P1 P2 c
  clear P1 P2
  go_enter Try.func29, Try.ntmps29
  go_wp2_with (go_at_call 30; refine C.mono ?_; clear C; rintro e w1 ⟨⟨b, rfl, hb⟩, B1⟩; have HB := Hid.mk hb; clear hb)
  go_ret
  exact ⟨⟨b, rfl, HB.out⟩, B1⟩
set_option maxHeartbeats 2000000 in
theorem eq34 (l r : List Int) (o1 o2 : Option Addr) (c1 c2 : Nat) (w : World) (P1 : PS .u64 w o1 c1 l) (P2 : PS .u64 w o2 c2 r) :
    Calls Try.prog 34 #[.slice o1 l.length c1, .slice o2 r.length c2] w fun e w' => (∃ b, e = .returned (.bool b) ∧ (b = true ↔ SameL l r)) ∧ Below w.heap.size w w' := by
  have H1 := Hid.mk P1
  have H2 := Hid.mk P2
  have hc1 := P1.cap
  have hc2 := P1.len
  have hc3 := P2.cap
  clear P1 P2
  unfold maxLen at hc2
  obtain ⟨n, hn⟩ : ∃ n, l.length = n := ⟨_, rfl⟩
  obtain ⟨n2, hn2⟩ : ∃ n, r.length = n := ⟨_, rfl⟩
  have HN := Hid.mk hn
  have HN2 := Hid.mk hn2
  rw [hn, hn2]
  rw [hn] at hc1 hc2
  rw [hn2] at hc3
  clear hn hn2
  by_cases hh : n = n2
  · subst hh
    have e0 : ((n : Int) != n) = false := by simp
    go_enter Try.func34, Try.ntmps34
    go_wp2
    go_loopw [13] (fun cv wr => ∃ i : Nat, cv = .int .i64 i ∧ i ≤ n ∧ Hid (∀ j (h : j < l.length) (h' : j < r.length), j < i → l[j] = r[j]) ∧ Hid (Below w.heap.size w wr)) (fun cv _ => n - (intOf cv).toNat)
    case atStart => exact ⟨0, rfl, Nat.zero_le _, ⟨fun j _ _ hj => absurd hj (Nat.not_lt_zero _)⟩, ⟨Below.refl _ _⟩⟩
    case round =>
      obtain ⟨i, rfl, hi, HP, BB⟩ := hrel
      by_cases hlt : i < n
      · have hlt' : (i : Int) < n := by omega
        have kl : i < l.length := by rw [HN.out]; exact hlt
        have kr : i < r.length := by rw [HN2.out]; exact hlt
        obtain ⟨g1, f1, rfl, cx⟩ := (H1.out.later BB.out).get i kl
        obtain ⟨g2, f2, rfl, cy⟩ := (H2.out.later BB.out).get i kr
        have HE : Hid (∀ j (h : j < l.length) (h' : j < r.length), j = i → (l[j] = r[j] ↔ l[i] = r[i])) := ⟨fun j h h' e => by subst e; rfl⟩
        generalize l[i] = x at cx HE
        generalize r[i] = y at cy HE
        by_cases hz : x = y
        · have hz' : Hid (x = y) := ⟨hz⟩
          have en : (x != y) = false := by simp [hz]
          clear hz
          go_wp2
          go_quiet (fail)
          go_wp2
          exact ⟨⟨i + 1, by go_num, by omega, ⟨fun j h1 h2 hj => (Nat.lt_succ_iff_lt_or_eq.1 hj).elim (HP.out j h1 h2) (fun e => (HE.out j h1 h2 e).2 hz'.out)⟩, ⟨below_drewN BB.out _⟩⟩, by simp [intOf]; omega⟩
        · have hz' : Hid (¬ x = y) := ⟨hz⟩
          have en : (x != y) = true := by simpa using hz
          clear hz
          go_wp2
          go_quiet (fail)
          go_wp2
          go_ret
          exact ⟨⟨false, rfl, ⟨fun h => (by cases h), fun h => absurd ((HE.out i kl kr rfl).1 (h.2 i kl kr)) hz'.out⟩⟩, below_drewN BB.out _⟩
      · obtain rfl : i = n := by omega
        go_wp2
        go_ret
        exact ⟨⟨true, rfl, ⟨fun _ => ⟨HN.out.trans HN2.out.symm, fun j h h' => HP.out j h h' (by have := HN.out; omega)⟩, fun _ => rfl⟩⟩, BB.out⟩
  · have e0 : ((n : Int) != n2) = true := by simp; omega
    have hh' := Hid.mk hh
    clear hh
    go_enter Try.func34, Try.ntmps34
    go_wp2
    go_ret
    exact ⟨⟨false, rfl, ⟨fun h => (by cases h), fun h => absurd (HN.out.symm.trans (h.1.trans HN2.out)) hh'.out⟩⟩, Below.refl _ _⟩
end Go.Proofs.Ytncimddgkgclpaa
