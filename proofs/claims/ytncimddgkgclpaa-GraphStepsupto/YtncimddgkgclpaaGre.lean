/- The document's Same. -/
import Derived.Test.YtncimddgkgclpaaGrd
import Derived.Deep.RegionHeld3
namespace Go.Proofs.Ytncimddgkgclpaa
open Go.RowKit
set_option linter.unusedVariables false
set_option linter.unusedSimpArgs false
set_option maxRecDepth 100000

theorem real_any (o a : Option Addr) (n1 c1 m d1 : Nat) (k : Int) (w : World) :
    Calls Try.prog 35 #[.agg #[.slice o n1 c1, .slice a m d1], .int .i64 k] w fun e w' => e = .returned (.int .i64 (kn m k)) ∧ Below w.heap.size w w' := by
  by_cases h1 : k < 0
  · rw [kn_no (by omega)]
    go_enter Try.func35, Try.ntmps35
    go_wp2
    go_ret
    exact ⟨rfl, by go_grown⟩
  · by_cases h2 : k < m
    · rw [kn_yes (by omega)]
      have h3 : ¬ (k ≥ (m : Int)) := by omega
      go_enter Try.func35, Try.ntmps35
      go_wp2
      go_ret
      exact ⟨rfl, by go_grown⟩
    · rw [kn_no (by omega)]
      have h3 : k ≥ (m : Int) := by omega
      go_enter Try.func35, Try.ntmps35
      go_wp2
      go_ret
      exact ⟨rfl, by go_grown⟩
set_option maxHeartbeats 4000000 in
theorem same20 (l r : List Int) (o1 o2 o3 o4 a1 a2 : Option Addr) (c1 c2 c3 c4 d1 d2 n3 n4 m : Nat) (w : World) (P1 : PS .i64 w o1 c1 l) (P2 : PS .i64 w o2 c2 r) :
    Calls Try.prog 20 #[.agg #[.slice o3 n3 c3, .slice a1 m d1], .agg #[.slice o4 n4 c4, .slice a2 m d2], .slice o1 l.length c1, .slice o2 r.length c2] w fun e w' => (∃ b, e = .returned (.bool b) ∧ (b = true ↔ SameN m l r)) ∧ Below w.heap.size w w' := by
  have H1 := Hid.mk P1
  have H2 := Hid.mk P2
  have hc1 := P1.cap
  have hc2 := P1.len
  have hc3 := P2.cap
  clear P1 P2
  unfold maxLen at hc2
  obtain ⟨n, hn⟩ : ∃ n, l.length = n := ⟨_, rfl⟩
  obtain ⟨n2, hn2⟩ : ∃ n, r.length = n := ⟨_, rfl⟩
  have HN := Hid.mk hn
  have HN2 := Hid.mk hn2
  rw [hn, hn2]
  rw [hn] at hc1 hc2
  rw [hn2] at hc3
  clear hn hn2
  have B0 : Below w.heap.size w ((w.alloc (.cells #[.slice o3 n3 c3, .slice a1 m d1] 25)).alloc (.cells #[.slice o4 n4 c4, .slice a2 m d2] 25)) := by go_grown
  have HB0 := Hid.mk B0
  by_cases hh : n = n2
  · subst hh
    have e0 : ((n : Int) != n) = false := by simp
    have x0 : ((w.alloc (.cells #[.slice o3 n3 c3, .slice a1 m d1] 25)).alloc (.cells #[.slice o4 n4 c4, .slice a2 m d2] 25)).cell? ⟨w.heap.size, 0, none⟩ = some (.slice o3 n3 c3) := by simp [go_sem]
    have x1 : ((w.alloc (.cells #[.slice o3 n3 c3, .slice a1 m d1] 25)).alloc (.cells #[.slice o4 n4 c4, .slice a2 m d2] 25)).cell? ⟨w.heap.size, 1, none⟩ = some (.slice a1 m d1) := by simp [go_sem]
    have x2 : ((w.alloc (.cells #[.slice o3 n3 c3, .slice a1 m d1] 25)).alloc (.cells #[.slice o4 n4 c4, .slice a2 m d2] 25)).cell? ⟨w.heap.size + 1, 0, none⟩ = some (.slice o4 n4 c4) := by simp [go_sem]
    have x3 : ((w.alloc (.cells #[.slice o3 n3 c3, .slice a1 m d1] 25)).alloc (.cells #[.slice o4 n4 c4, .slice a2 m d2] 25)).cell? ⟨w.heap.size + 1, 1, none⟩ = some (.slice a2 m d2) := by simp [go_sem]
    have HS0 := Hid.mk (fun (W : World) (b : Below ((w.alloc (.cells #[.slice o3 n3 c3, .slice a1 m d1] 25)).alloc (.cells #[.slice o4 n4 c4, .slice a2 m d2] 25)).heap.size ((w.alloc (.cells #[.slice o3 n3 c3, .slice a1 m d1] 25)).alloc (.cells #[.slice o4 n4 c4, .slice a2 m d2] 25)) W) => And.intro (cellLater b x0) (And.intro (cellLater b x1) (And.intro (cellLater b x2) (cellLater b x3))))
    clear x0 x1 x2 x3
    go_enter Try.func20, Try.ntmps20
    go_wp2
    generalize (w.alloc (.cells #[.slice o3 n3 c3, .slice a1 m d1] 25)).alloc (.cells #[.slice o4 n4 c4, .slice a2 m d2] 25) = W at *
    go_loopw [9] (fun cv wr => ∃ i : Nat, cv = .int .i64 i ∧ i ≤ n ∧ Hid (∀ j (h : j < l.length) (h' : j < r.length), j < i → kn m l[j] = kn m r[j]) ∧ Hid (Below W.heap.size W wr)) (fun cv _ => n - (intOf cv).toNat)
    case atStart => exact ⟨0, rfl, Nat.zero_le _, ⟨fun j _ _ hj => absurd hj (Nat.not_lt_zero _)⟩, ⟨Below.refl _ _⟩⟩
    case round =>
      obtain ⟨i, rfl, hi, HP, BB⟩ := hrel
      by_cases hlt : i < n
      · have hlt' : (i : Int) < n := by omega
        have kl : i < l.length := by rw [HN.out]; exact hlt
        have kr : i < r.length := by rw [HN2.out]; exact hlt
        obtain ⟨g1, f1, rfl, cx⟩ := (H1.out.later (belowOn HB0.out BB.out)).get i kl
        obtain ⟨g2, f2, rfl, cy⟩ := (H2.out.later (belowOn HB0.out BB.out)).get i kr
        have HE : Hid (∀ j (h : j < l.length) (h' : j < r.length), j = i → (kn m l[j] = kn m r[j] ↔ kn m l[i] = kn m r[i])) := ⟨fun j h h' e => by subst e; rfl⟩
        generalize l[i] = x at cx HE
        generalize r[i] = y at cy HE
        obtain ⟨z0, z1, z2, z3⟩ := HS0.out _ BB.out
        have HS1 := Hid.mk (fun (W' : World) (b : Below wr.heap.size wr W') => And.intro (cellLater b z0) (And.intro (cellLater b z1) (And.intro (cellLater b z2) (And.intro (cellLater b z3) (And.intro (cellLater b cx) (cellLater b cy))))))
        have HX : Hid (Below wr.heap.size wr wr.drew) := ⟨(Below.refl _ _).drew⟩
        have R1 := fun (W : World) => real_any o3 a1 n3 c3 m d1 x W
        have R2 := fun (W : World) => real_any o4 a2 n4 c4 m d2 y W
        generalize hkx : kn m x = kx at *
        generalize hky : kn m y = ky at *
        have hkx' := Hid.mk hkx
        have hky' := Hid.mk hky
        clear hkx hky
        by_cases hz : kx = ky
        · have hz' : Hid (kx = ky) := ⟨hz⟩
          have en : (kx != ky) = false := by simp [hz]
          clear hz
          go_wp2
          go_region_held3 (fun W' => W'.cell? ⟨w.heap.size, 0, none⟩ = some (.slice o3 n3 c3) ∧ W'.cell? ⟨w.heap.size, 1, none⟩ = some (.slice a1 m d1) ∧ W'.cell? ⟨w.heap.size + 1, 0, none⟩ = some (.slice o4 n4 c4) ∧ W'.cell? ⟨w.heap.size + 1, 1, none⟩ = some (.slice a2 m d2) ∧ W'.cell? ⟨g1, f1 + i, none⟩ = some (.int .i64 x) ∧ W'.cell? ⟨g2, f2 + i, none⟩ = some (.int .i64 y)) (go_keep) (first
            | (go_at_call_of 35 (Value.agg #[.slice o3 n3 c3, .slice a1 m d1]); refine (R1 _).mono ?_; rintro e w7 ⟨rfl, B7⟩; replace HX := Hid.mk (belowOn HX.out B7); obtain ⟨q0, q1, q2, q3, q4, q5⟩ := HS1.out _ HX.out)
            | (go_at_call_of 35 (Value.agg #[.slice o4 n4 c4, .slice a2 m d2]); refine (R2 _).mono ?_; rintro e w8 ⟨rfl, B8⟩; replace HX := Hid.mk (belowOn HX.out B8); obtain ⟨q0, q1, q2, q3, q4, q5⟩ := HS1.out _ HX.out))
          all_goals go_wp2
          all_goals go_roundw
          all_goals first
            | exact ⟨i + 1, by go_num, by omega, ⟨fun j h1 h2 hj => (Nat.lt_succ_iff_lt_or_eq.1 hj).elim (HP.out j h1 h2) (fun e => (HE.out j h1 h2 e).2 hz'.out)⟩, ⟨belowOn BB.out HX.out⟩⟩
            | (simp [intOf]; omega)
        · have hz' : Hid (¬ kx = ky) := ⟨hz⟩
          have en : (kx != ky) = true := by simpa using hz
          clear hz
          go_wp2
          go_region_held3 (fun W' => W'.cell? ⟨w.heap.size, 0, none⟩ = some (.slice o3 n3 c3) ∧ W'.cell? ⟨w.heap.size, 1, none⟩ = some (.slice a1 m d1) ∧ W'.cell? ⟨w.heap.size + 1, 0, none⟩ = some (.slice o4 n4 c4) ∧ W'.cell? ⟨w.heap.size + 1, 1, none⟩ = some (.slice a2 m d2) ∧ W'.cell? ⟨g1, f1 + i, none⟩ = some (.int .i64 x) ∧ W'.cell? ⟨g2, f2 + i, none⟩ = some (.int .i64 y)) (go_keep) (first
            | (go_at_call_of 35 (Value.agg #[.slice o3 n3 c3, .slice a1 m d1]); refine (R1 _).mono ?_; rintro e w7 ⟨rfl, B7⟩; replace HX := Hid.mk (belowOn HX.out B7); obtain ⟨q0, q1, q2, q3, q4, q5⟩ := HS1.out _ HX.out)
            | (go_at_call_of 35 (Value.agg #[.slice o4 n4 c4, .slice a2 m d2]); refine (R2 _).mono ?_; rintro e w8 ⟨rfl, B8⟩; replace HX := Hid.mk (belowOn HX.out B8); obtain ⟨q0, q1, q2, q3, q4, q5⟩ := HS1.out _ HX.out))
          all_goals go_wp2
          all_goals go_ret
          all_goals exact ⟨⟨false, rfl, ⟨fun h => (by cases h), fun h => absurd ((HE.out i kl kr rfl).1 (h.2 i kl kr)) hz'.out⟩⟩, belowOn HB0.out (belowOn BB.out HX.out)⟩
      · obtain rfl : i = n := by omega
        go_wp2
        go_ret
        exact ⟨⟨true, rfl, ⟨fun _ => ⟨HN.out.trans HN2.out.symm, fun j h h' => HP.out j h h' (by have := HN.out; omega)⟩, fun _ => rfl⟩⟩, belowOn HB0.out BB.out⟩
  · have e0 : ((n : Int) != n2) = true := by simp; omega
    have hh' := Hid.mk hh
    clear hh
    go_enter Try.func20, Try.ntmps20
    go_wp2
    go_ret
    exact ⟨⟨false, rfl, ⟨fun h => (by cases h), fun h => absurd (HN.out.symm.trans (h.1.trans HN2.out)) hh'.out⟩⟩, HB0.out⟩
end Go.Proofs.Ytncimddgkgclpaa
