/- The way's ring; field of what is lost. -/
import Derived.Test.YtncimddgkgclpaaWyc
namespace Go.Proofs.Ytncimddgkgclpaa
open Go.RowKit
set_option linter.unusedVariables false
set_option linter.unusedSimpArgs false
set_option maxRecDepth 100000

theorem field_none (wb : Nat) (s : Int) (w : World) : Calls Try.prog 43 #[pt wb, .int .i64 s, .int .i64 (-1)] w fun e w' => e = .returned (.int .i64 (-1)) ∧ w' = w := by
  go_enter Try.func43, Try.ntmps43
  go_wp2
  go_ret
  exact ⟨rfl, rfl⟩
theorem f55_any (n : Int) (b : Bool) (w : World) : Calls Try.prog 55 #[.agg #[.int .i64 n, .bool b]] w fun e w' => e = .returned (.bool (!b)) ∧ Below w.heap.size w w' := by
  go_enter Try.func55, Try.ntmps55
  go_wp2
  go_ret
  exact ⟨rfl, by go_grown⟩
theorem find_at : ∀ (Q : List (Nat × Bool)) (k : Nat) (h : k < Q.length), Q[k].2 = false → (∀ j (hj : j < k), (Q[j]'(Nat.lt_trans hj h)).2 = true) → Q.find? (fun s => !s.2) = some Q[k]
  | s :: r, 0, _, e, _ => by
    have e' : s.2 = false := e
    simp [List.find?, e']
  | s :: r, k + 1, h, e, al => by
    have e0 : s.2 = true := al 0 (Nat.succ_pos _)
    simp only [List.find?, e0, Bool.not_true, List.getElem_cons_succ]
    exact find_at r k (by simpa using h) e (fun j hj => al (j + 1) (by omega))
theorem find_no {Q : List (Nat × Bool)} (al : ∀ j (h : j < Q.length), Q[j].2 = true) : Q.find? (fun s => !s.2) = none := by
  rw [List.find?_eq_none]
  intro s hs
  obtain ⟨j, hj, rfl⟩ := List.getElem_of_mem hs
  simp [al j hj]
set_option maxHeartbeats 2000000 in
theorem idx54 (Q : List (Nat × Bool)) (pb o cap : Nat) (w : World) (hc : Q.length ≤ cap) (hl : Q.length ≤ 1000000)
    (hq : ∀ i (h : i < Q.length), w.cell? ⟨pb, o + i * 2, none⟩ = some (.int .i64 Q[i].1) ∧ w.cell? ⟨pb, o + i * 2 + 1, none⟩ = some (.bool Q[i].2)) :
    Calls Try.prog 54 #[.slice (some ⟨pb, o, none⟩) Q.length cap, .func (.func 55) #[] #[]] w fun e w' => (∃ z : Int, e = .returned (.int .i64 z) ∧ ((z = -1 ∧ Q.find? (fun s => !s.2) = none) ∨ ∃ (k : Nat) (h : k < Q.length), z = k ∧ Q.find? (fun s => !s.2) = some Q[k])) ∧ Below w.heap.size w w' := by
  obtain ⟨n, hn⟩ : ∃ n, Q.length = n := ⟨_, rfl⟩
  have HN := Hid.mk hn
  have HQ := Hid.mk (fun (W : World) (b : Below w.heap.size w W) (i : Nat) (h : i < Q.length) => And.intro (cellLater b (hq i h).1) (cellLater b (hq i h).2))
  have HR : Hid (∀ z : Int, ((z = -1 ∧ Q.find? (fun s => !s.2) = none) ∨ ∃ (k : Nat) (h : k < Q.length), z = k ∧ Q.find? (fun s => !s.2) = some Q[k]) ↔ ((z = -1 ∧ Q.find? (fun s => !s.2) = none) ∨ ∃ (k : Nat) (h : k < Q.length), z = k ∧ Q.find? (fun s => !s.2) = some Q[k])) := ⟨fun _ => Iff.rfl⟩
  generalize hP : (fun z : Int => (z = -1 ∧ Q.find? (fun s => !s.2) = none) ∨ ∃ (k : Nat) (h : k < Q.length), z = k ∧ Q.find? (fun s => !s.2) = some Q[k]) = Pz
  have HP := Hid.mk (fun z => (congrFun hP z).symm)
  suffices hs : Calls Try.prog 54 #[.slice (some ⟨pb, o, none⟩) Q.length cap, .func (.func 55) #[] #[]] w fun e w' => (∃ z : Int, e = .returned (.int .i64 z) ∧ Pz z) ∧ Below w.heap.size w w' by
    refine hs.mono ?_
    rintro e w' ⟨⟨z, h1, h2⟩, h3⟩
    exact ⟨⟨z, h1, by rw [HP.out] at h2; exact h2⟩, h3⟩
  clear hP HR hq
  rw [hn] at hc hl ⊢
  clear hn
  go_enter Try.func54, Try.ntmps54
  go_wp2
  go_loopw [8] (fun i wr => ∃ k : Nat, i = .int .i64 k ∧ k ≤ n ∧ Hid (∀ j (h : j < Q.length), j < k → Q[j].2 = true) ∧ Hid (Below w.heap.size w wr)) (fun i _ => n - (intOf i).toNat)
  case atStart => exact ⟨0, rfl, Nat.zero_le _, ⟨fun j _ hj => absurd hj (Nat.not_lt_zero _)⟩, ⟨Below.refl _ _⟩⟩
  case round =>
    obtain ⟨k, rfl, hk, HF, HB⟩ := hrel
    by_cases hlt : k < n
    · have hlt' : (k : Int) < n := by omega
      have hkl : k < Q.length := by rw [HN.out]; exact hlt
      obtain ⟨c0, c1⟩ := HQ.out _ HB.out k hkl
      have HA : Hid (∀ b, Q[k].2 = b → (b = false → Pz k) ∧ (b = true → ∀ j (h : j < Q.length), j = k → Q[j].2 = true)) := ⟨fun b e => ⟨fun eb => by
        rw [HP.out]; exact .inr ⟨k, hkl, rfl, find_at Q k hkl (e.trans eb) (fun j hj => HF.out j (by omega) hj)⟩, fun eb j h ej => by subst ej; exact e.trans eb⟩⟩
      obtain ⟨b, hb⟩ : ∃ b, Q[k].2 = b := ⟨_, rfl⟩
      have HB2 := Hid.mk (HA.out b hb)
      rw [hb] at c1
      generalize Q[k].1 = y at c0
      clear hb HA
      have CF := fun W => f55_any y b W
      cases b with
      | false =>
        go_wp2_with (go_at_call 55; refine (CF _).mono ?_; clear CF; rintro e w1 ⟨rfl, B1⟩)
        go_ret
        exact ⟨⟨k, rfl, HB2.out.1 trivial⟩, belowOn HB.out B1⟩
      | true =>
        go_wp2_with (go_at_call 55; refine (CF _).mono ?_; clear CF; rintro e w1 ⟨rfl, B1⟩)
        go_roundw
        case rel => exact ⟨k + 1, by go_num, by omega, ⟨fun j h hj => (Nat.lt_succ_iff_lt_or_eq.1 hj).elim (HF.out j h) (HB2.out.2 trivial j h)⟩, ⟨belowOn HB.out B1⟩⟩
        case measure => simp [intOf]; omega
    · obtain rfl : k = n := by omega
      have e : Hid (Pz (-1)) := ⟨by rw [HP.out]; exact .inl ⟨rfl, find_no fun j h => HF.out j h (by have := HN.out; omega)⟩⟩
      go_wp2
      go_ret
      exact ⟨⟨-1, rfl, e.out⟩, HB.out⟩
section
variable {w0 w w' : World} {wb eb sb ca : Nat} {g : List Nd} {a : Option Addr} {E S : Nat → Int} {v : Value} {P : List (Nat × Bool)}
/-- the path's row, where it is not empty -/
theorem Wy.row (h : Wy w0 w wb eb sb g a ca E S v P) (hp : 0 < P.length) : ∃ pb cap, v = .slice (some ⟨pb, 0, none⟩) P.length cap ∧ P.length ≤ cap ∧ cap ≤ maxLen ∧ w0.heap.size ≤ pb ∧ pb ≠ wb ∧ pb ≠ eb ∧ pb ≠ sb ∧
    (∃ cur, w.heap[pb]? = some (.cells cur 67 (0, 0)) ∧ cur.size = cap * 2) ∧ ∀ i (hi : i < P.length), w.cell? ⟨pb, i * 2, none⟩ = some (.int .i64 P[i].1) ∧ w.cell? ⟨pb, i * 2 + 1, none⟩ = some (.bool P[i].2) := by
  obtain ⟨hl, ⟨_, h0⟩ | ⟨pb, cap, cur, e, hb, hg, h1, h2, h3, h4⟩⟩ := h.path
  · omega
  · obtain ⟨ce, e1, _⟩ := h.ends
    obtain ⟨cs, s1, _⟩ := h.spots
    refine ⟨pb, cap, e, h1, h2, hb, ne_kind hg h.box (by decide), ne_kind hg e1 (by decide), ne_kind hg s1 (by decide), ⟨cur, hg, h3⟩, fun i hi => ?_⟩
    obtain ⟨f1, f2⟩ := flat_get P i hi
    rw [← h4] at f1 f2
    rw [Joins.cell_of_block hg, Joins.cell_of_block hg]
    rw [List.getElem?_take_of_lt (by omega)] at f1 f2
    exact ⟨by simpa using f1, by simpa using f2⟩
set_option maxHeartbeats 2000000 in
theorem ring47 (h : Wy w0 w wb eb sb g a ca E S v P) {s : Nat} (hs : s < P.length) (hP : P.length ≤ 100000) :
    Calls Try.prog 47 #[pt wb, .int .i64 s] w fun e w' => e = .returned (.int .i64 (oI (ringO (P.drop s)))) ∧ Below w.heap.size w w' := by
  obtain ⟨pb, cap, rfl, h1, h2, h3, h4, h5, h6, ⟨cur, hg, hsz⟩, hc⟩ := h.row (by omega)
  have c2 := h.c2
  have CI := idx54 (P.drop s) pb (s * 2) (cap - s) w (by simp; omega) (by simp; omega) (fun i hi => by
    rw [List.length_drop] at hi
    have e : (P.drop s)[i]'(by simpa using hi) = P[s + i] := by simp
    rw [e, show s * 2 + i * 2 = (s + i) * 2 by omega]
    exact hc (s + i) (by omega))
  obtain ⟨n, hn⟩ : ∃ n, P.length = n := ⟨_, rfl⟩
  have HN := Hid.mk hn
  have CJ : Calls Try.prog 54 #[.slice (some ⟨pb, s * 2, none⟩) (n - s) (cap - s), .func (.func 55) #[] #[]] w fun e w' => (∃ z : Int, e = .returned (.int .i64 z) ∧ ((z = -1 ∧ ringO (P.drop s) = none) ∨ ∃ (k y : Nat), k < n - s ∧ z = k ∧ ringO (P.drop s) = some y ∧ w'.cell? ⟨pb, (s + k) * 2, none⟩ = some (.int .i64 y))) ∧ Below w.heap.size w w' := by
    have e : (P.drop s).length = n - s := by rw [List.length_drop, hn]
    rw [← e]
    refine CI.mono ?_
    rintro e w' ⟨⟨z, rfl, hz⟩, B⟩
    refine ⟨⟨z, rfl, ?_⟩, B⟩
    rcases hz with ⟨rfl, q⟩ | ⟨k, hk, rfl, q⟩
    · exact .inl ⟨rfl, by simp [ringO, q]⟩
    · refine .inr ⟨k, (P.drop s)[k].1, hk, rfl, by simp [ringO, q], ?_⟩
      rw [List.length_drop] at hk
      have e : (P.drop s)[k]'(by simpa using hk) = P[s + k] := by simp
      rw [e]
      exact cellLater B (hc (s + k) (by omega)).1
  rw [hn] at c2 h1 hs hP
  unfold maxLen at h2
  clear hn hc h CI
  have hs' : (s : Int) ≤ n := by omega
  have w1' : ((n : Int) - s).toNat = n - s := by omega
  go_enter Try.func47, Try.ntmps47
  go_wp2_with (go_at_call 54; refine CJ.mono ?_; clear CJ; rintro e w1 ⟨⟨z, rfl, hz⟩, B1⟩; have d2 := cellLater B1 c2; rcases hz with ⟨rfl, hr⟩ | ⟨k, y, hk, rfl, hr, cy⟩ <;> (have HR := Hid.mk hr; clear hr))
  · go_ret
    exact ⟨by rw [HR.out]; rfl, B1⟩
  · go_ret
    exact ⟨by rw [HR.out]; rfl, B1⟩
end
end Go.Proofs.Ytncimddgkgclpaa
