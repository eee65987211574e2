/- The longest run, by the document's own pool. -/
import Derived.Test.YtaeehhonahhelaaRefRows
namespace Go.Proofs.Ytaeehhonahhelaa
open Go.RowKit
set_option linter.unusedVariables false

theorem sl_shape {w : World} {v : Value} {xs : List Int} (h : Sl w v xs) : ∃ ao c, v = .slice ao xs.length c ∧ ∀ j, j < xs.length → ∃ g, ao = some ⟨g, 0, none⟩ ∧ w.cell? ⟨g, j, none⟩ = some (.int .i64 (xs.getD j 0)) := by
  rcases h with ⟨rfl, rfl⟩ | ⟨g, c, rfl, h1, h2⟩
  · exact ⟨none, 0, rfl, fun j hj => by simp at hj⟩
  · exact ⟨_, c, rfl, fun j hj => ⟨g, rfl, h2 j hj⟩⟩
theorem maxR_le {l : List (Nat × Nat)} {M : Nat} (h : ∀ s ∈ l, s.2 ≤ M) : maxR l ≤ M := by
  by_cases q : 1 ≤ maxR l
  · obtain ⟨s, hs, e⟩ := max_mem q
    have := h s hs
    omega
  · omega
theorem maxR_next {l : List (Nat × Nat)} {j : Nat} (h : j < l.length) : maxR (l.take (j + 1)) = max (maxR (l.take j)) (l[j]).2 := by
  unfold maxR
  rw [List.take_succ_eq_append_getElem h, List.foldl_append]
  rfl
theorem ns_get {l : List (Nat × Nat)} {j : Nat} (h : j < l.length) : (ns l).getD j 0 = ((l[j]).2 : Int) := by
  simp [ns, h]
set_option maxRecDepth 100000 in
set_option maxHeartbeats 4000000 in
theorem rlongest_ok {w : World} {p b N c : Nat} {f : Nat → Int} (h : Ref w p b f N c) (G : Good f N) :
    Calls Try.prog 31 #[.pointer (some ⟨p, 0, none⟩)] w fun e w' => e = .returned (.int .i64 (longest f N)) ∧ Below w.heap.size w w' := by
  have l := h.len
  have RR := rrows_ok h G true
  unfold longest
  have sm : ∀ s ∈ parts f N true, s.2 ≤ N := fun s hs => by have := run_mem hs; omega
  have pl := parts_len f N true
  obtain ⟨L, hL⟩ : ∃ L, parts f N true = L := ⟨_, rfl⟩
  rw [hL] at RR sm pl ⊢
  clear hL h G
  have HS : Hid (∀ s ∈ L, s.2 ≤ N) := sm
  clear sm
  go_enter Try.func31, Try.ntmps31
  go_wp2_with (go_at_call 29; refine RR.mono ?_; rintro e w1 ⟨va, vb, rfl, LS, B1⟩)
  obtain ⟨ao, ca, rfl, hc⟩ := sl_shape (sl_of LS.ob)
  have HC : Hid (∀ j, j < (ns L).length → ∃ g, ao = some ⟨g, 0, none⟩ ∧ w1.cell? ⟨g, j, none⟩ = some (.int .i64 ((ns L).getD j 0))) := hc
  rw [ns_length] at HC ⊢
  clear RR LS hc
  obtain ⟨M, hM⟩ : ∃ M, L.length = M := ⟨_, rfl⟩
  have HM : Hid (L.length = M) := hM
  rw [hM] at HC pl ⊢
  clear hM
  go_loop [5, 6] (fun m q => ∃ j : Nat, j ≤ M ∧ m = .int .i64 (maxR (L.take j) : Nat) ∧ q = .int .i64 j) (fun _ q => M - (intOf q).toNat)
  case atStart => exact ⟨0, Nat.zero_le _, rfl, rfl⟩
  case round =>
    obtain ⟨j, hj, rfl, rfl⟩ := hrel
    by_cases hlt : j < M
    · obtain ⟨g, rfl, cj⟩ := HC.out j hlt
      have hl : j < L.length := by rw [HM.out]; exact hlt
      rw [ns_get hl] at cj
      have b1 : (L[j]).2 ≤ N := HS.out _ (List.getElem_mem hl)
      have b2 : maxR (L.take j) ≤ N := maxR_le (fun s hs => HS.out s (List.mem_of_mem_take hs))
      have HX : Hid (maxR (L.take (j + 1)) = max (maxR (L.take j)) (L[j]).2) := maxR_next hl
      obtain ⟨y, hy⟩ : ∃ y, (L[j]).2 = y := ⟨_, rfl⟩
      obtain ⟨x, hx⟩ : ∃ x, maxR (L.take j) = x := ⟨_, rfl⟩
      rw [hy] at cj b1 HX
      rw [hx] at b2 HX ⊢
      clear hy hx hl
      by_cases q : x < y
      · have HY : Hid (maxR (L.take (j + 1)) = y) := by rw [HX.out, Nat.max_eq_right (by omega)]; exact rfl
        clear HX
        go_wp2
        all_goals go_round
        all_goals first
          | exact ⟨j + 1, by omega, by rw [HY.out], by go_num⟩
          | (simp [intOf]; omega)
      · have HY : Hid (maxR (L.take (j + 1)) = x) := by rw [HX.out, Nat.max_eq_left (by omega)]; exact rfl
        clear HX
        go_wp2
        all_goals go_round
        all_goals first
          | exact ⟨j + 1, by omega, by rw [HY.out], by go_num⟩
          | (simp [intOf]; omega)
    · obtain rfl : j = M := by omega
      rw [show L.take j = L by rw [← HM.out, List.take_length]]
      go_wp2
      go_ret
      exact ⟨rfl, B1⟩
end Go.Proofs.Ytaeehhonahhelaa
