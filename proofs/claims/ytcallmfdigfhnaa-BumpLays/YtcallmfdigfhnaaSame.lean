/- Two lists compared by the law's own helper. -/
import Derived.Test.YtcallmfdigfhnaaPush
namespace Go.Proofs.Ytcallmfdigfhnaa
open Go.RowKit
set_option linter.unusedVariables false

/-- A slice value whose elements are these numbers. -/
def Sl (w : World) (v : Value) (xs : List Int) : Prop := (v = .slice none 0 0 ∧ xs = []) ∨ ∃ g c, v = .slice (some ⟨g, 0, none⟩) xs.length c ∧ g < w.heap.size ∧ ∀ j, j < xs.length → w.cell? ⟨g, j, none⟩ = some (.int .i64 (xs.getD j 0))
theorem Sl.later {w w' : World} {v : Value} {xs : List Int} (h : Sl w v xs) (B : Below w.heap.size w w') : Sl w' v xs := by
  rcases h with h | ⟨g, c, h1, h2, h3⟩
  · exact .inl h
  · exact .inr ⟨g, c, h1, Nat.lt_of_lt_of_le h2 B.size, fun j hj => (B.cell (p := ⟨g, j, none⟩) h2).trans (h3 j hj)⟩
theorem sl_of {w : World} {n : Nat} {v : Value} {xs : List Int} (h : w.ownsRow n 3 1 v xs.length (ints xs)) : Sl w v xs := by
  rcases h.2 with ⟨h1, h2⟩ | ⟨g, cap, cur, hv, hb, hg, h1, h2, h3, h4⟩
  · exact .inl ⟨h1, List.eq_nil_of_length_eq_zero h2⟩
  · refine .inr ⟨g, cap, hv, (Array.getElem?_eq_some_iff.1 hg).1, fun j hj => ?_⟩
    rw [Joins.cell_of_block hg]
    have e : (cur.toList.take (xs.length * 1))[j]? = (ints xs)[j]? := by rw [h4]
    rw [Nat.mul_one, List.getElem?_take_of_lt hj] at e
    have : (ints xs)[j]? = some (.int .i64 (xs.getD j 0)) := by simp [ints, hj]
    rw [this] at e
    simpa using e
set_option maxHeartbeats 1000000 in
theorem same_true {w : World} {va vb : Value} {xs : List Int} (ha : Sl w va xs) (hb : Sl w vb xs) (hl : xs.length ≤ 10000) :
    Calls Try.prog 31 #[va, vb] w fun e w' => e = .returned (.bool true) ∧ Below w.heap.size w w' := by
  rcases Nat.eq_zero_or_pos xs.length with h0 | h0
  · have na : ∃ a c, va = .slice a 0 c := by
      rcases ha with ⟨h, _⟩ | ⟨g, c, h, _⟩
      · exact ⟨none, 0, h⟩
      · exact ⟨_, c, by rw [h, h0]⟩
    have nb : ∃ a c, vb = .slice a 0 c := by
      rcases hb with ⟨h, _⟩ | ⟨g, c, h, _⟩
      · exact ⟨none, 0, h⟩
      · exact ⟨_, c, by rw [h, h0]⟩
    obtain ⟨a, c, rfl⟩ := na
    obtain ⟨a', c', rfl⟩ := nb
    clear ha hb
    go_enter Try.func31, Try.ntmps31
    go_wp2
    go_loop [5] (fun i => i = .int .i64 0) (fun _ => 0)
    case atStart => rfl
    case round =>
      subst hrel
      go_wp2
      go_ret
      exact ⟨rfl, Below.refl _ _⟩
  · rcases ha with ⟨_, h⟩ | ⟨g, c, rfl, lg, ca⟩
    · rw [h] at h0; simp at h0
    rcases hb with ⟨_, h⟩ | ⟨g', c', rfl, lg', cb⟩
    · rw [h] at h0; simp at h0
    have CA : Hid (∀ j, j < xs.length → w.cell? ⟨g, j, none⟩ = some (.int .i64 (xs.getD j 0))) := ca
    have CB : Hid (∀ j, j < xs.length → w.cell? ⟨g', j, none⟩ = some (.int .i64 (xs.getD j 0))) := cb
    clear ca cb
    obtain ⟨n, hn⟩ : ∃ n, xs.length = n := ⟨_, rfl⟩
    rw [hn] at CA CB hl h0 ⊢
    clear hn
    go_enter Try.func31, Try.ntmps31
    go_wp2
    go_loopw [5] (fun i wr => ∃ k : Nat, k ≤ n ∧ i = .int .i64 k ∧ Below w.heap.size w wr) (fun i _ => n - (intOf i).toNat)
    case atStart => exact ⟨0, Nat.zero_le _, rfl, Below.refl _ _⟩
    case round =>
      obtain ⟨k, hk, rfl, B⟩ := hrel
      by_cases hlt : k < n
      · have c1 : wr.cell? ⟨g, k, none⟩ = some (.int .i64 (xs.getD k 0)) := (B.cell (p := ⟨g, k, none⟩) lg).trans (CA.out k hlt)
        have c2 : wr.cell? ⟨g', k, none⟩ = some (.int .i64 (xs.getD k 0)) := (B.cell (p := ⟨g', k, none⟩) lg').trans (CB.out k hlt)
        obtain ⟨x, hx⟩ : ∃ x, xs.getD k 0 = x := ⟨_, rfl⟩
        rw [hx] at c1 c2
        clear hx
        go_wp2
        go_quiet (fail)
        go_wp2
        go_roundw
        case rel => exact ⟨k + 1, by omega, by go_num, below_drewN B _⟩
        case measure => simp [intOf]; omega
      · obtain rfl : k = n := by omega
        go_wp2
        go_ret
        exact ⟨rfl, B⟩

end Go.Proofs.Ytcallmfdigfhnaa
