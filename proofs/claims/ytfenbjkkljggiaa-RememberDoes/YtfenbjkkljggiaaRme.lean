/- Package remember: New; two rows compared; what must come at any rate. -/
import Derived.Test.YtfenbjkkljggiaaRmd
namespace Go.Proofs.Ytfenbjkkljggiaa
open Go.RowKit
set_option linter.unusedVariables false
set_option linter.unusedSimpArgs false

theorem below_drewN {w w1 : World} {m : Nat} (B : Below m w w1) (n : Nat) : Below m w (w1.drewN n) := by
  exact ⟨B.os, B.tape, B.output, B.size, B.block⟩
theorem info47 : (Try.prog.info? 47).map (fun i => (i.zero, i.size, i.bytes)) = some (some (.map none), 1, 8) := by kernel_rfl
def half (n k b : Nat) : List Value := (List.range n).map fun i => if i < k then Value.map (some (b + 1 + i)) else .map none
theorem made_half (n b : Nat) : madeCells #[.map none] n = (half n 0 b).toArray := by
  apply Array.ext
  · simp [madeCells, half]
  · intro i h1 h2
    simp [madeCells, half, Nat.mod_one]
theorem half_set (n k b : Nat) : half n (k + 1) b = (half n k b).set k (.map (some (b + 1 + k))) := by
  apply List.ext_getElem
  · simp [half]
  · intro j h1 h2
    simp only [half, List.getElem_map, List.getElem_range, List.getElem_set]
    split <;> split <;> first | rfl | omega | (split <;> first | rfl | omega) | (rename_i a b; subst b; rfl)
theorem half_all (n b : Nat) : half n n b = maps' n (fun i => b + 1 + i) := by
  unfold half maps'
  exact List.map_congr_left (fun i hi => by rw [if_pos (by simpa using hi)])
structure Mk (w W : World) (n k : Nat) : Prop where
  sets : W.heap[w.heap.size]? = some (.cells (half n k w.heap.size).toArray 47 (0, 0))
  map : ∀ i, i < k → SM W (w.heap.size + 1 + i) []
  size : W.heap.size = w.heap.size + 1 + k
  bel : Below w.heap.size w W
theorem Mk.next {w W : World} {n k : Nat} (h : Mk w W n k) : Mk w ((W.alloc (.map #[] 0)).setCell ⟨w.heap.size, k, none⟩ (.map (some W.heap.size))) n (k + 1) := by
  have hs := h.size
  have b1 : (W.alloc (.map #[] 0)).heap[w.heap.size]? = some (.cells (half n k w.heap.size).toArray 47 (0, 0)) := (Below.heap_alloc _ _ _ (by omega)).trans h.sets
  refine ⟨?_, fun i hi => ?_, by simp [hs]; omega, ?_⟩
  · rw [Joins.block_setCell b1, half_set, hs]; simp
  · by_cases e : i = k
    · subst e
      have := SM.made W
      rw [hs] at this
      exact this.of_block (Below.heap_setCell _ _ _ _ (show w.heap.size + 1 + i ≠ w.heap.size by omega))
    · have q := h.map i (by omega)
      exact (q.of_block (Below.heap_alloc _ _ _ q.lt)).of_block (Below.heap_setCell _ _ _ _ (show w.heap.size + 1 + i ≠ w.heap.size by omega))
  · exact (h.bel.alloc (by omega) _).setCell (Nat.le_refl _) _
theorem Mk.done {w W : World} {n : Nat} (h : Mk w W n n) (hn : 1 ≤ n ∧ n ≤ 4) : Ls w.heap.size (W.alloc (.cells #[.slice (some ⟨w.heap.size, 0, none⟩) n n] 49)) W.heap.size w.heap.size n (fun i => w.heap.size + 1 + i) (fun _ => []) := by
  have hs := h.size
  have b1 := h.sets
  rw [half_all] at b1
  exact ⟨heap_alloc_new _ _, (Below.heap_alloc _ _ _ (by omega)).trans b1, fun i hi => (h.map i hi).of_block (Below.heap_alloc _ _ _ (by omega)), fun i hi => gd_nil, fun i j _ _ e => by simp at e; omega, hn, ⟨by omega, Nat.le_refl _, fun i hi => by omega⟩⟩
set_option maxHeartbeats 1000000 in
theorem new_any (w : World) (n : Nat) (hn : 1 ≤ n ∧ n ≤ 4) :
    Calls Try.prog 8 #[.int .i64 (n : Int)] w fun e w' => ∃ s sb m, e = .returned (.tuple #[pv s, .int .i64 0]) ∧ Ls w.heap.size w' s sb n m (fun _ => []) ∧ Below w.heap.size w w' := by
  have hmm := @run_makeMap Try.prog
  have hmk := Go.run_make_row' (P := Try.prog) 45 47 (.map none) 8 Try.underlying45 info47 rfl .i64 .i64 n (by omega) (by omega)
  rw [made_half n w.heap.size] at hmk
  have n1 : ¬ (n : Int) < 1 := by omega
  have n2 : ¬ (n : Int) > 4 := by omega
  go_enter Try.func8, Try.ntmps8
  go_wp2
  go_loopw [16] (fun i wr => ∃ k : Nat, k ≤ n ∧ i = .int .i64 k ∧ Hid (Mk w wr n k)) (fun i _ => n - (RowKit.intOf i).toNat)
  case atStart => exact ⟨0, Nat.zero_le _, rfl, ⟨⟨heap_alloc_new _ _, fun i hi => absurd hi (Nat.not_lt_zero _), by simp, (Below.refl _ _).alloc (Nat.le_refl _) _⟩⟩⟩
  case round =>
    obtain ⟨k, hk, rfl, H⟩ := hrel
    by_cases hlt : k < n
    · have hlt' : (k : Int) < n := by omega
      have z1 : (wr.alloc (.map #[] 0)).frozen? ⟨w.heap.size, k, none⟩ = false := Joins.unfrozen_of_block ((Below.heap_alloc _ _ _ (by have := H.out.size; omega)).trans H.out.sets) _
      have c1 : (wr.alloc (.map #[] 0)).cell? ⟨w.heap.size, k, none⟩ = some (.map none) := by
        rw [Joins.cell_of_block ((Below.heap_alloc _ _ _ (by have := H.out.size; omega)).trans H.out.sets)]
        simp [half, hlt]
      go_wp2
      go_roundw
      case rel => exact ⟨k + 1, by omega, by go_num, ⟨H.out.next⟩⟩
      case measure => simp [RowKit.intOf]; omega
    · obtain rfl : n = k := by omega
      go_wp2
      go_ret2
      exact ⟨_, _, _, rfl, H.out.done hn, H.out.bel.alloc H.out.bel.size _⟩
theorem new_no (w : World) (n : Int) (hn : ¬ (1 ≤ n ∧ n ≤ 4)) :
    Calls Try.prog 8 #[.int .i64 n] w fun e w' => e = .returned (.tuple #[.pointer none, .int .i64 2]) ∧ w' = w := by
  by_cases h : n < 1
  · go_enter Try.func8, Try.ntmps8
    go_wp2
    go_ret2
    exact ⟨rfl, rfl⟩
  · have h2 : n > 4 := by omega
    go_enter Try.func8, Try.ntmps8
    go_wp2
    go_ret2
    exact ⟨rfl, rfl⟩
set_option maxHeartbeats 1000000 in
theorem same_true {w : World} {va vb : Value} {xs : List Int} (ha : Sl w va xs) (hb : Sl w vb xs) (hl : xs.length ≤ 600000) :
    Calls Try.prog 14 #[va, vb] w fun e w' => e = .returned (.bool true) ∧ Below w.heap.size w w' := by
  rcases Nat.eq_zero_or_pos xs.length with h0 | h0
  · have na : ∃ a c, va = .slice a 0 c := by
      rcases ha with ⟨h, _⟩ | ⟨g, c, _, h, _⟩
      · exact h
      · exact ⟨_, c, by rw [h, h0]⟩
    have nb : ∃ a c, vb = .slice a 0 c := by
      rcases hb with ⟨h, _⟩ | ⟨g, c, _, h, _⟩
      · exact h
      · exact ⟨_, c, by rw [h, h0]⟩
    obtain ⟨a, c, rfl⟩ := na
    obtain ⟨a', c', rfl⟩ := nb
    clear ha hb
    go_enter Try.func14, Try.ntmps14
    go_wp2
    go_loop [5] (fun i => i = .int .i64 0) (fun _ => 0)
    case atStart => rfl
    case round =>
      subst hrel
      go_wp2
      go_ret
      exact ⟨rfl, Below.refl _ _⟩
  · rcases ha with ⟨_, h⟩ | ⟨g, c, cu, rfl, l1, lg, ca⟩
    · rw [h] at h0; simp at h0
    rcases hb with ⟨_, h⟩ | ⟨g', c', cu', rfl, l2, lg', cb⟩
    · rw [h] at h0; simp at h0
    have CA : Hid (∀ j, j < xs.length → w.cell? ⟨g, j, none⟩ = some (.int .i64 (xs.getD j 0))) := ⟨fun j hj => by rw [Joins.cell_of_block lg]; exact ca j hj⟩
    have CB : Hid (∀ j, j < xs.length → w.cell? ⟨g', j, none⟩ = some (.int .i64 (xs.getD j 0))) := ⟨fun j hj => by rw [Joins.cell_of_block lg']; exact cb j hj⟩
    have sg := (Array.getElem?_eq_some_iff.1 lg).1
    have sg' := (Array.getElem?_eq_some_iff.1 lg').1
    clear ca cb lg lg'
    obtain ⟨n, hn⟩ : ∃ n, xs.length = n := ⟨_, rfl⟩
    rw [hn] at CA CB hl h0 l1 l2 ⊢
    clear hn
    go_enter Try.func14, Try.ntmps14
    go_wp2
    go_loopw [5] (fun i wr => ∃ k : Nat, k ≤ n ∧ i = .int .i64 k ∧ Below w.heap.size w wr) (fun i _ => n - (RowKit.intOf i).toNat)
    case atStart => exact ⟨0, Nat.zero_le _, rfl, Below.refl _ _⟩
    case round =>
      obtain ⟨k, hk, rfl, B⟩ := hrel
      by_cases hlt : k < n
      · have c1 : wr.cell? ⟨g, k, none⟩ = some (.int .i64 (xs.getD k 0)) := (B.cell (p := ⟨g, k, none⟩) sg).trans (CA.out k hlt)
        have c2 : wr.cell? ⟨g', k, none⟩ = some (.int .i64 (xs.getD k 0)) := (B.cell (p := ⟨g', k, none⟩) sg').trans (CB.out k hlt)
        obtain ⟨x, hx⟩ : ∃ x, xs.getD k 0 = x := ⟨_, rfl⟩
        rw [hx] at c1 c2
        clear hx
        go_wp2
        go_quiet (fail)
        go_wp2
        go_roundw
        case rel => exact ⟨k + 1, by omega, by go_num, below_drewN B _⟩
        case measure => simp [RowKit.intOf]; omega
      · obtain rfl : k = n := by omega
        go_wp2
        go_ret
        exact ⟨rfl, B⟩
theorem sl_form {w : World} {v : Value} {xs : List Int} (h : Sl w v xs) : ∃ ga cap, v = .slice ga xs.length cap ∧ ∀ j, j < xs.length → ∃ g, ga = some ⟨g, 0, none⟩ ∧ w.cell? ⟨g, j, none⟩ = some (.int .i64 (xs.getD j 0)) := by
  rcases h with ⟨⟨ga, c, h1⟩, h2⟩ | ⟨g, c, cur, h1, h2, h3, h4⟩
  · subst h2; exact ⟨ga, c, h1, fun j hj => absurd hj (Nat.not_lt_zero _)⟩
  · exact ⟨_, c, h1, fun j hj => ⟨g, rfl, by rw [Joins.cell_of_block h3]; exact h4 j hj⟩⟩
theorem gs_put (n : Nat) (L : Nat → List Int) (i : Nat) (x : Int) (hi : i < n) (hx : 1 ≤ x ∧ x ≤ 524288) : flt n (i : Int) x = 0 := by
  unfold flt isl
  rw [if_pos (by simp; omega), if_pos hx]
abbrev L9 : Nat → List Int := putS 2 (putS 2 (fun _ => []) 1 9) 1 4
theorem l9_all : allS 2 L9 1 = [4, 9] := by decide
theorem l9_has : hasS 2 L9 1 9 = true := by decide
theorem l9_len : lenS L9 2 = 2 := by decide
theorem f9 : flt 2 1 9 = 0 := by decide
theorem f4 : flt 2 1 4 = 0 := by decide
set_option maxHeartbeats 1000000 in
theorem awake_any (w : World) : Calls Try.prog 10 #[] w fun e w' => e = .returned (.bool true) ∧ Below w.heap.size w w' := by
  have NW := new_any w 2 (by omega)
  go_enter Try.func10, Try.ntmps10
  go_wp2_with (first
    | (go_at_call 8; refine NW.mono ?_; rintro e w1 ⟨s, sb, m, rfl, H1, B1⟩; have P1 := put_any H1 1 9; rw [f9] at P1; have B := B1; clear NW)
    | (go_at_call 17; refine P1.mono ?_; rintro e w2 ⟨rfl, H2, K2⟩; have P2 := put_any H2 1 4; rw [f4] at P2; have B2 := B.trans K2.bel; clear P1 B)
    | (go_at_call 17; refine P2.mono ?_; rintro e w3 ⟨rfl, H3, K3⟩; have AL := all_any H3 1; have B3 := B2.trans K3.bel; clear P2 B2)
    | (go_at_call 15; refine AL.mono ?_; rintro e w4 ⟨v, rfl, R, _, B4⟩; have H4 := H3.later B4; have HA := has_any H4 1 9 ⟨by omega, by omega⟩; rw [l9_all] at R; rw [l9_has] at HA; obtain ⟨ga, cap, rfl, hc⟩ := sl_form (sl_of R); obtain ⟨g, rfl, c0⟩ := hc 0 (by decide); have D4 := B3.trans (B4.mono B3.size); clear AL hc R)
    | (go_at_call 20; refine HA.mono ?_; rintro e w5 ⟨rfl, B5⟩; have LN := len_any (H4.later B5); rw [l9_len] at LN; have D5 := D4.trans (B5.mono D4.size); clear HA)
    | (go_at_call 12; refine LN.mono ?_; rintro e w6 ⟨rfl, hw⟩; rw [hw]; clear hw LN))
  go_ret
  exact ⟨rfl, D5⟩
end Go.Proofs.Ytfenbjkkljggiaa
