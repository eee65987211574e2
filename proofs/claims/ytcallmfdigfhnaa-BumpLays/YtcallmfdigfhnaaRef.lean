/- The document's own pool in memory, and the contracts of its functions that make no list. -/
import Derived.Test.YtcallmfdigfhnaaPool
import Derived.Test.YtcallmfdigfhnaaScan
namespace Go.Proofs.Ytcallmfdigfhnaa
open Go.RowKit
set_option linter.unusedVariables false

/-- The box at block p holds the slice of N numbers, which lie in block b, with room for c. -/
structure Ref (w : World) (p b : Nat) (f : Nat → Int) (N c : Nat) : Prop where
  box : w.heap[p]? = some (.cells #[.slice (some ⟨b, 0, none⟩) N c] 90 (0, 0))
  nums : ∃ cs, w.heap[b]? = some (.cells cs 3 (0, 0)) ∧ ∀ j, j < N → cs[j]? = some (.int .i64 (f j))
  ne : p ≠ b
  len : N ≤ 4096
theorem Ref.cell {w : World} {p b N c : Nat} {f : Nat → Int} (h : Ref w p b f N c) : w.cell? ⟨p, 0, none⟩ = some (.slice (some ⟨b, 0, none⟩) N c) := by
  rw [Joins.cell_of_block h.box]; rfl
theorem Ref.num {w : World} {p b N c : Nat} {f : Nat → Int} (h : Ref w p b f N c) (i : Nat) (hi : i < N) : w.cell? ⟨b, i, none⟩ = some (.int .i64 (f i)) := by
  obtain ⟨cs, a, d⟩ := h.nums
  rw [Joins.cell_of_block a]
  exact d i hi
theorem Ref.free {w : World} {p b N c : Nat} {f : Nat → Int} (h : Ref w p b f N c) (i : Nat) : w.frozen? ⟨b, i, none⟩ = false := by
  obtain ⟨cs, a, d⟩ := h.nums
  exact Joins.unfrozen_of_block a i
theorem Ref.lt {w : World} {p b N c : Nat} {f : Nat → Int} (h : Ref w p b f N c) : p < w.heap.size ∧ b < w.heap.size :=
  ⟨(Array.getElem?_eq_some_iff.1 h.box).1, by obtain ⟨cs, a, d⟩ := h.nums; exact (Array.getElem?_eq_some_iff.1 a).1⟩
theorem Ref.kept {w w' : World} {p b N c : Nat} {f : Nat → Int} {r : Option Nat} (h : Ref w p b f N c) (hg : w.grownBy w' r) (hp : some p ≠ r) (hb : some b ≠ r) : Ref w' p b f N c :=
  ⟨(hg.block p h.lt.1 hp).trans h.box, by obtain ⟨cs, a, d⟩ := h.nums; exact ⟨cs, (hg.block b h.lt.2 hb).trans a, d⟩, h.ne, h.len⟩
theorem Ref.later {w w' : World} {p b N c : Nat} {f : Nat → Int} (h : Ref w p b f N c) (hg : Below w.heap.size w w') : Ref w' p b f N c :=
  h.kept (grown_below none hg) (by simp) (by simp)
theorem Ref.congr {w : World} {p b N c : Nat} {f g : Nat → Int} (h : Ref w p b f N c) (e : ∀ j, j < N → f j = g j) : Ref w p b g N c :=
  ⟨h.box, by obtain ⟨cs, a, d⟩ := h.nums; exact ⟨cs, a, fun j hj => by rw [← e j hj]; exact d j hj⟩, h.ne, h.len⟩
theorem Ref.put {w : World} {p b N c : Nat} {f : Nat → Int} (h : Ref w p b f N c) (i : Nat) (hi : i < N) (v : Int) : Ref (w.setCell ⟨b, i, none⟩ (.int .i64 v)) p b (mark f i 1 v) N c := by
  refine ⟨?_, ?_, h.ne, h.len⟩
  · rw [Below.heap_setCell _ _ _ _ (show p ≠ b from h.ne), h.box]
  · obtain ⟨cs, a, d⟩ := h.nums
    refine ⟨_, Joins.block_setCell a _, fun j hj => ?_⟩
    have l : i < cs.size := (Array.getElem?_eq_some_iff.1 (d i hi)).1
    by_cases e : i = j
    · subst e
      rw [mark_in (Nat.le_refl _) (by omega)]
      simp [l]
    · rw [mark_out (by omega), ← d j hj]
      simp [e]

/-! ### fits -/
set_option maxHeartbeats 1000000 in
theorem fits_yes {w : World} {p b N c : Nat} {f : Nat → Int} (h : Ref w p b f N c) (a n : Nat) (F : fitsAt f N a n) :
    Calls Try.prog 47 #[.pointer (some ⟨p, 0, none⟩), .int .i64 a, .int .i64 n] w fun e w' => e = .returned (.bool true) ∧ w' = w := by
  have hc := h.cell
  have l := h.len
  have hN := F.1
  have HF : Hid (fitsAt f N a n) := F
  clear F
  have z0 : decide ((N : Int) - a < n) = false := by simp; omega
  go_enter Try.func47, Try.ntmps47
  go_wp2
  go_loop [7] (fun i => ∃ k : Nat, a ≤ k ∧ k ≤ a + n ∧ i = .int .i64 k) (fun i => a + n - (intOf i).toNat)
  case atStart => exact ⟨a, Nat.le_refl _, by omega, rfl⟩
  case round =>
    obtain ⟨k, hk1, hk2, rfl⟩ := hrel
    by_cases hlt : k < a + n
    · have cv := h.num k (by omega)
      rw [HF.out.2 k hk1 (by omega)] at cv
      go_wp2
      go_round
      case rel => exact ⟨k + 1, by omega, by omega, by go_num⟩
      case measure => simp [intOf]; omega
    · obtain rfl : k = a + n := by omega
      go_wp2
      go_ret
      exact ⟨rfl, rfl⟩
set_option maxHeartbeats 1000000 in
theorem fits_no {w : World} {p b N c : Nat} {f : Nat → Int} (h : Ref w p b f N c) (G : Good f N) (a : Nat) (ha : a ≤ N) (n : Int) (h1 : 1 ≤ n) (h2 : n ≤ 9223372036854775807) (F : ¬ fitsAt f N a n) :
    Calls Try.prog 47 #[.pointer (some ⟨p, 0, none⟩), .int .i64 a, .int .i64 n] w fun e w' => e = .returned (.bool false) ∧ w' = w := by
  have hc := h.cell
  have l := h.len
  by_cases hN : (a : Int) + n ≤ N
  · obtain ⟨m, rfl⟩ : ∃ m : Nat, n = m := ⟨n.toNat, by omega⟩
    have HF : Hid (¬ fitsAt f N a m) := F
    have HG : Hid (Good f N) := G
    clear F G
    have z0 : decide ((N : Int) - a < m) = false := by simp; omega
    go_enter Try.func47, Try.ntmps47
    go_wp2
    go_loop [7] (fun i => ∃ k : Nat, a ≤ k ∧ k ≤ a + m ∧ i = .int .i64 k ∧ Hid (∀ j, a ≤ j → j < k → f j = -1)) (fun i => a + m - (intOf i).toNat)
    case atStart => exact ⟨a, Nat.le_refl _, by omega, rfl, fun j h1 h2 => by omega⟩
    case round =>
      obtain ⟨k, hk1, hk2, rfl, HA⟩ := hrel
      by_cases hlt : k < a + m
      · have cv := h.num k (by omega)
        have bd := HG.out.bounds (j := k) (by omega)
        by_cases e : f k = -1
        · rw [e] at cv
          have HE : Hid (f k = -1) := e
          clear e bd
          go_wp2
          go_round
          case rel => exact ⟨k + 1, by omega, by omega, by go_num, fun j p q => by
            rcases Nat.lt_or_ge j k with t | t
            · exact HA.out j p t
            · rw [show j = k by omega]; exact HE.out⟩
          case measure => simp [intOf]; omega
        · obtain ⟨x, hx⟩ : ∃ x, f k = x := ⟨_, rfl⟩
          rw [hx] at cv e bd
          have x0 : 0 ≤ x := by omega
          clear hx e bd
          go_wp2
          go_ret
          exact ⟨rfl, rfl⟩
      · exact absurd ⟨hN, fun j p q => HA.out j p (by omega)⟩ HF.out
  · have z0 : (N : Int) - a < n := by omega
    clear F
    go_enter Try.func47, Try.ntmps47
    go_wp2
    go_ret
    exact ⟨rfl, rfl⟩

/-! ### Alloc -/
theorem alloc_of_fits {f : Nat → Int} {N a : Nat} {n : Int} (h1 : 1 ≤ n) (h : fitsAt f N a n) (hl : ∀ a', a' < a → ¬ fitsAt f N a' n) : allocA f N n = a ∧ allocE f N n = 0 ∧ allocF f N n = mark f a n.toNat a := by
  cases e : fit f N n with
  | none => exact absurd h (nofit_at h1 e a)
  | some s =>
    have : s.1 = a := by
      rcases Nat.lt_trichotomy s.1 a with q | q | q
      · exact absurd (fit_at e) (hl _ q)
      · exact q
      · exact absurd h (fit_least h1 e a q)
    subst this
    simp [allocA, allocE, allocF, e, show ¬ n < 1 by omega]
theorem alloc_of_none {f : Nat → Int} {N : Nat} {n : Int} (h1 : 1 ≤ n) (hl : ∀ a, a < N → ¬ fitsAt f N a n) : allocA f N n = 0 ∧ allocE f N n = 5 ∧ allocF f N n = f := by
  cases e : fit f N n with
  | none => simp [allocA, allocE, allocF, e, show ¬ n < 1 by omega]
  | some s =>
    have := fit_at e
    exact absurd this (hl _ (by have := this.1; omega))
set_option maxRecDepth 100000 in
set_option maxHeartbeats 2000000 in
theorem ralloc_any {w : World} {p b N c : Nat} {f : Nat → Int} (h : Ref w p b f N c) (G : Good f N) (n : Int) (hn : n ≤ 9223372036854775807) :
    Calls Try.prog 27 #[.pointer (some ⟨p, 0, none⟩), .int .i64 n] w fun e w' => e = .returned (.tuple #[.int .i64 (allocA f N n), .int .i64 (allocE f N n)]) ∧ Ref w' p b (allocF f N n) N c ∧ w.grownBy w' (some b) := by
  have l := h.len
  have hc := h.cell
  by_cases h1 : n < 1
  · have e1 : allocA f N n = 0 := by simp [allocA, h1]
    have e2 : allocE f N n = 7 := by simp [allocE, h1]
    have e3 : allocF f N n = f := by simp [allocF, h1]
    rw [e1, e2, e3]
    go_enter Try.func27, Try.ntmps27
    go_wp2
    go_ret2
    exact ⟨rfl, h, grown_refl _ _⟩
  · have h1' : 1 ≤ n := by omega
    have y0 : decide (n < 1) = false := by simp; omega
    obtain ⟨A, hA⟩ : ∃ A, allocA f N n = A := ⟨_, rfl⟩
    obtain ⟨E, hE⟩ : ∃ E, allocE f N n = E := ⟨_, rfl⟩
    obtain ⟨F, hF⟩ : ∃ F, allocF f N n = F := ⟨_, rfl⟩
    rw [hA, hE, hF]
    have HX : Hid (allocA f N n = A ∧ allocE f N n = E ∧ allocF f N n = F) := ⟨hA, hE, hF⟩
    have HG : Hid (Good f N) := G
    have HH : Hid (Ref w p b f N c) := h
    clear hA hE hF G h h1
    go_enter Try.func27, Try.ntmps27
    go_wp2
    go_loopw [6, 7] (fun i _ wr => ∃ k : Nat, k ≤ N ∧ i = .int .i64 k ∧ w = wr ∧ Hid (∀ a, a < k → ¬ fitsAt f N a n)) (fun i _ _ => N - (intOf i).toNat)
    case atStart => exact ⟨0, Nat.zero_le _, rfl, by first | rfl | trivial, fun a ha => by omega⟩
    case round =>
      obtain ⟨k, hk, rfl, rfl, HL⟩ := hrel
      by_cases hlt : k < N
      · by_cases hfit : fitsAt f N k n
        · obtain ⟨m, rfl⟩ : ∃ m : Nat, n = m := ⟨n.toNat, by omega⟩
          obtain ⟨e1, e2, e3⟩ := alloc_of_fits h1' hfit HL.out
          have FY := fits_yes HH.out k m hfit
          have hkm := hfit.1
          obtain ⟨x1, x2, x3⟩ := HX.out
          rw [e1] at x1
          rw [e2] at x2
          rw [e3, Int.toNat_natCast] at x3
          subst x1 x2 x3
          clear HX hfit e1 e2 e3
          go_wp2_with (go_at_call 47; refine FY.mono ?_; rintro e w1 ⟨rfl, hw⟩; rw [hw]; clear hw)
          go_loopw [7] (fun i wr => ∃ j : Nat, j ≤ m ∧ i = .int .i64 ((k : Int) + j) ∧ Ref wr p b (mark f k j k) N c ∧ w.grownBy wr (some b)) (fun i _ => k + m - (intOf i).toNat)
          case atStart => exact ⟨0, Nat.zero_le _, by simp, HH.out.congr (fun j _ => (mark_out (by omega)).symm), grown_refl _ _⟩
          case round =>
            obtain ⟨j, hj, rfl, H, GG⟩ := hrel
            by_cases hjl : j < m
            · have cc := H.cell
              have cw := H.num (k + j) (by omega)
              obtain ⟨x, hx⟩ : ∃ x, mark f k j k (k + j) = x := ⟨_, rfl⟩
              rw [hx] at cw
              have fz := H.free (k + j)
              have P := (H.put (k + j) (by omega) k).congr (mark_next f k j k N)
              have HP : Hid (Ref (wr.setCell ⟨b, k + j, none⟩ (.int .i64 k)) p b (mark f k (j + 1) k) N c) := P
              clear P hx
              have z1 : (0 : Int) ≤ (k : Int) + j := by omega
              have z2 : (k : Int) + j < N := by omega
              have z3 : ((k : Int) + j).toNat = k + j := by omega
              go_wp2
              go_roundw
              case rel => exact ⟨j + 1, by omega, by simp; omega, HP.out, grown_trans GG (grown_set _ _ _ _)⟩
              case measure => simp [intOf]; omega
            · obtain rfl : j = m := by omega
              go_wp2
              go_ret2
              exact ⟨rfl, H, GG⟩
        · have FN := fits_no HH.out HG.out k hk n h1' hn hfit
          have HN : Hid (¬ fitsAt f N k n) := hfit
          clear hfit
          go_wp2_with (go_at_call 47; refine FN.mono ?_; rintro e w1 ⟨rfl, hw⟩; rw [hw]; clear hw)
          go_roundw
          case rel => exact ⟨k + 1, by omega, by go_num, by first | rfl | trivial, fun a ha => by
            rcases Nat.lt_or_ge a k with t | t
            · exact HL.out a t
            · rw [show a = k by omega]; exact HN.out⟩
          case measure => simp [intOf]; omega
      · obtain rfl : k = N := by omega
        obtain ⟨e1, e2, e3⟩ := alloc_of_none h1' HL.out
        obtain ⟨x1, x2, x3⟩ := HX.out
        rw [e1] at x1
        rw [e2] at x2
        rw [e3] at x3
        subst x1 x2 x3
        clear HX e1 e2 e3
        go_wp2
        go_ret2
        exact ⟨rfl, HH.out, grown_refl _ _⟩

/-! ### Free -/
set_option maxRecDepth 100000 in
set_option maxHeartbeats 2000000 in
theorem rfree_any {w : World} {p b N c : Nat} {f : Nat → Int} (h : Ref w p b f N c) (G : Good f N) (i : Int) :
    Calls Try.prog 48 #[.pointer (some ⟨p, 0, none⟩), .int .i64 i] w fun e w' => e = .returned (.int .i64 (freeE f N i)) ∧ Ref w' p b (freeF f N i) N c ∧ w.grownBy w' (some b) := by
  have l := h.len
  have hc := h.cell
  by_cases hh : 0 ≤ i ∧ i < N ∧ f i.toNat = i
  · obtain ⟨g, rfl⟩ : ∃ g : Nat, i = g := ⟨i.toNat, by omega⟩
    obtain ⟨h1, h2, h3⟩ := hh
    simp only [Int.toNat_natCast] at h3
    have hg : g < N := by omega
    have e : freeE f N g = 0 := by simp [freeE, h3, hg]
    have e' : freeF f N g = mark f g (tog f N g) (-1) := by simp [freeF, e]
    have HA : Hid (∀ j, j < N → clr f g N j = mark f g (tog f N g) (-1) j) := clr_all G hg h3
    rw [e, e']
    have cg := h.num g hg
    rw [h3] at cg
    have HH : Hid (Ref w p b f N c) := h
    have y1 : decide ((g : Int) < 0) = false := by simp
    have y2 : decide (N ≤ g) = false := by simp; omega
    clear e e' G h h3 h1
    go_enter Try.func48, Try.ntmps48
    go_wp2
    go_loopw [5] (fun q wr => ∃ k : Nat, k ≤ N ∧ q = .int .i64 k ∧ Ref wr p b (clr f g k) N c ∧ w.grownBy wr (some b)) (fun q _ => N - (intOf q).toNat)
    case atStart => exact ⟨0, Nat.zero_le _, rfl, HH.out.congr (fun j _ => (clr_zero _ _ _).symm), grown_refl _ _⟩
    case round =>
      obtain ⟨k, hk, rfl, H, GG⟩ := hrel
      have cc := H.cell
      clear hc cg
      by_cases hlt : k < N
      · have cw := H.num k hlt
        rw [clr_at] at cw
        have fz := H.free k
        by_cases q : f k = g
        · have HP : Hid (Ref (wr.setCell ⟨b, k, none⟩ (.int .i64 (-1))) p b (clr f g (k + 1)) N c) := (H.put k hlt (-1)).congr (clr_hit q N)
          rw [q] at cw
          clear q
          go_wp2
          go_roundw
          case rel => exact ⟨k + 1, by omega, by go_num, HP.out, grown_trans GG (grown_set _ _ _ _)⟩
          case measure => simp [intOf]; omega
        · have HP : Hid (Ref wr p b (clr f g (k + 1)) N c) := clr_miss q ▸ H
          obtain ⟨x, hx⟩ : ∃ x, f k = x := ⟨_, rfl⟩
          rw [hx] at cw q
          have q2 : (x == (g : Int)) = false := by simpa using q
          clear hx q
          go_wp2
          go_roundw
          case rel => exact ⟨k + 1, by omega, by go_num, HP.out, GG⟩
          case measure => simp [intOf]; omega
      · obtain rfl : k = N := by omega
        go_wp2
        go_ret
        exact ⟨rfl, H.congr HA.out, GG⟩
  · have e : freeE f N i = 8 := by simp [freeE, hh]
    have e' : freeF f N i = f := by simp [freeF, e]
    rw [e, e']
    clear e e' G
    by_cases h0 : i < 0
    · go_enter Try.func48, Try.ntmps48
      go_wp2
      go_ret
      exact ⟨rfl, h, grown_refl _ _⟩
    · by_cases h1 : (N : Int) ≤ i
      · have y1 : decide (i < 0) = false := by simp; omega
        go_enter Try.func48, Try.ntmps48
        go_wp2
        go_ret
        exact ⟨rfl, h, grown_refl _ _⟩
      · obtain ⟨g, rfl⟩ : ∃ g : Nat, i = g := ⟨i.toNat, by omega⟩
        have hg : g < N := by omega
        have cg := h.num g hg
        obtain ⟨x, hx⟩ : ∃ x, f g = x := ⟨_, rfl⟩
        have hx2 : ¬ x = (g : Int) := by
          intro q
          exact hh ⟨by omega, by omega, by simpa [hx] using q⟩
        rw [hx] at cg
        have y1 : decide ((g : Int) < 0) = false := by simp
        have y2 : decide (N ≤ g) = false := by simp; omega
        clear hx hh h0 h1
        go_enter Try.func48, Try.ntmps48
        go_wp2
        go_ret
        exact ⟨rfl, h, grown_refl _ _⟩

/-! ### Left -/
theorem cnt_le (f : Nat → Int) : ∀ k, cnt f k ≤ k := by
  intro k
  induction k with
  | zero => exact Nat.le_refl _
  | succ k ih => unfold cnt; split <;> omega
set_option maxRecDepth 100000 in
set_option maxHeartbeats 2000000 in
theorem rleft_ok {w : World} {p b N c : Nat} {f : Nat → Int} (h : Ref w p b f N c) (G : Good f N) :
    Calls Try.prog 33 #[.pointer (some ⟨p, 0, none⟩)] w fun e w' => e = .returned (.int .i64 (left f N)) ∧ w' = w := by
  have hc := h.cell
  have l := h.len
  rw [left_cnt]
  have HG : Hid (Good f N) := G
  clear G
  go_enter Try.func33, Try.ntmps33
  go_wp2
  go_loop [3, 4] (fun m q => ∃ j : Nat, j ≤ N ∧ m = .int .i64 (cnt f j) ∧ q = .int .i64 j) (fun _ q => N - (intOf q).toNat)
  case atStart => exact ⟨0, Nat.zero_le _, rfl, rfl⟩
  case round =>
    obtain ⟨j, hj, rfl, rfl⟩ := hrel
    have cl := cnt_le f j
    by_cases hlt : j < N
    · have cj := h.num j hlt
      by_cases q : f j = -1
      · have HS : Hid (cnt f (j + 1) = cnt f j + 1) := by show _ = _; simp [cnt, q]
        obtain ⟨m, hm⟩ : ∃ m, cnt f j = m := ⟨_, rfl⟩
        rw [hm] at HS cl ⊢
        rw [q] at cj
        clear hm q
        go_wp2
        go_round
        case rel => exact ⟨j + 1, by omega, by rw [HS.out]; go_num, by go_num⟩
        case measure => simp [intOf]; omega
      · have HS : Hid (cnt f (j + 1) = cnt f j) := by show _ = _; simp [cnt, q]
        have bd := HG.out.bounds hlt
        obtain ⟨m, hm⟩ : ∃ m, cnt f j = m := ⟨_, rfl⟩
        obtain ⟨x, hx⟩ : ∃ x, f j = x := ⟨_, rfl⟩
        rw [hm] at HS cl ⊢
        rw [hx] at cj q bd
        have q2 : decide (x < 0) = false := by simp; omega
        clear hm hx q bd
        go_wp2
        go_round
        case rel => exact ⟨j + 1, by omega, by rw [HS.out], by go_num⟩
        case measure => simp [intOf]; omega
    · obtain rfl : j = N := by omega
      go_wp2
      go_ret
      exact ⟨rfl, rfl⟩
end Go.Proofs.Ytcallmfdigfhnaa
