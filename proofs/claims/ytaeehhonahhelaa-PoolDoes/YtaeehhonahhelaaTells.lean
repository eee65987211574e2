/- The iterator over a row's parts, handed the law's own function: the two lists behind it. -/
import Derived.Test.YtaeehhonahhelaaParts
import Derived.Test.YtaeehhonahhelaaPush
namespace Go.Proofs.Ytaeehhonahhelaa
open Go.RowKit Go.Shelf
set_option linter.unusedVariables false

theorem Keep.refl (z n : Nat) (w : World) : Keep z n w w := ⟨rfl, rfl, rfl, Nat.le_refl _, fun _ _ _ _ => rfl⟩
theorem Keep.trans {z n : Nat} {a b c : World} (h : Keep z n a b) (k : Keep z n b c) : Keep z n a c :=
  ⟨k.os.trans h.os, k.tape.trans h.tape, k.output.trans h.output, Nat.le_trans h.size k.size, fun i h1 h2 h3 => (k.block i h1 h2 h3).trans (h.block i h1 h2 h3)⟩
theorem Keep.later {z n : Nat} {a b : World} (h : Below a.heap.size a b) (hn : n ≤ a.heap.size) : Keep z n a b := ⟨h.os, h.tape, h.output, h.size, fun i h1 _ _ => h.block i (by omega)⟩
theorem Two.later {w w' : World} {z n : Nat} {xs ys : List Int} (h : Two w z n xs ys) (B : Below w.heap.size w w') : Two w' z n xs ys := by
  obtain ⟨⟨va, vb, ba, bb, oa, ob, ap⟩, le, sz⟩ := h
  have G : w.grownBy w' none := ⟨B.os, B.tape, B.output, B.size, fun k hk _ => B.block k hk⟩
  exact ⟨⟨va, vb, (B.block z (by omega)).trans ba, (B.block (z + 1) (by omega)).trans bb, oa.kept G (Classical.em _), ob.kept G (Classical.em _), ap⟩, le, Nat.le_trans sz B.size⟩
theorem Lies.keep {W W' : World} {b Bs Br N c z n : Nat} {f : Nat → Int} {r : Bool} (h : Lies W b Bs Br f N c r) (k : Keep z n W W') (h1 : b < n ∧ b ≠ z ∧ b ≠ z + 1) (h2 : Bs < n ∧ Bs ≠ z ∧ Bs ≠ z + 1) (h3 : Br < n ∧ Br ≠ z ∧ Br ≠ z + 1) : Lies W' b Bs Br f N c r :=
  ⟨by obtain ⟨cs, a, d⟩ := h.nums; exact ⟨cs, (k.block b h1.1 h1.2.1 h1.2.2).trans a, d⟩, (k.block Bs h2.1 h2.2.1 h2.2.2).trans h.sl, h.hc, (k.block Br h3.1 h3.2.1 h3.2.2).trans h.rn⟩

/-- What a list of parts tells: the firsts, and how many. -/
def fs (l : List (Nat × Nat)) : List Int := l.map (fun s => (s.1 : Int))
def ns (l : List (Nat × Nat)) : List Int := l.map (fun s => (s.2 : Int))
theorem fs_length (l : List (Nat × Nat)) : (fs l).length = l.length := by simp [fs]
theorem ns_length (l : List (Nat × Nat)) : (ns l).length = l.length := by simp [ns]

theorem next_seg {f : Nat → Int} {N k i : Nat} {r : Bool} {pre : List (Nat × Nat)} (h : pre ++ (segs f N k i).filter (kind f r) = parts f N r) (hi : i < N) (hk : N - i ≤ k) :
    (kind f r (i, tog f N i) = true → (pre ++ [(i, tog f N i)]) ++ (segs f N (k - 1) (i + tog f N i)).filter (kind f r) = parts f N r) ∧
    (kind f r (i, tog f N i) = false → pre ++ (segs f N (k - 1) (i + tog f N i)).filter (kind f r) = parts f N r) := by
  rw [segs_cons hi hk, List.filter_cons] at h
  constructor
  · intro e
    rw [if_pos e] at h
    simpa using h
  · intro e
    rw [if_neg (by simp [e])] at h
    exact h

set_option maxRecDepth 100000 in
set_option maxHeartbeats 4000000 in
theorem tells_ok {W : World} {b Bs Br N c z n : Nat} {r : Bool} {f : Nat → Int} (hN : N ≤ 4096) (hL : Lies W b Bs Br f N c r) (hT : Two W z n [] []) (h1 : b < n ∧ b ≠ z ∧ b ≠ z + 1) (h2 : Bs < n ∧ Bs ≠ z ∧ Bs ≠ z + 1) (h3 : Br < n ∧ Br ≠ z ∧ Br ≠ z + 1) :
    Calls Try.prog 39 #[.func (.func 32) #[] #[.pointer (some ⟨z, 0, none⟩), .pointer (some ⟨z + 1, 0, none⟩)], .pointer (some ⟨Bs, 0, none⟩), .pointer (some ⟨Br, 0, none⟩)] W fun e W' => (∃ v, e = .returned v) ∧ Two W' z n (fs (parts f N r)) (ns (parts f N r)) ∧ Keep z n W W' := by
  have pl := parts_len f N r
  go_enter Try.func39, Try.ntmps39
  go_wp2
  go_loopw [4, 5] (fun m i wr => ∃ (k a : Nat) (pre : List (Nat × Nat)), i = .int .i64 a ∧ a ≤ N ∧ N - a ≤ k ∧ pre ++ (segs f N k a).filter (kind f r) = parts f N r ∧ Two wr z n (fs pre) (ns pre) ∧ Lies wr b Bs Br f N c r ∧ Keep z n W wr)
    (fun _ i _ => N - (intOf i).toNat)
  case atStart => exact ⟨N, 0, [], rfl, Nat.zero_le _, by omega, rfl, hT, hL, Keep.refl _ _ _⟩
  case round =>
    obtain ⟨k, a, pre, rfl, ha, hk, hp, T0, L, K0⟩ := hrel
    obtain ⟨c1, c2, c3⟩ := L.cells
    have hc := L.hc
    have ppl : pre.length ≤ N := by
      have := congrArg List.length hp
      simp at this
      omega
    by_cases hlt : a < N
    · have tp := tog_pos f hlt
      have tl := tog_le f (N := N) (i := a) ha
      obtain ⟨sn1, sn2⟩ := next_seg hp hlt hk
      have T := together_ok (w := wr) (b := b) (o := a) (len := N - a) (cap := c - a) (g := fun j => f (a + j)) (fun j hj => c3 (a + j) (by omega)) (by omega) (by omega)
      rw [tog_shift] at T
      have hkd : kind f r (a, tog f N a) = (decide (f a = -1) == r) := rfl
      obtain ⟨t, ht⟩ : ∃ t, tog f N a = t := ⟨_, rfl⟩
      obtain ⟨v, hv⟩ : ∃ v, f a = v := ⟨_, rfl⟩
      rw [hv] at hkd
      rw [ht] at T tp tl
      clear c3
      have cs : (kind f r (a, tog f N a) = true ∧ ((v == -1) == r) = true) ∨ (kind f r (a, tog f N a) = false ∧ ((v == -1) == r) = false) := by
        rw [hkd, show decide (v = -1) = (v == -1) by by_cases e : v = -1 <;> simp [e]]
        cases ((v == -1) == r) <;> simp
      rcases cs with ⟨hk1, hk2⟩ | ⟨hk1, hk2⟩
      · have HQ : Hid ((pre ++ [(a, tog f N a)]) ++ (segs f N (k - 1) (a + tog f N a)).filter (kind f r) = parts f N r) := sn1 hk1
        clear sn1 sn2 hk1 hp hkd
        go_wp2_with (go_at_call 34; refine T.mono ?_; rintro e W2 ⟨rfl, B⟩; have L2 := L.below B; obtain ⟨d1, d2, d3⟩ := L2.cells; have dv := d3 a hlt; rw [hv] at dv; clear d3)
        have P := push_ok ((T0.later B).later ((Below.refl _ W2).drew)) a t (by rw [fs_length]; omega) (by rw [ns_length]; omega)
        have B' := B.drew
        go_region_with (go_at_call 32; refine P.mono ?_; rintro e W3 ⟨rfl, T3, K3⟩)
        all_goals go_wp2
        all_goals go_roundw
        all_goals first
          | exact ⟨k - 1, a + t, pre ++ [(a, t)], by go_num, by omega, by omega, ht ▸ HQ.out, by simpa [fs, ns] using T3, (L.below B').keep K3 h1 h2 h3, K0.trans ((Keep.later B' T0.sz).trans K3)⟩
          | (simp [intOf]; omega)
      · have HQ : Hid (pre ++ (segs f N (k - 1) (a + tog f N a)).filter (kind f r) = parts f N r) := sn2 hk1
        clear sn1 sn2 hk1 hp hkd
        go_wp2_with (go_at_call 34; refine T.mono ?_; rintro e W2 ⟨rfl, B⟩; have L2 := L.below B; obtain ⟨d1, d2, d3⟩ := L2.cells; have dv := d3 a hlt; rw [hv] at dv; clear d3)
        have sk : True := trivial
        go_quiet (fail)
        go_wp2
        go_roundw
        case rel => exact ⟨k - 1, a + t, _, by go_num, by omega, by omega, ht ▸ HQ.out, T0.later (below_drewN B _), L.below (below_drewN B _), K0.trans (Keep.later (below_drewN B _) T0.sz)⟩
        case measure => simp [intOf]; omega
    · obtain rfl : a = N := by omega
      rw [segs_end hlt] at hp
      simp at hp
      subst hp
      go_wp2
      go_end0
      exact ⟨⟨_, rfl⟩, T0, K0⟩
end Go.Proofs.Ytaeehhonahhelaa
