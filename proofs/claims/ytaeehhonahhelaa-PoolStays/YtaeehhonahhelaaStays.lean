/- A range gone over by the law's function that frees each group it is told: what the list holds behind it, and that nothing else has turned but the pool. -/
import Derived.Test.YtaeehhonahhelaaTells
namespace Go.Proofs.Ytaeehhonahhelaa
open Go.RowKit Go.Shelf
set_option linter.unusedVariables false

/-- The box z holds a list of numbers, a row of its own at or beyond n. -/
structure One (w : World) (z n : Nat) (xs : List Int) : Prop where
  ex : ∃ va, w.heap[z]? = some (.cells #[va] 38 (0, 0)) ∧ w.ownsRow n 3 1 va xs.length (ints xs)
  le : z < n
  sz : n ≤ w.heap.size
/-- Nothing below n has turned but the blocks z and b. -/
structure Bar (z b n : Nat) (w w' : World) : Prop where
  os : w'.os = w.os
  tape : w'.tape = w.tape
  output : w'.output = w.output
  size : w.heap.size ≤ w'.heap.size
  block : ∀ k, k < n → k ≠ z → k ≠ b → w'.heap[k]? = w.heap[k]?
theorem Bar.refl (z b n : Nat) (w : World) : Bar z b n w w := ⟨rfl, rfl, rfl, Nat.le_refl _, fun _ _ _ _ => rfl⟩
theorem Bar.trans {z b n : Nat} {u v w : World} (h : Bar z b n u v) (k : Bar z b n v w) : Bar z b n u w :=
  ⟨k.os.trans h.os, k.tape.trans h.tape, k.output.trans h.output, Nat.le_trans h.size k.size, fun i h1 h2 h3 => (k.block i h1 h2 h3).trans (h.block i h1 h2 h3)⟩
theorem Bar.later {z b n : Nat} {u v : World} (h : Below u.heap.size u v) (hn : n ≤ u.heap.size) : Bar z b n u v := ⟨h.os, h.tape, h.output, h.size, fun i h1 _ _ => h.block i (by omega)⟩
theorem Bar.grown {z b n : Nat} {u v : World} (h : u.grownBy v (some b)) (hn : n ≤ u.heap.size) : Bar z b n u v := ⟨h.os, h.tape, h.output, h.size, fun i h1 _ h3 => h.block i (by omega) (by simpa using h3)⟩
theorem One.later {w w' : World} {z n : Nat} {xs : List Int} (h : One w z n xs) (B : Below w.heap.size w w') : One w' z n xs := by
  obtain ⟨⟨va, ba, oa⟩, le, sz⟩ := h
  have G : w.grownBy w' none := ⟨B.os, B.tape, B.output, B.size, fun k hk _ => B.block k hk⟩
  exact ⟨⟨va, (B.block z (by omega)).trans ba, oa.kept G (Classical.em _)⟩, le, Nat.le_trans sz B.size⟩
theorem One.grown {w w' : World} {z b n : Nat} {xs : List Int} (h : One w z n xs) (G : w.grownBy w' (some b)) (hb : b < n) (hz : z ≠ b) : One w' z n xs := by
  obtain ⟨⟨va, ba, oa⟩, le, sz⟩ := h
  exact ⟨⟨va, (G.block z (by omega) (by simpa using hz)).trans ba, oa.kept G (.inr (fun e => by have := oa.lt b e; omega))⟩, le, Nat.le_trans sz G.size⟩
theorem Lies.bar {W W' : World} {g Bs Br N c z b n : Nat} {f : Nat → Int} {r : Bool} (h : Lies W g Bs Br f N c r) (k : Bar z b n W W') (h1 : g < n ∧ g ≠ z ∧ g ≠ b) (h2 : Bs < n ∧ Bs ≠ z ∧ Bs ≠ b) (h3 : Br < n ∧ Br ≠ z ∧ Br ≠ b) : Lies W' g Bs Br f N c r :=
  h.stay ⟨k.block _ h1.1 h1.2.1 h1.2.2, k.block _ h2.1 h2.2.1 h2.2.2, k.block _ h3.1 h3.2.1 h3.2.2⟩

theorem one_end {w w1 : World} {z n : Nat} {xs : List Int} {x : Int} {va v : Value} {o : Obj} (b : Nat) (le : z < n) (sz : n ≤ w.heap.size) (ba : w.heap[z]? = some (.cells #[va] 38 (0, 0))) (oa : w.ownsRow n 3 1 va xs.length (ints xs))
    (ho : w1.ownsRow n 3 1 v (xs.length + 1) (ints xs ++ [.int .i64 x])) (hg : (w.alloc o).grownBy w1 va.ownBlock) :
    One (w1.setCell ⟨z, 0, none⟩ v) z n (xs ++ [x]) ∧ Bar z b n w (w1.setCell ⟨z, 0, none⟩ v) := by
  have B0 := g3 w o
  have s0 := B0.size
  have s1 := hg.size
  have old : ∀ k, k < n → w1.heap[k]? = w.heap[k]? := by
    intro k hk
    have e1 : (w.alloc o).heap[k]? = w.heap[k]? := B0.block k (by omega) (by simp)
    exact (hg.block k (by omega) (fun e => by have := oa.lt k e.symm; omega)).trans e1
  refine ⟨⟨⟨v, ?_, ?_⟩, le, by simp; omega⟩, ⟨?_, ?_, ?_, by simp; omega, fun k hk h1 h2 => ?_⟩⟩
  · rw [Joins.block_setCell ((old z le).trans ba)]; rfl
  · rw [ints_snoc, List.length_append]
    exact ownsRow_setCell_below ho (by simp; omega) _
  · exact hg.os.trans B0.os
  · exact hg.tape.trans B0.tape
  · exact hg.output.trans B0.output
  · exact (Below.heap_setCell _ _ _ _ h1).trans (old k hk)

set_option maxRecDepth 100000 in
set_option maxHeartbeats 2000000 in
theorem drop_ok {w : World} {z y p b n N : Nat} {f : Nat → Int} {xs : List Int} (O : One w z n xs) (Y : w.heap[y]? = some (.cells #[.pointer (some ⟨p, 0, none⟩)] 23 (0, 0))) (H : Has 58 w p b f N) (G : Good f N)
    (hy : y < n) (hp : p < n) (hb : b < n) (zy : z ≠ y) (zp : z ≠ p) (zb : z ≠ b) (yb : y ≠ b) (x x2 : Int) (hl : xs.length ≤ 100000) :
    Calls Try.prog 24 #[.int .i64 x, .int .i64 x2, .pointer (some ⟨z, 0, none⟩), .pointer (some ⟨y, 0, none⟩)] w fun e w' => e = .returned (.bool true) ∧ One w' z n (xs ++ [x]) ∧ (∃ f', Has 58 w' p b f' N ∧ Good f' N) ∧ Bar z b n w w' := by
  obtain ⟨⟨va, ba, oa⟩, le, sz⟩ := O
  have c1 : w.cell? ⟨z, 0, none⟩ = some va := by rw [Joins.cell_of_block ba]; rfl
  have y1 : w.frozen? ⟨z, 0, none⟩ = false := Joins.unfrozen_of_block ba 0
  obtain ⟨i0, hi, hz0, hz1, hz2⟩ := info_parts info3
  have HY : Hid (w.heap[y]? = some (.cells #[.pointer (some ⟨p, 0, none⟩)] 23 (0, 0))) := Y
  clear Y
  go_enter Try.func24, Try.ntmps24
  go_wp2_with (first
    | (at_builtin; refine wpList_append_lies _ rfl (.tmp 7) (.tmp 9) 38 rfl n 3 i0 (.int .i64 0) 1 8 Try.underlying38 hi hz0 hz1 hz2 rfl (by decide) va _ _ rfl (oa.kept (g3 _ _) (Classical.em _)) ⟨_, 0, none⟩ 1 1 [.int .i64 x] rfl rfl (news_one (nb4 _ _)) (by simp [Value.oneCell']) (by decide) (by unfold maxLen; omega) (by omega) (Nat.le_trans sz (by simp)) _ rfl ?_; intro q cap1 w1 ho hg hat hlt; have d2 := far_cell oa (g3 w (.cells #[.int .i64 x] 3)) hg le c1; have d3 := far_frozen oa (g3 w (.cells #[.int .i64 x] 3)) hg le sz y1; obtain ⟨O2, K2⟩ := one_end b le sz ba oa ho hg; have Y2 : (w1.setCell ⟨z, 0, none⟩ (.slice (some ⟨q, 0, none⟩) (xs.length + 1) cap1)).cell? ⟨y, 0, none⟩ = some (.pointer (some ⟨p, 0, none⟩)) := (by rw [Joins.cell_of_block ((K2.block y hy (Ne.symm zy) yb).trans HY.out)]; rfl); have H2 : Has 58 (w1.setCell ⟨z, 0, none⟩ (.slice (some ⟨q, 0, none⟩) (xs.length + 1) cap1)) p b f N := ⟨(K2.block p hp (Ne.symm zp) H.ne).trans H.box, (by rw [Below.heap_setCell _ _ _ _ (Ne.symm zb)]; exact (hg.block b (Nat.lt_of_lt_of_le H.lt.2 (g3 w (.cells #[.int .i64 x] 3)).size) (fun e => by have := oa.lt b e.symm; omega)).trans (((g3 w (.cells #[.int .i64 x] 3)).block b H.lt.2 (by simp)).trans H.nums)), H.ne, H.pos, H.len⟩; have F := free_any H2 G x; clear ho hg hat hlt)
    | (go_at_call 19; refine F.mono ?_; rintro e w3 ⟨rfl, H3, G3⟩))
  go_ret
  exact ⟨rfl, O2.grown G3 hb zb, ⟨_, H3, freeF_good G⟩, K2.trans (Bar.grown G3 O2.sz)⟩

set_option maxRecDepth 100000 in
set_option maxHeartbeats 4000000 in
theorem drops_ok {W : World} {g Bs Br N c z y p b M n : Nat} {r : Bool} {f h : Nat → Int} (hN : N ≤ 4096) (hL : Lies W g Bs Br f N c r) (hO : One W z n []) (hY : W.heap[y]? = some (.cells #[.pointer (some ⟨p, 0, none⟩)] 23 (0, 0))) (hH : Has 58 W p b h M) (hG : Good h M)
    (hy : y < n) (hp : p < n) (hb : b < n) (zy : z ≠ y) (zp : z ≠ p) (zb : z ≠ b) (yb : y ≠ b)
    (h1 : g < n ∧ g ≠ z ∧ g ≠ b) (h2 : Bs < n ∧ Bs ≠ z ∧ Bs ≠ b) (h3 : Br < n ∧ Br ≠ z ∧ Br ≠ b) :
    Calls Try.prog 39 #[.func (.func 24) #[] #[.pointer (some ⟨z, 0, none⟩), .pointer (some ⟨y, 0, none⟩)], .pointer (some ⟨Bs, 0, none⟩), .pointer (some ⟨Br, 0, none⟩)] W fun e W' => (∃ v, e = .returned v) ∧ One W' z n (fs (parts f N r)) ∧ Bar z b n W W' := by
  have pl := parts_len f N r
  have hp0 : Hid (p < n) := hp
  have HO : Hid (One W z n []) := hO
  have HH : Hid (∃ h, Has 58 W p b h M ∧ Good h M) := ⟨h, hH, hG⟩
  have HY : Hid (W.heap[y]? = some (.cells #[.pointer (some ⟨p, 0, none⟩)] 23 (0, 0))) := hY
  clear hO hH hG hY hp
  go_enter Try.func39, Try.ntmps39
  go_wp2
  go_loopw [4, 5] (fun m i wr => ∃ (k a : Nat) (pre : List (Nat × Nat)), i = .int .i64 a ∧ a ≤ N ∧ N - a ≤ k ∧ pre ++ (segs f N k a).filter (kind f r) = parts f N r ∧ One wr z n (fs pre) ∧ Hid (∃ h, Has 58 wr p b h M ∧ Good h M) ∧ Lies wr g Bs Br f N c r ∧ Bar z b n W wr)
    (fun _ i _ => N - (intOf i).toNat)
  case atStart => exact ⟨N, 0, [], rfl, Nat.zero_le _, by omega, rfl, HO.out, HH, hL, Bar.refl _ _ _ _⟩
  case round =>
    obtain ⟨k, a, pre, rfl, ha, hk, hp, T0, HX, L, K0⟩ := hrel
    clear HO HH hL
    obtain ⟨c1, c2, c3⟩ := L.cells
    have hc := L.hc
    have ppl : pre.length ≤ N := by
      have := congrArg List.length hp
      simp at this
      omega
    by_cases hlt : a < N
    · have tp := tog_pos f hlt
      have tl := tog_le f (N := N) (i := a) ha
      obtain ⟨sn1, sn2⟩ := next_seg hp hlt hk
      have T := together_ok (w := wr) (b := g) (o := a) (len := N - a) (cap := c - a) (g := fun j => f (a + j)) (fun j hj => c3 (a + j) (by omega)) (by omega) (by omega)
      rw [tog_shift] at T
      have hkd : kind f r (a, tog f N a) = (decide (f a = -1) == r) := rfl
      obtain ⟨t, ht⟩ : ∃ t, tog f N a = t := ⟨_, rfl⟩
      obtain ⟨v, hv⟩ : ∃ v, f a = v := ⟨_, rfl⟩
      rw [hv] at hkd
      rw [ht] at T tp tl
      clear c3
      have cs : (kind f r (a, tog f N a) = true ∧ ((v == -1) == r) = true) ∨ (kind f r (a, tog f N a) = false ∧ ((v == -1) == r) = false) := by
        rw [hkd, show decide (v = -1) = (v == -1) by by_cases e : v = -1 <;> simp [e]]
        cases ((v == -1) == r) <;> simp
      rcases cs with ⟨hk1, hk2⟩ | ⟨hk1, hk2⟩
      · have HQ : Hid ((pre ++ [(a, tog f N a)]) ++ (segs f N (k - 1) (a + tog f N a)).filter (kind f r) = parts f N r) := sn1 hk1
        clear sn1 sn2 hk1 hp hkd
        go_wp2_with (go_at_call 34; refine T.mono ?_; rintro e W2 ⟨rfl, B⟩; have L2 := L.below B; obtain ⟨d1, d2, d3⟩ := L2.cells; have dv := d3 a hlt; rw [hv] at dv; clear d3)
        have B' := B.drew
        have P : Calls Try.prog 24 #[.int .i64 a, .int .i64 t, .pointer (some ⟨z, 0, none⟩), .pointer (some ⟨y, 0, none⟩)] W2.drew fun e w' => e = .returned (.bool true) ∧ One w' z n (fs pre ++ [(a : Int)]) ∧ Hid (∃ f', Has 58 w' p b f' M ∧ Good f' M) ∧ Bar z b n W2.drew w' := by
          obtain ⟨h, H0, G0⟩ := HX.out
          exact drop_ok (T0.later B') (((Bar.later (z := z) (b := b) B' T0.sz).block y hy (Ne.symm zy) yb).trans ((K0.block y hy (Ne.symm zy) yb).trans HY.out)) (H0.later B') G0 hy hp0.out hb zy zp zb yb a t (by rw [fs_length]; omega)
        go_region_with (go_at_call 24; refine P.mono ?_; rintro e W3 ⟨rfl, T3, HX3, K3⟩)
        all_goals go_wp2
        all_goals go_roundw
        all_goals first
          | exact ⟨k - 1, a + t, pre ++ [(a, t)], by go_num, by omega, by omega, ht ▸ HQ.out, by simpa [fs] using T3, HX3, (L.below B').bar K3 h1 h2 h3, K0.trans ((Bar.later B' T0.sz).trans K3)⟩
          | (simp [intOf]; omega)
      · have HQ : Hid (pre ++ (segs f N (k - 1) (a + tog f N a)).filter (kind f r) = parts f N r) := sn2 hk1
        clear sn1 sn2 hk1 hp hkd
        go_wp2_with (go_at_call 34; refine T.mono ?_; rintro e W2 ⟨rfl, B⟩; have L2 := L.below B; obtain ⟨d1, d2, d3⟩ := L2.cells; have dv := d3 a hlt; rw [hv] at dv; clear d3)
        have sk : True := trivial
        go_quiet (fail)
        go_wp2
        go_roundw
        case rel => exact ⟨k - 1, a + t, _, by go_num, by omega, by omega, ht ▸ HQ.out, T0.later (below_drewN B _), (by obtain ⟨h, H0, G0⟩ := HX.out; exact ⟨h, H0.later (below_drewN B _), G0⟩), L.below (below_drewN B _), K0.trans (Bar.later (below_drewN B _) T0.sz)⟩
        case measure => simp [intOf]; omega
    · obtain rfl : a = N := by omega
      rw [segs_end hlt] at hp
      simp at hp
      subst hp
      go_wp2
      go_end0
      exact ⟨⟨_, rfl⟩, T0, K0⟩
end Go.Proofs.Ytaeehhonahhelaa
