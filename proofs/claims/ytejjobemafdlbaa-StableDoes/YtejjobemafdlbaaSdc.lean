/- The document's All; two rows compared. -/
import Derived.Test.YtejjobemafdlbaaSdb
namespace Go.Proofs.Ytejjobemafdlbaa
open Go.RowKit
set_option linter.unusedVariables false
set_option linter.unusedSimpArgs false

theorem below_drewN {w w1 : World} {m : Nat} (B : Below m w w1) (n : Nat) : Below m w (w1.drewN n) := by
  exact ⟨B.os, B.tape, B.output, B.size, B.block⟩
theorem Rt.kx2 {lo : Nat} {w w' : World} {x ab fb n p q : Nat} {b : Int} {A T : Nat → Int} (h : Rt lo w x ab fb n b A T) (K : Kx p q w w') (h1 : x ≠ p ∧ x ≠ q) (h2 : ab ≠ p ∧ ab ≠ q) (h3 : fb ≠ p ∧ fb ≠ q) : Rt lo w' x ab fb n b A T :=
  h.blocks (K.block _ h.lt.1 h1.1 h1.2) (K.block _ h.lt.2.1 h2.1 h2.2) (K.block _ h.lt.2.2 h3.1 h3.2)
theorem cell_kx2 {p q : Nat} {w w' : World} {g i : Nat} {v : Value} (h : w.cell? ⟨g, i, none⟩ = some v) (K : Kx p q w w') (h1 : g ≠ p) (h2 : g ≠ q) : w'.cell? ⟨g, i, none⟩ = some v :=
  (World.cell?_of_block (w := w) (w' := w') (a := ⟨g, i, none⟩) (K.block g (World.block_lt_of_cell? _ _ h) h1 h2)).trans h
theorem mkH_big {n : Nat} {b : Int} {A T : Nat → Int} (h : Okt n b A T) (hb : b ≤ 1000000) (hn : n ≤ 256) (at' : Int) : -9223372036854775808 ≤ mkH n A T at' ∧ mkH n A T at' ≤ 9223372036854775807 := by
  unfold mkH
  split
  · rename_i he
    have hl : lowF n A < n := by
      unfold mkE at he
      split at he
      · split at he
        · assumption
        · omega
      · omega
    have := h _ hl
    unfold hnd
    omega
  · omega
set_option maxHeartbeats 1000000 in
theorem same_true {w : World} {va vb : Value} {xs : List Int} (ha : Sl w va xs) (hb : Sl w vb xs) (hl : xs.length ≤ 600000) :
    Calls Try.prog 20 #[va, vb] w fun e w' => e = .returned (.bool true) ∧ Below w.heap.size w w' := by
  rcases Nat.eq_zero_or_pos xs.length with h0 | h0
  · have na : ∃ a c, va = .slice a 0 c := by
      rcases ha with ⟨h, _⟩ | ⟨g, c, _, h, _⟩
      · exact h
      · exact ⟨_, c, by rw [h, h0]⟩
    have nb : ∃ a c, vb = .slice a 0 c := by
      rcases hb with ⟨h, _⟩ | ⟨g, c, _, h, _⟩
      · exact h
      · exact ⟨_, c, by rw [h, h0]⟩
    obtain ⟨a, c, rfl⟩ := na
    obtain ⟨a', c', rfl⟩ := nb
    clear ha hb
    go_enter Try.func20, Try.ntmps20
    go_wp2
    go_loop [5] (fun i => i = .int .i64 0) (fun _ => 0)
    case atStart => rfl
    case round =>
      subst hrel
      go_wp2
      go_ret
      exact ⟨rfl, Below.refl _ _⟩
  · rcases ha with ⟨_, h⟩ | ⟨g, c, cu, rfl, l1, lg, ca⟩
    · rw [h] at h0; simp at h0
    rcases hb with ⟨_, h⟩ | ⟨g', c', cu', rfl, l2, lg', cb⟩
    · rw [h] at h0; simp at h0
    have CA : Hid (∀ j, j < xs.length → w.cell? ⟨g, j, none⟩ = some (.int .i64 (xs.getD j 0))) := ⟨fun j hj => by rw [Joins.cell_of_block lg]; exact ca j hj⟩
    have CB : Hid (∀ j, j < xs.length → w.cell? ⟨g', j, none⟩ = some (.int .i64 (xs.getD j 0))) := ⟨fun j hj => by rw [Joins.cell_of_block lg']; exact cb j hj⟩
    have sg := (Array.getElem?_eq_some_iff.1 lg).1
    have sg' := (Array.getElem?_eq_some_iff.1 lg').1
    clear ca cb lg lg'
    obtain ⟨n, hn⟩ : ∃ n, xs.length = n := ⟨_, rfl⟩
    rw [hn] at CA CB hl h0 l1 l2 ⊢
    clear hn
    go_enter Try.func20, Try.ntmps20
    go_wp2
    go_loopw [5] (fun i wr => ∃ k : Nat, k ≤ n ∧ i = .int .i64 k ∧ Below w.heap.size w wr) (fun i _ => n - (intOf i).toNat)
    case atStart => exact ⟨0, Nat.zero_le _, rfl, Below.refl _ _⟩
    case round =>
      obtain ⟨k, hk, rfl, B⟩ := hrel
      by_cases hlt : k < n
      · have c1 : wr.cell? ⟨g, k, none⟩ = some (.int .i64 (xs.getD k 0)) := (B.cell (p := ⟨g, k, none⟩) sg).trans (CA.out k hlt)
        have c2 : wr.cell? ⟨g', k, none⟩ = some (.int .i64 (xs.getD k 0)) := (B.cell (p := ⟨g', k, none⟩) sg').trans (CB.out k hlt)
        obtain ⟨x, hx⟩ : ∃ x, xs.getD k 0 = x := ⟨_, rfl⟩
        rw [hx] at c1 c2
        clear hx
        go_wp2
        go_quiet (fail)
        go_wp2
        go_roundw
        case rel => exact ⟨k + 1, by omega, by go_num, below_drewN B _⟩
        case measure => simp [intOf]; omega
      · obtain rfl : k = n := by omega
        go_wp2
        go_ret
        exact ⟨rfl, B⟩
set_option maxHeartbeats 2000000 in
theorem rall_any {lo : Nat} {w : World} {x ab fb n : Nat} {b : Int} {A T : Nat → Int} (h : Rt lo w x ab fb n b A T) :
    Calls Try.prog 22 #[pv x] w fun e w' => ∃ v, e = .returned v ∧ RowS w' w.heap.size 3 1 v (allL A n).length (ints (allL A n)) ∧ Below w.heap.size w w' := by
  have le := h.le
  have HH := Hid.mk h
  clear h
  obtain ⟨i0, hi, hz0, hz1, hz2⟩ := info_parts info3
  go_enter Try.func22, Try.ntmps22
  go_wp2
  go_loopw [4, 3] (fun i v wr => ∃ (k q : Nat) (ga : Option Addr) (cap : Nat) (l : List Int), i = .int .i64 k ∧ k ≤ n ∧ v = .slice ga q cap ∧ q ≤ k ∧ Hid (l = allL A k ∧ l.length = q) ∧ Hid (RowS wr w.heap.size 3 1 (.slice ga q cap) q (ints l)) ∧ Hid (Below w.heap.size w wr)) (fun i _ _ => n - (intOf i).toNat)
  case atStart => exact ⟨0, 0, none, 0, [], rfl, Nat.zero_le _, rfl, Nat.le_refl _, ⟨rfl, rfl⟩, ⟨.inl ⟨rfl, rfl, none, rfl⟩⟩, ⟨Below.refl _ _⟩⟩
  case round =>
    obtain ⟨k, q, ga, cap, l, rfl, hk, rfl, hq, HL, HR, HB⟩ := hrel
    have ht := HH.out.later HB.out
    have cx := ht.c.1
    by_cases hlt : k < n
    · have hlt' : (k : Int) < n := by omega
      have c0 := ht.c0 k hlt
      have ok := HH.out.ok k hlt
      clear ht
      obtain ⟨z, hak⟩ : ∃ z, A k = z := ⟨_, rfl⟩
      rw [hak] at c0 ok
      have HZ := Hid.mk hak
      have hs : w.heap.size ≤ wr.heap.size := HB.out.size
      by_cases hz : z > 0
      · have HN := Hid.mk (allL_more (A := A) (k := k) (by rw [hak]; simp; omega))
        clear hak
        have HRl : Hid (RowS (wr.alloc (Obj.cells #[.int .i64 z] 3)) w.heap.size 3 1 (.slice ga q cap) q (ints l)) := ⟨HR.out.below ((Below.refl _ _).alloc (Nat.le_refl _) _)⟩
        go_wp2_with (at_builtin; refine wpList_append_T rfl _ _ 31 rfl w.heap.size 3 i0 (.int .i64 0) 1 8 Try.underlying31 hi hz0 hz1 hz2 rfl (by decide) (.slice ga q cap) q (ints l) rfl HRl.out (some ⟨wr.heap.size, 0, none⟩) 1 1 [.int .i64 z] rfl rfl (fun _ => ⟨_, rfl, news_new wr z⟩) (one_new z) (q + 1) rfl (ints (l ++ [z])) (by simp [ints]) (by unfold maxLen; omega) (by omega) (by simp; omega) ?_; intro ga1 cap1 w5 hown5 hgr5; have HB5 := Hid.mk (row_below HR.out HB.out hs hgr5); have HO5 := Hid.mk hown5; clear hown5 hgr5 HRl)
        go_roundw
        case rel => exact ⟨k + 1, q + 1, ga1, cap1, l ++ [z], by go_num, by omega, rfl, by omega, ⟨by rw [HN.out, HZ.out, HL.out.1], by simp [HL.out.2]⟩, HO5, HB5⟩
        case measure => simp [intOf]; omega
      · have HN := Hid.mk (allL_skip (A := A) (k := k) (by rw [hak]; simp; omega))
        clear hak
        go_wp2
        go_roundw
        case rel => exact ⟨k + 1, q, ga, cap, l, by go_num, by omega, rfl, by omega, ⟨by rw [HN.out]; exact HL.out.1, HL.out.2⟩, HR, HB⟩
        case measure => simp [intOf]; omega
    · obtain rfl : k = n := by omega
      clear ht
      go_wp2
      go_ret
      exact ⟨_, rfl, by rw [← HL.out.1, HL.out.2]; exact HR.out, HB.out⟩
end Go.Proofs.Ytejjobemafdlbaa
