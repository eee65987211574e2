/- The iterator over a header's pointers, handed the statement's own function: the list behind it. -/
import Derived.Test.YtdiibckplkkkkaaDoorPush
namespace Go.Proofs.YtdiibckplkkkkaaDoor
open Go.RowKit
set_option linter.unusedVariables false

/-- How many places a range tells to whom wants m (none below 1: all). -/
def told (k i p n m : Int) : Nat := if rightE k i p n = 0 then (if 1 ≤ m ∧ m ≤ p then m.toNat else p.toNat) else 0
theorem told_bad {k i p n m : Int} (h : rightE k i p n ≠ 0) : told k i p n m = 0 := by simp [told, h]
theorem told_cut {k i p n m : Int} (h : rightE k i p n = 0) (a : 1 ≤ m) (b : m ≤ p) : told k i p n m = m.toNat := by simp [told, h, a, b]
theorem told_all {k i p n m : Int} (h : rightE k i p n = 0) (a : ¬ (1 ≤ m ∧ m ≤ p)) : told k i p n m = p.toNat := by simp only [told, h, if_true, if_neg a]

/-- What the iterator has at hand: the table, its header's box, and whom it tells. -/
structure Hand (w : World) (z y b n : Nat) (k i p q m : Int) : Prop where
  tab : Table w
  hd : w.heap[b]? = some (.cells #[.int .i64 k, .int .i64 i, .int .i64 p, .int .i64 q] 23 (0, 0))
  mo : w.heap[y]? = some (.cells #[.int .i64 m] 3 (0, 0))
theorem Table.same {w w' : World} (h : Table w) (e : w'.heap[0]? = w.heap[0]?) : Table w' := by
  have k : ∀ o, w'.cell? ⟨0, o, none⟩ = w.cell? ⟨0, o, none⟩ := fun o => World.cell?_of_block (w := w) (a := ⟨0, o, none⟩) e
  exact ⟨fun j hj => (k _).trans (h.i j hj), fun j hj => (k _).trans (h.a j hj), fun j hj => (k _).trans (h.b j hj), fun j hj => (k _).trans (h.c j hj), fun j hj => (k _).trans (h.d j hj)⟩
theorem Hand.bar {w w' : World} {z y b n : Nat} {k i p q m : Int} (h : Hand w z y b n k i p q m) (B : Bar z n w w') (z0 : 0 < z) (zn : z < n) (hy : y < n ∧ y ≠ z) (hb : b < n ∧ b ≠ z) : Hand w' z y b n k i p q m :=
  ⟨h.tab.same (B.block 0 (by omega) (by omega)), (B.block b hb.1 hb.2).trans h.hd, (B.block y hy.1 hy.2).trans h.mo⟩
theorem Hand.later {w w' : World} {z y b n : Nat} {k i p q m : Int} (h : Hand w z y b n k i p q m) (B : Below w.heap.size w w') : Hand w' z y b n k i p q m :=
  ⟨h.tab.later B, (B.block b (Array.getElem?_eq_some_iff.1 h.hd).1).trans h.hd, (B.block y (Array.getElem?_eq_some_iff.1 h.mo).1).trans h.mo⟩
theorem Hand.at {w : World} {z y b n : Nat} {k i p q m : Int} (h : Hand w z y b n k i p q m) : HeadAt w b k i p q :=
  ⟨by rw [Joins.cell_of_block h.hd]; rfl, by rw [Joins.cell_of_block h.hd]; rfl, by rw [Joins.cell_of_block h.hd]; rfl, by rw [Joins.cell_of_block h.hd]; rfl⟩

set_option maxRecDepth 100000 in
set_option maxHeartbeats 2000000 in
theorem tells_bad {w : World} {z y b n : Nat} {k i p q m : Int} (H : Hand w z y b n k i p q m) (O : One w z n []) (E : rightE k i p q ≠ 0) :
    Calls Tryd.prog 28 #[.func (.func 27) #[] #[.pointer (some ⟨z, 0, none⟩), .pointer (some ⟨y, 0, none⟩)], .pointer (some ⟨b, 0, none⟩)] w fun e w' => (∃ v, e = .returned v) ∧ One w' z n (places (told k i p q m)) ∧ Bar z n w w' := by
  rw [told_bad E]
  have e1 : (rightE k i p q != 0) = true := by simp [E]
  have S := fun w h => right_any k i p q w h
  obtain ⟨E0, hE⟩ : ∃ x, rightE k i p q = x := ⟨_, rfl⟩
  simp only [hE] at S e1
  clear E hE
  obtain ⟨x0, x1, x2, x3⟩ := H.at
  have T := H.tab
  go_enter Tryd.func28, Tryd.ntmps28
  go_wp2_with (go_at_call 9; refine (S _ T).mono ?_; rintro e w1 ⟨rfl, B1⟩)
  refine bodyPost_ret (results_none rfl _ _ _) rfl ?_
  exact ⟨⟨_, rfl⟩, O.later B1, Bar.later B1 O.sz⟩

set_option maxRecDepth 100000 in
set_option maxHeartbeats 4000000 in
theorem tells_ok {w : World} {z y b n P : Nat} {k i q m : Int} (H : Hand w z y b n k i P q m) (O : One w z n []) (E : rightE k i P q = 0) (z0 : 0 < z) (zn : z < n) (hy : y < n ∧ y ≠ z) (hb : b < n ∧ b ≠ z) :
    Calls Tryd.prog 28 #[.func (.func 27) #[] #[.pointer (some ⟨z, 0, none⟩), .pointer (some ⟨y, 0, none⟩)], .pointer (some ⟨b, 0, none⟩)] w fun e w' => (∃ v, e = .returned v) ∧ One w' z n (places (told k i P q m)) ∧ Bar z n w w' := by
  have sm := right_small E
  have E' : Hid (rightE k i P q = 0) := E
  have S := fun w h => right_any k i P q w h
  simp only [E] at S
  clear E
  obtain ⟨x0, x1, x2, x3⟩ := H.at
  have T := H.tab
  have HH : Hid (Hand w z y b n k i P q m) := H
  have HO : Hid (One w z n []) := O
  clear H O
  go_enter Tryd.func28, Tryd.ntmps28
  go_wp2_with (go_at_call 9; refine (S _ T).mono ?_; rintro e w1 ⟨rfl, B1⟩; have H1 := HH.out.later B1; have O1 := HO.out.later B1; obtain ⟨u0, u1, u2, u3⟩ := H1.at)
  have K1 : Bar z n w w1 := Bar.later B1 HO.out.sz
  go_loopw [3, 9] (fun _ c wr => ∃ j : Nat, c = .int .i64 j ∧ j ≤ P ∧ ¬ (1 ≤ m ∧ m ≤ j) ∧ One wr z n (places j) ∧ Hand wr z y b n k i P q m ∧ Bar z n w wr)
    (fun _ c _ => P - (intOf c).toNat)
  case atStart => exact ⟨0, rfl, Nat.zero_le _, by omega, O1, H1, K1⟩
  case round =>
    obtain ⟨j, rfl, hj, hm, Oj, Hj, Kj⟩ := hrel
    by_cases hlt : j < P
    · have PU := push_ok Oj Hj.mo hy.1 (Ne.symm hy.2) (1 + (j : Int)) (by rw [places_length]; omega)
      rw [places_length, show places j ++ [1 + (j : Int)] = places (j + 1) by rw [places, Int.add_comm]] at PU
      have HHj : Hid (Hand wr z y b n k i P q m) := Hj
      have HKj : Hid (Bar z n w wr) := Kj
      clear Oj Hj Kj
      by_cases hs : (j : Int) + 1 = m
      · rw [show ((j : Int) + 1 != m) = false by simp [hs]] at PU
        have Hs : Hid ((j : Int) + 1 = m) := hs
        clear hs hm
        go_wp2_with (go_at_call 27; refine PU.mono ?_; rintro e w2 ⟨rfl, O2, K2⟩)
        refine bodyPost_ret (results_none rfl _ _ _) rfl ?_
        refine ⟨⟨_, rfl⟩, ?_, HKj.out.trans K2⟩
        have := Hs.out
        rw [told_cut E'.out (by omega) (by omega), show m.toNat = j + 1 by omega]
        exact O2
      · rw [show ((j : Int) + 1 != m) = true by simp [hs]] at PU
        have hm2 : Hid (¬ (1 ≤ m ∧ m ≤ ((j + 1 : Nat) : Int))) := (by omega : ¬ (1 ≤ m ∧ m ≤ ((j + 1 : Nat) : Int)))
        clear hs hm
        go_wp2_with (go_at_call 27; refine PU.mono ?_; rintro e w2 ⟨rfl, O2, K2⟩)
        go_roundw
        case rel => exact ⟨j + 1, by go_num, by omega, hm2.out, O2, HHj.out.bar K2 z0 zn hy hb, HKj.out.trans K2⟩
        case measure => simp [intOf]; omega
    · obtain rfl : j = P := by omega
      have hm2 : Hid (¬ (1 ≤ m ∧ m ≤ (j : Int))) := hm
      clear hm
      go_wp2
      go_end0
      refine ⟨⟨_, rfl⟩, ?_, Kj⟩
      rw [told_all E'.out hm2.out]
      exact Oj
end Go.Proofs.YtdiibckplkkkkaaDoor
