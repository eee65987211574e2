/- The iterator over a row's parts, gone over by a range or by whoever hands it a function. -/
import Derived.RangeFuncNested
import Derived.RangeFuncBound
import Derived.RangeFuncCalls
import Derived.RangeFuncLeaves
import Derived.Shelf.Abstract
import Derived.Shelf.RegionOpen
import Derived.WalkKit
import Derived.OwnWalkIn
import Derived.TacticsInMore
import Derived.LoopNIn
import Derived.LoopIn
import Derived.RegionIn
import Derived.Sort.BigQuietIn
import Derived.Test.YtbdoekffadmejaaGreatDoorPool
namespace Go.Proofs.YtbdoekffadmejaaGreatDoor.Bp
open Go.RowKit Go.Shelf
set_option linter.unusedVariables false
attribute [local go_sem] Oper.semAt_some

/-- A part, known to be one. -/
abbrev Part (f : Nat → Int) (N : Nat) (r : Bool) : Type := { s : Nat × Nat // s ∈ parts f N r }
/-- What the iterator has at hand: the row and two boxes. -/
structure Lies (W : World) (b Bs Br : Nat) (f : Nat → Int) (N c : Nat) (r : Bool) : Prop where
  nums : ∃ cs, W.heap[b]? = some (.cells cs 3 (0, 0)) ∧ ∀ j, j < N → cs[j]? = some (.int .i64 (f j))
  sl : W.heap[Bs]? = some (.cells #[.slice (some ⟨b, 0, none⟩) N c] 31 (0, 0))
  hc : N ≤ c
  rn : W.heap[Br]? = some (.cells #[.bool r] 4 (0, 0))
/-- These blocks stay. -/
def Stay (b Bs Br : Nat) (W W' : World) : Prop := W'.heap[b]? = W.heap[b]? ∧ W'.heap[Bs]? = W.heap[Bs]? ∧ W'.heap[Br]? = W.heap[Br]?
theorem Stay.refl (b Bs Br : Nat) (W : World) : Stay b Bs Br W W := ⟨rfl, rfl, rfl⟩
theorem Stay.trans {b Bs Br : Nat} {A B C : World} (h : Stay b Bs Br A B) (k : Stay b Bs Br B C) : Stay b Bs Br A C := ⟨k.1.trans h.1, k.2.1.trans h.2.1, k.2.2.trans h.2.2⟩
theorem Stay.put {b Bs Br m : Nat} (hb : b < m) (hs : Bs < m) (hr : Br < m) (W : World) (l : Nat) (o o' : Obj) (hl : m ≤ l) (_ : W.heap[l]? = some o) (_ : o.isCells = false) (_ : o.isWalk = false) : Stay b Bs Br W (W.putObj l o') :=
  ⟨World.putObj_heap_other (by omega), World.putObj_heap_other (by omega), World.putObj_heap_other (by omega)⟩
theorem Stay.grown {b Bs Br : Nat} {W W' : World} {row : Option Nat} (h : W.grownBy W' row) (hb : b < W.heap.size) (hs : Bs < W.heap.size) (hr : Br < W.heap.size) (h1 : some b ≠ row) (h2 : some Bs ≠ row) (h3 : some Br ≠ row) : Stay b Bs Br W W' :=
  ⟨h.block _ hb h1, h.block _ hs h2, h.block _ hr h3⟩
theorem Lies.stay {W W' : World} {b Bs Br N c : Nat} {f : Nat → Int} {r : Bool} (h : Lies W b Bs Br f N c r) (k : Stay b Bs Br W W') : Lies W' b Bs Br f N c r := ⟨by obtain ⟨cs, a, d⟩ := h.nums; exact ⟨cs, k.1.trans a, d⟩, k.2.1.trans h.sl, h.hc, k.2.2.trans h.rn⟩
theorem Lies.lt {W : World} {b Bs Br N c : Nat} {f : Nat → Int} {r : Bool} (h : Lies W b Bs Br f N c r) : b < W.heap.size ∧ Bs < W.heap.size ∧ Br < W.heap.size :=
  ⟨by obtain ⟨cs, a, d⟩ := h.nums; exact (Array.getElem?_eq_some_iff.1 a).1, (Array.getElem?_eq_some_iff.1 h.sl).1, (Array.getElem?_eq_some_iff.1 h.rn).1⟩
theorem Lies.below {W W' : World} {b Bs Br N c : Nat} {f : Nat → Int} {r : Bool} (h : Lies W b Bs Br f N c r) (k : Below W.heap.size W W') : Lies W' b Bs Br f N c r :=
  ⟨by obtain ⟨cs, a, d⟩ := h.nums; exact ⟨cs, (k.block _ h.lt.1).trans a, d⟩, (k.block _ h.lt.2.1).trans h.sl, h.hc, (k.block _ h.lt.2.2).trans h.rn⟩
theorem Lies.cells {W : World} {b Bs Br N c : Nat} {f : Nat → Int} {r : Bool} (h : Lies W b Bs Br f N c r) : W.cell? ⟨Bs, 0, none⟩ = some (.slice (some ⟨b, 0, none⟩) N c) ∧ W.cell? ⟨Br, 0, none⟩ = some (.bool r) ∧ ∀ j, j < N → W.cell? ⟨b, j, none⟩ = some (.int .i64 (f j)) := by
  refine ⟨?_, ?_, fun j hj => ?_⟩
  · rw [Joins.cell_of_block h.sl]; rfl
  · rw [Joins.cell_of_block h.rn]; rfl
  · obtain ⟨cs, a, d⟩ := h.nums
    rw [Joins.cell_of_block a]
    exact d j hj

theorem parts_ok (w : World) (b N cap : Nat) (r : Bool) :
    Calls Tryz.prog 142 #[.slice (some ⟨b, 0, none⟩) N cap, .bool r] w fun e w' => e = .returned (.func (.func 173) #[] #[.pointer (some ⟨w.heap.size, 0, none⟩), .pointer (some ⟨w.heap.size + 1, 0, none⟩)]) ∧ w' = (w.alloc (.cells #[.slice (some ⟨b, 0, none⟩) N cap] 31)).alloc (.cells #[.bool r] 4) := by
  go_enter Tryz.func142, Tryz.ntmps142
  go_wp2
  go_ret
  exact ⟨by simp, rfl⟩
theorem parts_nil (w : World) (r : Bool) :
    Calls Tryz.prog 142 #[.slice none 0 0, .bool r] w fun e w' => e = .returned (.func (.func 173) #[] #[.pointer (some ⟨w.heap.size, 0, none⟩), .pointer (some ⟨w.heap.size + 1, 0, none⟩)]) ∧ w' = (w.alloc (.cells #[.slice none 0 0] 31)).alloc (.cells #[.bool r] 4) := by
  go_enter Tryz.func142, Tryz.ntmps142
  go_wp2
  go_ret
  exact ⟨by simp, rfl⟩
theorem seg_next {f : Nat → Int} {N k i : Nat} {r : Bool} {pre : List (Part f N r)} (h : pre.map Subtype.val ++ (segs f N k i).filter (kind f r) = parts f N r) (hi : i < N) (hk : N - i ≤ k) :
    (kind f r (i, tog f N i) = true → ∃ hm : (i, tog f N i) ∈ parts f N r, pre.length < (parts f N r).length ∧ (pre ++ [(⟨(i, tog f N i), hm⟩ : Part f N r)]).map Subtype.val ++ (segs f N (k - 1) (i + tog f N i)).filter (kind f r) = parts f N r) ∧
    (kind f r (i, tog f N i) = false → pre.map Subtype.val ++ (segs f N (k - 1) (i + tog f N i)).filter (kind f r) = parts f N r) := by
  rw [segs_cons hi hk, List.filter_cons] at h
  constructor
  · intro e
    rw [if_pos e] at h
    refine ⟨by rw [← h]; simp, ?_, ?_⟩
    · rw [← h]; simp
    · simpa using h
  · intro e
    rw [if_neg (by simp [e])] at h
    exact h

set_option maxRecDepth 100000 in
set_option maxHeartbeats 4000000 in
theorem parts1_in (n l b Bs Br N c : Nat) (r : Bool) (f : Nat → Int) (hn : 1 ≤ n) (hN : N ≤ 4096) (J Jx : List (Part f N r) → World → Prop) (W : World) (hJ : AbidesFrom W.heap.size J)
    (hY : ∀ pre x W1, J pre W1 → pre.length < (parts f N r).length → YieldAt Fence.wide (n - 1) Tryz.prog l #[.int .i64 (x.1.1 : Int), .int .i64 (x.1.2 : Int)] W1 fun e W' =>
      (e = .returned (.bool true) ∧ J (pre ++ [x]) W' ∧ Stay b Bs Br W1 W') ∨ (e = .returned (.bool false) ∧ Jx (pre ++ [x]) W'))
    (hL : Lies W b Bs Br f N c r) (h0 : J [] W) :
    CallsIn Fence.wide n Tryz.prog 173 #[.func (.yield l) #[] #[], .pointer (some ⟨Bs, 0, none⟩), .pointer (some ⟨Br, 0, none⟩)] W fun e W' => (∃ v, e = .returned v) ∧
      ((∃ ys : List (Part f N r), ys.map Subtype.val = parts f N r ∧ J ys W') ∨ (∃ pre : List (Part f N r), pre.map Subtype.val <+: parts f N r ∧ Jx pre W')) := by
  refine callsIn_of_wp Tryz.func173 rfl trivial ?_ rfl
  simp only [Tryz.ntmps173, List.size_toArray, List.length_cons, List.length_nil, Nat.reduceAdd, Nat.reduceSub, Array.replicate_succ, Array.replicate_zero, List.push_toArray, List.append_toArray, List.nil_append, List.cons_append]
  gi_wp2
  gi_loopw [4, 5] (fun m i wr => ∃ (k a : Nat) (pre : List (Part f N r)), i = .int .i64 a ∧ a ≤ N ∧ N - a ≤ k ∧ pre.map Subtype.val ++ (segs f N k a).filter (kind f r) = parts f N r ∧ J pre wr ∧ Lies wr b Bs Br f N c r)
    (fun _ i _ => N - (intOf i).toNat)
  case atStart => exact ⟨N, 0, [], rfl, Nat.zero_le _, by omega, rfl, h0, hL⟩
  case round =>
    obtain ⟨k, a, pre, rfl, ha, hk, hp, hJs, L⟩ := hrel
    obtain ⟨c1, c2, c3⟩ := L.cells
    have hc := L.hc
    by_cases hlt : a < N
    · have tp := tog_pos f hlt
      have tl := tog_le f (N := N) (i := a) ha
      obtain ⟨sn1, sn2⟩ := seg_next hp hlt hk
      have T := together_ok (w := wr) (b := b) (o := a) (len := N - a) (cap := c - a) (g := fun j => f (a + j)) (fun j hj => c3 (a + j) (by omega)) (by omega) (by omega)
      rw [tog_shift] at T
      have cv := c3 a hlt
      have hkd : kind f r (a, tog f N a) = (decide (f a = -1) == r) := rfl
      obtain ⟨t, ht⟩ : ∃ t, tog f N a = t := ⟨_, rfl⟩
      obtain ⟨v, hv⟩ : ∃ v, f a = v := ⟨_, rfl⟩
      rw [hv] at hkd
      clear c3
      rw [ht] at T tp tl
      have cs : (kind f r (a, tog f N a) = true ∧ ((v == -1) == r) = true) ∨ (kind f r (a, tog f N a) = false ∧ ((v == -1) == r) = false) := by
        rw [hkd, show decide (v = -1) = (v == -1) by by_cases e : v = -1 <;> simp [e]]
        cases ((v == -1) == r) <;> simp
      rcases cs with ⟨hk1, hk2⟩ | ⟨hk1, hk2⟩
      · obtain ⟨hm, hlen, heq⟩ := sn1 hk1
        have HQ : Hid ((pre ++ [(⟨(a, tog f N a), hm⟩ : Part f N r)]).map Subtype.val ++ (segs f N (k - 1) (a + tog f N a)).filter (kind f r) = parts f N r) := heq
        clear sn1 sn2 hk1 heq hp hkd
        gi_wp2_with (refine ⟨trivial, ?_⟩; gi_at_call 174; refine (callsIn_wide.2 T).mono ?_; rintro e W2 ⟨rfl, B⟩; have L2 := L.below B; obtain ⟨d1, d2, d3⟩ := L2.cells; have dv := d3 a hlt; rw [hv] at dv; clear d3)
        obtain ⟨fn, tmps, assign, body, hy, hR⟩ := hY pre ⟨(a, tog f N a), hm⟩ W2.drew (hJ _ _ _ none hJs ⟨B.os, B.tape, B.output, B.size, fun q hq _ => B.block q hq⟩ (fun q e => by cases e)) hlen
        dsimp only at hy
        rw [ht] at hy
        have hR2 := hR.mono (R' := fun e W' => ∃ q : Bool, e = .returned (.bool q) ∧ ((q = true ∧ J (pre ++ [⟨(a, tog f N a), hm⟩]) W' ∧ Stay b Bs Br W2.drew W') ∨ (q = false ∧ Jx (pre ++ [⟨(a, tog f N a), hm⟩]) W'))) (by
          rintro e W' (⟨rfl, h1, h2⟩ | ⟨rfl, h1⟩)
          · exact ⟨true, rfl, .inl ⟨rfl, h1, h2⟩⟩
          · exact ⟨false, rfl, .inr ⟨rfl, h1⟩⟩)
        clear hR
        have hmx : Tryz.prog.follows .mixedOrders = true := by kernel_rfl
        gi_region_with_o (refine hR2.mono ?_; rintro e W3 ⟨q, rfl, hq⟩)
        all_goals (rcases hq with ⟨rfl, hJ3, hk3⟩ | ⟨rfl, hJx3⟩)
        all_goals gi_wp2
        all_goals first
          | (refine bodyPost_ret (results_none rfl _ _ _) rfl ?_
             exact ⟨⟨_, rfl⟩, .inr ⟨_, ⟨_, HQ.out⟩, hJx3⟩⟩)
          | (go_roundw
             case rel => exact ⟨k - 1, a + t, _, by go_num, by omega, by omega, ht ▸ HQ.out, hJ3, L2.stay hk3⟩
             case measure => simp [intOf]; omega)
      · have HQ : Hid (pre.map Subtype.val ++ (segs f N (k - 1) (a + tog f N a)).filter (kind f r) = parts f N r) := sn2 hk1
        clear sn1 sn2 hk1 hp hkd
        gi_wp2_with (refine ⟨trivial, ?_⟩; gi_at_call 174; refine (callsIn_wide.2 T).mono ?_; rintro e W2 ⟨rfl, B⟩; have L2 := L.below B; obtain ⟨d1, d2, d3⟩ := L2.cells; have dv := d3 a hlt; rw [hv] at dv; clear d3)
        have hmx : Tryz.prog.follows .mixedOrders = true := by kernel_rfl
        refine wpIn_region_quiet_lit rfl (by kernel_rfl) (by kernel_rfl) ?_
        repeat (gi_big_quiet_step (fail))
        refine BigFrame.wpQuietIn_skip (fun _ _ _ _ => trivial) rfl ?_
        conv => arg 8; simp [Act.put]
        repeat (gi_big_quiet_step (fail))
        refine wpQuietIn_nil ?_
        rintro _ ⟨nq, rfl⟩
        gi_wp2
        go_roundw
        case rel => exact ⟨k - 1, a + t, _, by go_num, by omega, by omega, ht ▸ HQ.out, hJ _ _ _ none hJs ⟨B.os, B.tape, B.output, B.size, fun q hq _ => B.block q hq⟩ (fun q e => by cases e), L2.stay ⟨rfl, rfl, rfl⟩⟩
        case measure => simp [intOf]; omega
    · obtain rfl : a = N := by omega
      rw [segs_end hlt] at hp
      gi_wp2
      go_end0
      exact ⟨⟨_, rfl⟩, .inl ⟨pre, by simpa using hp, hJs⟩⟩
end Go.Proofs.YtbdoekffadmejaaGreatDoor.Bp
