/- The document's lists: a row without an address; Put and Drop. -/
import Derived.Test.YtfenbjkkljggiaaRmi
import Derived.Deep.RegionHeld3
namespace Go.Proofs.Ytfenbjkkljggiaa
open Go.RowKit
set_option linter.unusedVariables false
set_option linter.unusedSimpArgs false

theorem row_below {base q : Nat} {w wr w5 : World} {o : Obj} {v : Value} {xs : List Value} (R : RowS wr base 3 1 v q xs) (B : Below base w wr) (hb : base ≤ wr.heap.size) (h : ∃ row, (wr.alloc o).grownBy w5 row ∧ ∀ k, row = some k → 0 < q ∧ v.ownBlock = some k) : Below base w w5 := by
  obtain ⟨row, g, hk⟩ := h
  exact (B.alloc hb o).grown g (by simp; omega) (fun j e => by
    obtain ⟨q0, q1⟩ := hk j e
    exact (R.lt q0 j q1).1)
theorem news_new (w : World) (z : Int) : ∀ j u, [Value.int .i64 z][j]? = some u → (w.alloc (Obj.cells #[.int .i64 z] 3)).cell? ((⟨w.heap.size, 0, none⟩ : Addr).add j) = some u := World.news_of_block (heap_alloc_new _ _)
theorem one_new (z : Int) : ∀ u ∈ [Value.int .i64 z], u.oneCell' = true := by simp [Value.oneCell']
set_option maxHeartbeats 1000000 in
theorem less_any {w : World} {v : Value} {l : List Int} (S : Sl w v l) (hlen : l.length ≤ 600000) (x : Int) :
    Calls Try.prog 30 #[v, .int .i64 x] w fun e w' => ∃ v', e = .returned v' ∧ Sl w' v' (les l x) ∧ Below w.heap.size w w' := by
  obtain ⟨ga0, ca0, rfl, hcs⟩ := sl_form S
  have HCS := Hid.mk hcs
  clear S hcs
  obtain ⟨m, hm⟩ : ∃ m, l.length = m := ⟨_, rfl⟩
  have HM := Hid.mk hm
  rw [hm] at hlen ⊢
  clear hm
  obtain ⟨i0, hi, hz0, hz1, hz2⟩ := info_parts info3
  go_enter Try.func30, Try.ntmps30
  go_wp2
  go_loopw [6, 5] (fun i o wr => ∃ (k q : Nat) (ga : Option Addr) (cap : Nat) (ys : List Int), k ≤ m ∧ i = .int .i64 (k : Int) ∧ o = .slice ga q cap ∧ q ≤ k ∧ Hid (RowS wr w.heap.size 3 1 (.slice ga q cap) q (ints ys)) ∧ Hid (ys.length = q ∧ ys = les (l.take k) x) ∧ Hid (Below w.heap.size w wr)) (fun i _ _ => m - (RowKit.intOf i).toNat)
  case atStart => exact ⟨0, 0, none, 0, [], Nat.zero_le _, rfl, rfl, Nat.le_refl _, ⟨.inl ⟨rfl, rfl, _, rfl⟩⟩, ⟨rfl, rfl⟩, ⟨Below.refl _ _⟩⟩
  case round =>
    obtain ⟨k, q, ga, cap, ys, hk, rfl, rfl, hq, HR, HY, HB⟩ := hrel
    by_cases hlt : k < m
    · obtain ⟨g, rfl, ck⟩ := HCS.out k (by rw [HM.out]; exact hlt)
      have ck := old_cells ck HB.out
      have hlt' : (k : Int) < m := by omega
      have hl : k < l.length := by rw [HM.out]; exact hlt
      have hz0' : l.getD k 0 = l[k] := by simp [List.getD_eq_getElem?_getD, List.getElem?_eq_getElem hl]
      have HT := Hid.mk (les_take l x k hl)
      rw [hz0'] at ck
      obtain ⟨z, hz⟩ : ∃ z, l[k] = z := ⟨_, rfl⟩
      rw [hz] at ck HT
      clear hz hz0' hl
      by_cases hzn : z = x
      · have HT2 : Hid (ys.length = q ∧ ys = les (l.take (k + 1)) x) := ⟨HY.out.1, by rw [HT.out, if_pos hzn, List.append_nil]; exact HY.out.2⟩
        have zb : (z != x) = false := by simpa using hzn
        go_wp2
        go_roundw
        case rel => exact ⟨k + 1, q, ga, cap, ys, by omega, by go_num, rfl, by omega, HR, HT2, HB⟩
        case measure => simp [RowKit.intOf]; omega
      · have HT2 : Hid ((ys ++ [z]).length = q + 1 ∧ ys ++ [z] = les (l.take (k + 1)) x) := ⟨by simp [HY.out.1], by rw [HT.out, if_neg hzn, ← HY.out.2]⟩
        have zb : (z != x) = true := by simpa using hzn
        have HRl : Hid (RowS (wr.alloc (Obj.cells #[.int .i64 z] 3)) w.heap.size 3 1 (.slice ga q cap) q (ints ys)) := ⟨HR.out.below ((Below.refl _ _).alloc (Nat.le_refl _) _)⟩
        go_wp2_with (at_builtin; refine wpList_append_T rfl _ _ 36 rfl w.heap.size 3 i0 (.int .i64 0) 1 8 Try.underlying36 hi hz0 hz1 hz2 rfl (by decide) (.slice ga q cap) q (ints ys) rfl HRl.out (some ⟨wr.heap.size, 0, none⟩) 1 1 [.int .i64 z] rfl rfl (fun _ => ⟨_, rfl, news_new wr z⟩) (one_new z) (q + 1) rfl (ints (ys ++ [z])) (by simp [ints]) (by unfold maxLen; omega) (by omega) (by have := HB.out.size; simp; omega) ?_; intro ga' cap' w5 hown5 hgr5; have HB5 := Hid.mk (row_below HR.out HB.out HB.out.size hgr5); have HO5 := Hid.mk hown5; clear hown5 hgr5)
        go_roundw
        case rel => exact ⟨k + 1, q + 1, ga', cap', _, by omega, by go_num, by first | rfl | go_num, by omega, HO5, HT2, HB5⟩
        case measure => simp [RowKit.intOf]; omega
    · obtain rfl : k = m := by omega
      go_wp2
      go_ret
      have e : les (l.take k) x = les l x := by rw [List.take_of_length_le (by rw [HM.out]; exact Nat.le_refl _)]
      exact ⟨_, rfl, by rw [← e, ← HY.out.2]; exact sl_ofS (by rw [HY.out.1]; exact HR.out), HB.out⟩
end Go.Proofs.Ytfenbjkkljggiaa
