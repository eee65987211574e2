/- Package stable: All, Len. -/
import Derived.Test.YtejjobemafdlbaaSbd
import Derived.Test.YtejjobemafdlbaaSbr
namespace Go.Proofs.Ytejjobemafdlbaa
open Go.RowKit
set_option linter.unusedVariables false
set_option linter.unusedSimpArgs false

theorem all_nil (w : World) : Calls Try.prog 21 #[.pointer none] w fun e w' => e = .returned (.slice none 0 0) ∧ w' = w := by
  go_enter Try.func21, Try.ntmps21
  go_wp2
  go_ret
  exact ⟨rfl, rfl⟩
theorem len_nil (w : World) : Calls Try.prog 23 #[.pointer none] w fun e w' => e = .returned (.int .i64 0) ∧ w' = w := by
  have AN := all_nil w
  go_enter Try.func23, Try.ntmps23
  go_wp2_with (go_at_call 21; refine AN.mono ?_; rintro e w1 ⟨rfl, hw⟩; rw [hw]; clear hw)
  go_ret
  exact ⟨rfl, rfl⟩
theorem allL_skip {A : Nat → Int} {k : Nat} (h : (A k == 0) = true) : allL A (k + 1) = allL A k := by simp [allL, by simpa using h]
theorem allL_more {A : Nat → Int} {k : Nat} (h : (A k == 0) = false) : allL A (k + 1) = allL A k ++ [A k] := by simp [allL, by simpa using h]
set_option maxHeartbeats 2000000 in
theorem all_any {lo : Nat} {w : World} {s sb n : Nat} {b : Int} {A T : Nat → Int} (h : Tb lo w s sb n b A T) :
    Calls Try.prog 21 #[pv s] w fun e w' => ∃ v, e = .returned v ∧ RowS w' w.heap.size 3 1 v (allL A n).length (ints (allL A n)) ∧ Below w.heap.size w w' := by
  have c := h.c
  have le := h.le
  have HH := Hid.mk h
  clear h
  obtain ⟨i0, hi, hz0, hz1, hz2⟩ := info_parts info3
  go_enter Try.func21, Try.ntmps21
  go_wp2
  go_loopw [13, 3] (fun i v wr => ∃ (k q : Nat) (ga : Option Addr) (cap : Nat) (l : List Int), i = .int .i64 k ∧ k ≤ n ∧ v = .slice ga q cap ∧ q ≤ k ∧ Hid (l = allL A k ∧ l.length = q) ∧ Hid (RowS wr w.heap.size 3 1 (.slice ga q cap) q (ints l)) ∧ Hid (Below w.heap.size w wr)) (fun i _ _ => n - (intOf i).toNat)
  case atStart => exact ⟨0, 0, none, 0, [], rfl, Nat.zero_le _, rfl, Nat.le_refl _, ⟨rfl, rfl⟩, ⟨.inl ⟨rfl, rfl, none, rfl⟩⟩, ⟨Below.refl _ _⟩⟩
  case round =>
    obtain ⟨k, q, ga, cap, l, rfl, hk, rfl, hq, HL, HR, HB⟩ := hrel
    by_cases hlt : k < n
    · have hlt' : (k : Int) < n := by omega
      have ht := HH.out.later HB.out
      have c0 := ht.c0 k hlt
      have c1 := ht.c1 k hlt
      clear ht
      generalize hak : A k = z at c0
      have FR := fun W : World => free_any W z (T k)
      have HZ := Hid.mk hak
      have hs : w.heap.size ≤ wr.heap.size := HB.out.size
      cases hz : (z == 0) with
      | true =>
        rw [hz] at FR
        have HN := Hid.mk (allL_skip (A := A) (k := k) (by rw [hak]; exact hz))
        clear hz hak
        go_wp2_with (go_at_call 29; refine (FR _).mono ?_; clear FR; rintro e w1 ⟨rfl, B1⟩; have HB1 := Hid.mk B1; clear B1)
        go_roundw
        case rel => exact ⟨k + 1, q, ga, cap, l, by go_num, by omega, rfl, by omega, ⟨by rw [HN.out]; exact HL.out.1, HL.out.2⟩, ⟨(HR.out.below ((Below.refl _ _).alloc (Nat.le_refl _) _)).below HB1.out⟩, ⟨(HB.out.alloc hs _).trans (HB1.out.mono (by simp; omega))⟩⟩
        case measure => simp [intOf]; omega
      | false =>
        rw [hz] at FR
        have HN := Hid.mk (allL_more (A := A) (k := k) (by rw [hak]; exact hz))
        clear hz hak
        go_wp2_with (first
          | (go_at_call 29; refine (FR _).mono ?_; clear FR; rintro e w1 ⟨rfl, B1⟩; have d0 : w1.cell? ⟨wr.heap.size, 0, none⟩ = some (.int .i64 z) := (by rw [Joins.cell_of_block ((B1.block _ (by simp)).trans (heap_alloc_new _ _))]; rfl); have HB1 : Hid (Below w.heap.size w w1) := ⟨(HB.out.alloc hs _).trans (B1.mono (by simp; omega))⟩; have HR1 : Hid (RowS w1 w.heap.size 3 1 (.slice ga q cap) q (ints l)) := ⟨(HR.out.below ((Below.refl _ _).alloc (Nat.le_refl _) _)).below B1⟩; have hs1 : w.heap.size ≤ w1.heap.size := HB1.out.size; have HRl : Hid (RowS (w1.alloc (Obj.cells #[.int .i64 z] 3)) w.heap.size 3 1 (.slice ga q cap) q (ints l)) := ⟨HR1.out.below ((Below.refl _ _).alloc (Nat.le_refl _) _)⟩; clear B1)
          | (at_builtin; refine wpList_append_T rfl _ _ 31 rfl w.heap.size 3 i0 (.int .i64 0) 1 8 Try.underlying31 hi hz0 hz1 hz2 rfl (by decide) (.slice ga q cap) q (ints l) rfl HRl.out (some ⟨w1.heap.size, 0, none⟩) 1 1 [.int .i64 z] rfl rfl (fun _ => ⟨_, rfl, news_new w1 z⟩) (one_new z) (q + 1) rfl (ints (l ++ [z])) (by simp [ints]) (by unfold maxLen; omega) (by omega) (by simp; omega) ?_; intro ga1 cap1 w5 hown5 hgr5; have HB5 := Hid.mk (row_below HR1.out HB1.out hs1 hgr5); have HO5 := Hid.mk hown5; clear hown5 hgr5 HRl))
        go_roundw
        case rel => exact ⟨k + 1, q + 1, ga1, cap1, l ++ [z], by go_num, by omega, rfl, by omega, ⟨by rw [HN.out, HZ.out, HL.out.1], by simp [HL.out.2]⟩, HO5, HB5⟩
        case measure => simp [intOf]; omega
    · obtain rfl : k = n := by omega
      go_wp2
      go_ret
      exact ⟨_, rfl, by rw [← HL.out.1, HL.out.2]; exact HR.out, HB.out⟩
theorem len_any {lo : Nat} {w : World} {s sb n : Nat} {b : Int} {A T : Nat → Int} (h : Tb lo w s sb n b A T) :
    Calls Try.prog 23 #[pv s] w fun e w' => e = .returned (.int .i64 ((allL A n).length : Int)) ∧ Below w.heap.size w w' := by
  have AL := all_any h
  clear h
  obtain ⟨l, hl⟩ : ∃ l, allL A n = l := ⟨_, rfl⟩
  rw [hl] at AL ⊢
  go_enter Try.func23, Try.ntmps23
  go_wp2_with (go_at_call 21; refine AL.mono ?_; clear AL; rintro e w1 ⟨v, rfl, R1, B1⟩; obtain ⟨ga, cap, rfl, _⟩ := R1.le)
  go_ret
  exact ⟨rfl, B1⟩
end Go.Proofs.Ytejjobemafdlbaa
