/- What the document's Need and Find answer. -/
import Derived.Test.YtfopbakhbobgjaaDoorRef
import Derived.WideShapes
import Derived.Laws.Strings
namespace Go.Proofs.YtfopbakhbobgjaaDoor
open Go.RowKit
set_option linter.unusedVariables false

theorem eq_yes {t s : ByteArray} (h : t = s) : (t.toList == s.toList) = true := by subst h; simp
theorem eq_no {t s : ByteArray} (h : t ≠ s) : (t.toList == s.toList) = false := by
  rw [ByteArray.toList_eq, ByteArray.toList_eq]
  exact beq_eq_false_iff_ne.2 fun e => h (Go.WideShapes.bytes_inj e)
/-- the number of a name: the one whose name it is, else 0 -/
def FindsTo (s : ByteArray) (r : Nat) : Prop := (r < 17 ∧ str (tN r) = s) ∨ (r = 0 ∧ ∀ k < 17, str (tN k) ≠ s)
theorem tN_inj : ∀ j < 17, ∀ k < 17, tN j = tN k → j = k := by decide
theorem str_inj {a b : List UInt8} (h : str a = str b) : a = b := by
  have := congrArg (fun x => x.data.toList) h
  simpa [str] using this
theorem FindsTo.one {s : ByteArray} {a b : Nat} (h : FindsTo s a) (g : FindsTo s b) : a = b := by
  rcases h with ⟨ha, ea⟩ | ⟨ha, na⟩ <;> rcases g with ⟨hb, eb⟩ | ⟨hb, nb⟩
  · exact tN_inj a ha b hb (str_inj (ea.trans eb.symm))
  · exact absurd ea (nb a ha)
  · exact absurd eb (na b hb)
  · rw [ha, hb]

set_option maxHeartbeats 2000000 in
theorem refFind_any (s : ByteArray) (w : World) : Calls Tryd.prog 12 #[.string s] w fun e w' => (∃ r : Nat, e = .returned (.int .i64 r) ∧ FindsTo s r) ∧ w' = w := by
  go_enter Tryd.func12, Tryd.ntmps12
  go_wp2
  go_loopw [3] (fun c wr => ∃ k : Nat, c = .int .i64 k ∧ 1 ≤ k ∧ k ≤ 17 ∧ Hd (∀ j, 1 ≤ j → j < k → str (tN j) ≠ s) ∧ w = wr) (fun c _ => 17 - (intOf c).toNat)
  case atStart => exact ⟨1, rfl, Nat.le_refl _, by omega, ⟨fun j a b => absurd b (by omega)⟩, rfl⟩
  case round =>
    obtain ⟨k, rfl, h1, h2, HN, rfl⟩ := hrel
    by_cases z : k ≤ 16
    · have z' : (k : Int) ≤ 16 := by omega
      obtain ⟨t, ht⟩ : ∃ t, str (tN k) = t := ⟨_, rfl⟩
      have C := refName_in k (by omega) w
      rw [ht] at C
      by_cases q : t = s
      · have F : Hd (FindsTo s k) := ⟨Or.inl ⟨by omega, ht.trans q⟩⟩
        have q' : (t.toList == s.toList) = true := eq_yes q
        clear ht HN q
        go_wp2_with (go_at_call 10; refine C.mono ?_; rintro e w' ⟨rfl, rfl⟩)
        go_ret
        exact ⟨⟨k, rfl, F.out⟩, rfl⟩
      · have q' : (t.toList == s.toList) = false := eq_no q
        have HN' : Hd (∀ j, 1 ≤ j → j < k + 1 → str (tN j) ≠ s) := ⟨fun j a b => by
          by_cases e : j = k
          · subst e; rw [ht]; exact q
          · exact HN.out j a (by omega)⟩
        clear ht HN q
        go_wp2_with (go_at_call 10; refine C.mono ?_; rintro e w' ⟨rfl, rfl⟩)
        exact ⟨⟨k + 1, rfl, by omega, by omega, HN', trivial⟩, by simp only [intOf]; omega⟩
    · obtain rfl : k = 17 := by omega
      have F : Hd (FindsTo s 0) := ⟨by
        by_cases e : str (tN 0) = s
        · exact Or.inl ⟨by omega, e⟩
        · exact Or.inr ⟨rfl, fun j hj => by
            by_cases g : j = 0
            · subst g; exact e
            · exact HN.out j (by omega) (by omega)⟩⟩
      clear HN
      go_wp2
      go_ret
      exact ⟨⟨0, rfl, F.out⟩, rfl⟩

set_option maxHeartbeats 4000000 in
theorem refNeed_in (k : Nat) (hk : k < 17) (i : Int) (w : World) : Calls Tryd.prog 16 #[.int .i64 k, .int .i64 i] w fun e w' => e = .returned (.int .i64 (needI k i)) ∧ w' = w := by
  by_cases i0 : i = 0
  · subst i0
    have c : k = 0 ∨ k = 1 ∨ k = 2 ∨ k = 3 ∨ k = 4 ∨ k = 5 ∨ k = 6 ∨ k = 7 ∨ k = 8 ∨ k = 9 ∨ k = 10 ∨ k = 11 ∨ k = 12 ∨ k = 13 ∨ k = 14 ∨ k = 15 ∨ k = 16 := by omega
    rcases c with rfl | rfl | rfl | rfl | rfl | rfl | rfl | rfl | rfl | rfl | rfl | rfl | rfl | rfl | rfl | rfl | rfl
    all_goals go_enter Tryd.func16, Tryd.ntmps16
    all_goals go_wp2
    all_goals go_ret
    all_goals exact ⟨rfl, rfl⟩
  · have z : (i == 0) = false := by simp [i0]
    by_cases i1 : i = 1
    · subst i1
      clear z
      have c : k = 0 ∨ k = 1 ∨ k = 2 ∨ k = 3 ∨ k = 4 ∨ k = 5 ∨ k = 6 ∨ k = 7 ∨ k = 8 ∨ k = 9 ∨ k = 10 ∨ k = 11 ∨ k = 12 ∨ k = 13 ∨ k = 14 ∨ k = 15 ∨ k = 16 := by omega
      rcases c with rfl | rfl | rfl | rfl | rfl | rfl | rfl | rfl | rfl | rfl | rfl | rfl | rfl | rfl | rfl | rfl | rfl
      all_goals go_enter Tryd.func16, Tryd.ntmps16
      all_goals go_wp2
      all_goals go_ret
      all_goals exact ⟨rfl, rfl⟩
    · have o : (i == 1) = false := by simp [i1]
      have e : needI k i = 0 := by unfold needI; rw [if_neg i0, if_neg i1]
      rw [e]
      clear e i0 i1
      by_cases a : 1 ≤ (k : Int) <;> by_cases b : (k : Int) ≤ 7
      all_goals go_enter Tryd.func16, Tryd.ntmps16
      all_goals go_wp2
      all_goals go_ret
      all_goals exact ⟨rfl, rfl⟩

set_option maxHeartbeats 4000000 in
theorem refNeed_out (n : Int) (h : ¬ (0 ≤ n ∧ n ≤ 16)) (i : Int) (w : World) : Calls Tryd.prog 16 #[.int .i64 n, .int .i64 i] w fun e w' => e = .returned (.int .i64 0) ∧ w' = w := by
  have e8 : (n == 8) = false := by simp; omega
  have e13 : (n == 13) = false := by simp; omega
  have e9 : (n == 9) = false := by simp; omega
  have e11 : (n == 11) = false := by simp; omega
  have e12 : (n == 12) = false := by simp; omega
  have e14 : (n == 14) = false := by simp; omega
  have e15 : (n == 15) = false := by simp; omega
  have e16 : (n == 16) = false := by simp; omega
  by_cases i0 : i = 0
  · subst i0
    by_cases a : 1 ≤ n
    all_goals (try have b : ¬ n ≤ 7 := by omega)
    all_goals go_enter Tryd.func16, Tryd.ntmps16
    all_goals go_wp2
    all_goals go_ret
    all_goals exact ⟨rfl, rfl⟩
  · have z : (i == 0) = false := by simp [i0]
    by_cases i1 : i = 1
    · subst i1
      clear z
      by_cases a : 1 ≤ n
      all_goals (try have b : ¬ n ≤ 7 := by omega)
      all_goals go_enter Tryd.func16, Tryd.ntmps16
      all_goals go_wp2
      all_goals go_ret
      all_goals exact ⟨rfl, rfl⟩
    · have o : (i == 1) = false := by simp [i1]
      clear i0 i1
      by_cases a : 1 ≤ n
      all_goals (try have b : ¬ n ≤ 7 := by omega)
      all_goals go_enter Tryd.func16, Tryd.ntmps16
      all_goals go_wp2
      all_goals go_ret
      all_goals exact ⟨rfl, rfl⟩
theorem need_none (i : Int) : needI 0 i = 0 := by
  unfold needI
  by_cases a : i = 0
  · rw [if_pos a]; rfl
  · rw [if_neg a]
    by_cases b : i = 1
    · rw [if_pos b]; rfl
    · rw [if_neg b]
theorem refNeed_any (n i : Int) (w : World) : Calls Tryd.prog 16 #[.int .i64 n, .int .i64 i] w fun e w' => e = .returned (.int .i64 (needI (rowN n) i)) ∧ w' = w := by
  refine split17 (P := fun n => Calls Tryd.prog 16 #[.int .i64 n, .int .i64 i] w fun e w' => e = .returned (.int .i64 (needI (rowN n) i)) ∧ w' = w) n (fun k hk => ?_) (fun h => ?_)
  · rw [rowN_in hk]; exact refNeed_in k hk i w
  · rw [rowN_out h, need_none]; exact refNeed_out n h i w
end Go.Proofs.YtfopbakhbobgjaaDoor
