/- Just one token; Word. -/
import Derived.Test.YtofgnpehlheeiaaGreatDoorReads
import Derived.Test.YtofgnpehlheeiaaGreatDoorBack
namespace Go.Proofs.YtofgnpehlheeiaaGreatDoor
open Go.RowKit
set_option linter.unusedVariables false

set_option maxHeartbeats 1000000 in
theorem isJust_any (s : ByteArray) (hs : s.size ≤ 281474976710656) (kind : Int) (w : World) (L : Laid w) :
    Calls Tryz.prog 63 #[.string s, .int .i64 kind] w fun e w' => e = .returned (.bool (justT s.data.toList kind)) ∧ Below w.heap.size w w' := by
  by_cases h0 : s.size = 0
  · have hl : s.data.toList = [] := List.eq_nil_of_length_eq_zero (by rw [size_list]; exact h0)
    have z : s.toList = [] := by rw [ByteArray.toList_eq]; exact hl
    rw [hl, show justT [] kind = false from rfl]
    go_enter Tryz.func63, Tryz.ntmps63
    go_wp2
    go_ret
    exact ⟨rfl, Below.refl _ _⟩
  · have z : (s.toList == []) = false := by
      rw [ByteArray.toList_eq]
      simp only [beq_eq_false_iff_ne, ne_eq]
      intro q
      have := congrArg List.length q
      rw [size_list] at this
      exact h0 this
    have R := read_any s 0 (by omega) hs w L
    rw [List.drop_zero] at R
    have hlen := size_list s
    unfold justT
    cases e : readT s.data.toList with
    | error er =>
      rw [e] at R
      simp only [readV, tokV] at R
      have her := readT_err e
      have ne : ¬ er = 0 := by omega
      clear e her
      go_enter Tryz.func63, Tryz.ntmps63
      go_wp2_with (go_at_call 69; refine R.mono ?_; rintro e w1 ⟨rfl, B1⟩)
      go_ret
      exact ⟨rfl, B1.alloc B1.size _⟩
    | ok t =>
      rw [e] at R
      simp only [readV, tokV] at R
      simp only
      rw [hlen]
      clear e hlen
      obtain ⟨tk, tt, tn, tl⟩ := t
      simp only at R ⊢
      rw [Nat.zero_add] at R
      by_cases h1 : tk = kind
      · by_cases h2 : tl = s.size
        · have h2' : (tl : Int) = s.size := by omega
          go_enter Tryz.func63, Tryz.ntmps63
          go_wp2_with (go_at_call 69; refine R.mono ?_; rintro e w1 ⟨rfl, B1⟩)
          go_ret
          exact ⟨retBool (by simp [h1, h2]), B1.alloc B1.size _⟩
        · have h2' : ¬ (tl : Int) = s.size := by omega
          go_enter Tryz.func63, Tryz.ntmps63
          go_wp2_with (go_at_call 69; refine R.mono ?_; rintro e w1 ⟨rfl, B1⟩)
          go_ret
          exact ⟨retBool (by simp [h1, h2, h2']), B1.alloc B1.size _⟩
      · go_enter Tryz.func63, Tryz.ntmps63
        go_wp2_with (go_at_call 69; refine R.mono ?_; rintro e w1 ⟨rfl, B1⟩)
        go_ret
        exact ⟨retBool (by simp [h1]), B1.alloc B1.size _⟩

theorem word_any (s : ByteArray) (hs : s.size ≤ 281474976710656) (kind : Int) (w : World) (L : Laid w) :
    Calls Tryz.prog 57 #[.string s, .int .i64 kind] w fun e w' => e = .returned (.bool (wordB s.data.toList kind)) ∧ Below w.heap.size w w' := by
  have J := isJust_any s hs kind w L
  generalize hj : justT s.data.toList kind = j at J
  unfold wordB
  rw [hj]
  clear hj
  by_cases h1 : kind = 1
  · subst h1
    go_enter Tryz.func57, Tryz.ntmps57
    go_wp2_with (go_at_call 63; refine J.mono ?_; rintro e w1 ⟨rfl, B1⟩)
    go_ret
    exact ⟨rfl, B1⟩
  by_cases h2 : kind = 2
  · subst h2
    go_enter Tryz.func57, Tryz.ntmps57
    go_wp2_with (go_at_call 63; refine J.mono ?_; rintro e w1 ⟨rfl, B1⟩)
    go_ret
    exact ⟨rfl, B1⟩
  by_cases h3 : kind = 3
  · subst h3
    go_enter Tryz.func57, Tryz.ntmps57
    go_wp2_with (go_at_call 63; refine J.mono ?_; rintro e w1 ⟨rfl, B1⟩)
    go_ret
    exact ⟨rfl, B1⟩
  go_enter Tryz.func57, Tryz.ntmps57
  go_wp2
  go_ret
  exact ⟨retBool (by simp [h1, h2, h3]), Below.refl _ _⟩

end Go.Proofs.YtofgnpehlheeiaaGreatDoor
