/- ShowPlain: a text that is printed. -/
import Derived.Test.YtofgnpehlheeiaaDoorWake
namespace Go.Proofs.YtofgnpehlheeiaaDoor
open Go.RowKit
set_option linter.unusedVariables false
set_option linter.unusedSimpArgs false

/-- what the law asks of each byte -/
structure Byt (S : ByteArray) (k : Nat) (hk : k < S.size) : Prop where
  n40 : (((S[k]'hk).toNat : Int) == 40) = false
  n41 : (((S[k]'hk).toNat : Int) == 41) = false
  n9 : (((S[k]'hk).toNat : Int) == 9) = false
  n13 : (((S[k]'hk).toNat : Int) == 13) = false
  dash : (((S[k]'hk).toNat : Int) == 45) = true → (((S[k]'hk).toNat : Int) == 10) = false ∧ ∀ h1 : k + 1 < S.size, (((S[k + 1]'h1).toNat : Int) == 45) = false
  ten : (((S[k]'hk).toNat : Int) == 10) = true → ∃ j, ∃ e : k = j + 2, (((S[j + 1]'(by omega)).toNat : Int) != 59) = false ∧ (((S[j]'(by omega)).toNat : Int) != 32) = false
def cnt (S : ByteArray) (k : Nat) : Nat := tens (S.data.toList.take k)
theorem cnt_succ (S : ByteArray) (k : Nat) (hk : k < S.size) : ((((S[k]'hk).toNat : Int) == 10) = true → cnt S (k + 1) = cnt S k + 1) ∧ ((((S[k]'hk).toNat : Int) == 10) = false → cnt S (k + 1) = cnt S k) := by
  have hk' : k < S.data.toList.length := by rw [size_list]; exact hk
  have e := tens_take S.data.toList k hk'
  have g : S.data.toList[k]'hk' = S[k]'hk := by simp; rfl
  rw [g] at e
  refine ⟨fun h => ?_, fun h => ?_⟩
  · have : (S[k]'hk) = 10 := UInt8.toNat.inj (by have := beq_iff_eq.1 h; show _ = 10; omega)
    unfold cnt; rw [e, if_pos this]
  · have : (S[k]'hk) ≠ 10 := fun q => by rw [q] at h; exact absurd h (by decide)
    unfold cnt; rw [e, if_neg this, Nat.add_zero]
theorem cnt_le (S : ByteArray) (k : Nat) : cnt S k ≤ S.size := by
  unfold cnt
  have a := tens_le (S.data.toList.take k)
  have b := List.length_take_le k S.data.toList
  have c := List.length_take_le' k S.data.toList
  rw [size_list] at c
  omega
theorem byt_of {s : List UInt8} (h : chk 0 0 s) (k : Nat) (hk : k < (str s).size) : Byt (str s) k hk := by
  have hk' : k < s.length := by rw [str_size] at hk; exact hk
  obtain ⟨⟨a, b, c, d⟩, h2, h3⟩ := chk_bytes h k hk'
  have g : (str s)[k]'hk = s[k]'hk' := str_get s k hk
  refine ⟨by rw [g]; exact byte_ne a, by rw [g]; exact byte_ne b, by rw [g]; exact byte_ne c, by rw [g]; exact byte_ne d, fun q => ⟨?_, fun h1 => ?_⟩, fun q => ?_⟩
  · rw [beq_iff_eq] at q
    rw [beq_eq_false_iff_ne, q]
    decide
  · have h1' : k + 1 < s.length := by rw [str_size] at h1; exact h1
    rw [str_get s (k + 1) h1]
    refine byte_ne (d := 45) (fun z => h2 h1' ⟨?_, z⟩)
    rw [g, beq_iff_eq] at q
    exact UInt8.toNat.inj (by show _ = 45; omega)
  · rw [g, beq_iff_eq] at q
    obtain ⟨i1, i2, i3⟩ := h3 (UInt8.toNat.inj (by show _ = 10; omega))
    obtain ⟨j, rfl⟩ : ∃ j, k = j + 2 := ⟨k - 2, by omega⟩
    have i2' : s[j + 1]'(by omega) = 59 := i2 (by omega)
    have i3' : s[j]'(by omega) = 32 := i3 (by omega)
    refine ⟨j, rfl, ?_, ?_⟩
    · rw [str_get s (j + 1) (by omega), i2']
      rfl
    · rw [str_get s j (by omega), i3']
      rfl
theorem last_of {s : List UInt8} (h : s = [] ∨ ∃ r, s = r ++ [10]) : (str s).toList = [] ∨ (((str s).toList == []) = false ∧ ∃ m, ∃ e : (str s).size = m + 1, (((str s)[m]'(by omega)).toNat : Int) = 10) := by
  rcases h with rfl | ⟨r, rfl⟩
  · exact .inl (by rw [ByteArray.toList_eq, str_list])
  · refine .inr ⟨by rw [empty_str]; simp, r.length, by rw [str_size]; simp, ?_⟩
    rw [str_get]
    simp

set_option maxRecDepth 100000 in
set_option maxHeartbeats 8000000 in
theorem plain_ok (w : World) (La : Laid w) (gd gb : Option Addr) (nd nb cd cb : Nat) (hnn : nd + nb ≤ 1000000000) (S : ByteArray) (hs : S.size ≤ 16384) (HK : Hid (∀ k (hk : k < S.size), Byt S k hk)) (HT : Hid (cnt S S.size = nd + nb))
    (HE : Hid (S.toList = [] ∨ ((S.toList == []) = false ∧ ∃ m, ∃ e : S.size = m + 1, ((S[m]'(by omega)).toNat : Int) = 10)))
    (Q : Calls Tryd.prog 4 #[.agg #[.slice gd nd cd, .slice gb nb cb]] (w.alloc (.cells #[.slice gd nd cd, .slice gb nb cb] 25)) fun r w' => r = .returned (.tuple #[.string S, .int .i64 0]) ∧ Below (w.alloc (.cells #[.slice gd nd cd, .slice gb nb cb] 25)).heap.size (w.alloc (.cells #[.slice gd nd cd, .slice gb nb cb] 25)) w') :
    Calls Tryd.prog 3 #[.agg #[.slice gd nd cd, .slice gb nb cb]] w fun r w' => r = .returned (.bool true) ∧ Below w.heap.size w w' := by
  have X0 := Blk.fresh w #[.slice gd nd cd, .slice gb nb cb] 25
  go_enter Tryd.func3, Tryd.ntmps3
  go_wp2_with (first
    | (go_at_call 4; refine Q.mono ?_; rintro r w1 ⟨rfl, B1⟩; have C1 := far1 B1; have A1 := awake_any w1 (La.later C1); have X1 : Blk w1 w.heap.size #[.slice gd nd cd, .slice gb nb cb] 25 := (B1.block _ X0.lt).trans X0; clear Q)
    | (go_at_call 5; refine A1.mono ?_; rintro r w2 ⟨rfl, B2⟩; have C2 := C1.trans (Joins.below_le B2 C1.size); have X2 : Blk w2 w.heap.size #[.slice gd nd cd, .slice gb nb cb] 25 := (B2.block _ X1.lt).trans X1; clear A1))
  have y0 : w2.cell? ⟨w.heap.size, 0, none⟩ = some (.slice gd nd cd) := X2.cell 0
  have y1 : w2.cell? ⟨w.heap.size, 1, none⟩ = some (.slice gb nb cb) := X2.cell 1
  clear X0 X1 X2 B1 B2 C1
  go_loop [5, 6] (fun l i => ∃ k : Nat, k ≤ S.size ∧ i = .int .i64 k ∧ l = .int .i64 (cnt S k)) (fun _ i => S.size - (intOf i).toNat)
  case atStart => exact ⟨0, Nat.zero_le _, rfl, rfl⟩
  case round =>
    obtain ⟨k, hk, rfl, rfl⟩ := hrel
    have cl := cnt_le S k
    by_cases hlt : k < S.size
    · obtain ⟨n40, n41, n9, n13, nd45, n10⟩ := HK.out k hlt
      obtain ⟨z1, z2⟩ := cnt_succ S k hlt
      have hlt' : (k : Int) < S.size := by omega
      by_cases c45 : ((S[k]'hlt).toNat : Int) == 45
      · obtain ⟨d1, d2⟩ := nd45 c45
        have zz := z2 d1
        have HZ : Hid (cnt S (k + 1) = cnt S k) := ⟨zz⟩
        clear z1 z2 n10 nd45 zz
        by_cases h1 : k + 1 < S.size
        · have e45 := d2 h1
          have h1' : (k : Int) + 1 < S.size := by omega
          clear d2
          go_wp2
          go_round
          case rel => exact ⟨k + 1, by omega, by go_num, by rw [HZ.out]⟩
          case measure => simp [intOf]; omega
        · have h1' : ¬ (k : Int) + 1 < S.size := by omega
          clear d2
          go_wp2
          go_round
          case rel => exact ⟨k + 1, by omega, by go_num, by rw [HZ.out]⟩
          case measure => simp [intOf]; omega
      · have c45' : (((S[k]'hlt).toNat : Int) == 45) = false := by simpa using c45
        clear c45 nd45
        by_cases c10 : ((S[k]'hlt).toNat : Int) == 10
        · have HZ : Hid (cnt S (k + 1) = cnt S k + 1) := ⟨z1 c10⟩
          obtain ⟨j, rfl, e1, e2⟩ := n10 c10
          have j2 : ¬ (((j + 2 : Nat) : Int) < 2) := by omega
          have j3 : ¬ ((j : Int) + 2 < 2) := by omega
          have q1 : (j : Int) + 1 < S.size := by omega
          have q2 : (j : Int) < S.size := by omega
          have q3 : j + 1 < S.size := by omega
          have q4 : j < S.size := by omega
          clear z1 z2 n10
          go_wp2
          go_round
          case rel => exact ⟨j + 2 + 1, by omega, by go_num, by rw [HZ.out]; go_num⟩
          case measure => simp [intOf]; omega
        · have c10' : (((S[k]'hlt).toNat : Int) == 10) = false := by simpa using c10
          have HZ : Hid (cnt S (k + 1) = cnt S k) := ⟨z2 c10'⟩
          clear z1 z2 n10 c10
          go_wp2
          go_round
          case rel => exact ⟨k + 1, by omega, by go_num, by rw [HZ.out]⟩
          case measure => simp [intOf]; omega
    · obtain rfl : k = S.size := by omega
      have HL : Hid (Below w.heap.size w w2) := ⟨C2⟩
      rw [HT.out]
      rcases HE.out with e0 | ⟨e0, m, em, e10⟩
      · go_wp2
        go_ret
        exact ⟨rfl, HL.out⟩
      · have m1 : (m : Int) < S.size := by omega
        have m2 : m < S.size := by omega
        have HEM : Hid (S.size = m + 1) := ⟨em⟩
        have m3 : (S.size : Int) - 1 = m := by omega
        have e10' : (((S[m]'m2).toNat : Int) == 10) = true := by rw [beq_iff_eq]; exact e10
        clear e10 em
        go_wp2
        go_ret
        exact ⟨rfl, HL.out⟩

end Go.Proofs.YtofgnpehlheeiaaDoor
