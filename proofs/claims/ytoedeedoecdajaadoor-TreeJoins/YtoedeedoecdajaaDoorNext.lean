/- Package lex's walk over blanks and remarks. -/
import Derived.Test.YtoedeedoecdajaaDoorSkip
import Derived.Test.YtoedeedoecdajaaDoorShelf
import Derived.WalkMore
namespace Go.Proofs.YtoedeedoecdajaaDoor
open Go.RowKit
set_option linter.unusedVariables false

/-- how many bytes a remark has, with the byte 10 that ends it -/
def remN : List UInt8 → Nat
  | [] => 0
  | c :: r => if c.toNat = 10 then 1 else remN r + 1
theorem remN_le : ∀ l, remN l ≤ l.length
  | [] => Nat.le_refl _
  | c :: r => by
    have := remN_le r
    unfold remN
    split <;> simp only [List.length_cons] <;> omega
theorem skip_true : ∀ l, skipN true l = remN l + skipN false (l.drop (remN l))
  | [] => rfl
  | c :: r => by
    rw [skipN, remN]
    split
    · rw [List.drop_succ_cons, List.drop_zero]; omega
    · rw [skip_true r, List.drop_succ_cons]; omega
theorem remN_index : ∀ l : List UInt8, (Lib.indexByte l 10 < 0 → remN l = l.length) ∧ (0 ≤ Lib.indexByte l 10 → (remN l : Int) = Lib.indexByte l 10 + 1)
  | [] => ⟨fun _ => rfl, fun h => absurd h (by decide)⟩
  | c :: r => by
    obtain ⟨h1, h2⟩ := remN_index r
    have hg := Lib.indexByte_ge r 10
    unfold Lib.indexByte remN
    by_cases e : c = 10
    · subst e
      simp
    · have e' : ¬ c.toNat = 10 := fun q => e (UInt8.toNat.inj q)
      have e2 : (c == 10) = false := by simp [e]
      rw [if_neg e', e2]
      simp only [Bool.false_eq_true, if_false]
      by_cases q : Lib.indexByte r 10 = -1
      · have := h1 (by omega)
        rw [q]
        simp [this]
      · have := h2 (by omega)
        rw [if_neg (by simpa using q)]
        refine ⟨fun h => by omega, fun h => ?_⟩
        omega

theorem ext_list (s : ByteArray) (a b : Nat) : (s.extract a b).data.toList = (s.data.toList.take b).drop a := by
  rw [ByteArray.data_extract]
  simp [Array.toList_extract, List.drop_take]
theorem ext_end (s : ByteArray) (a : Nat) : (s.extract a s.size).data.toList = s.data.toList.drop a := by
  rw [ext_list, List.take_of_length_le (by simp)]

set_option maxHeartbeats 1000000 in
theorem pastRemark_any (s : ByteArray) (k : Nat) (hk : k ≤ s.size) (hs : s.size ≤ 9223372036854775806) (w : World) :
    Calls Tryd.prog 58 #[.string s, .int .i64 k] w fun e w' => e = .returned (.int .i64 ((k + remN (s.data.toList.drop k) : Nat) : Int)) ∧ w' = w := by
  have Q := Tryd.strings_IndexByte (s.extract k s.size) 10 w
  rw [ext_end] at Q
  obtain ⟨i1, i2⟩ := remN_index (s.data.toList.drop k)
  have hl := remN_le (s.data.toList.drop k)
  have hge := Lib.indexByte_ge (s.data.toList.drop k) 10
  simp only [List.length_drop, Array.length_toList, ByteArray.size_data] at hl i1
  rw [show (10 : Int).toNat.toUInt8 = 10 from rfl] at Q
  generalize Lib.indexByte (s.data.toList.drop k) 10 = x at *
  generalize remN (s.data.toList.drop k) = y at *
  have z1 : (k : Int) ≤ s.size := by omega
  by_cases h : x < 0
  · have h3 := i1 h
    go_enter Tryd.func58, Tryd.ntmps58
    go_wp2_with (go_at_call 72; refine Q.mono ?_; rintro e w1 ⟨rfl, hw⟩; subst w1)
    go_ret
    exact ⟨retInt (by omega), rfl⟩
  · have h3 := i2 (by omega)
    clear i1 i2
    go_enter Tryd.func58, Tryd.ntmps58
    go_wp2_with (go_at_call 72; refine Q.mono ?_; rintro e w1 ⟨rfl, hw⟩; subst w1)
    go_ret
    exact ⟨retInt (by omega), rfl⟩

set_option maxHeartbeats 2000000 in
theorem next_any (s : ByteArray) (i : Nat) (hi : i ≤ s.size) (hs : s.size ≤ 9223372036854775806) (w : World) :
    Calls Tryd.prog 33 #[.string s, .int .i64 i] w fun e w' => e = .returned (.int .i64 ((i + skipN false (s.data.toList.drop i) : Nat) : Int)) ∧ w' = w := by
  obtain ⟨r, hr⟩ : ∃ r : Nat, i + skipN false (s.data.toList.drop i) = r := ⟨_, rfl⟩
  have HR : Hid (i + skipN false (s.data.toList.drop i) = r) := ⟨hr⟩
  rw [hr]
  clear hr
  go_enter Tryd.func33, Tryd.ntmps33
  go_wp2
  go_step3
  go_wp2
  go_step3
  go_wp2
  go_loopw [1] (fun c wr => ∃ k : Nat, c = .int .i64 k ∧ k ≤ s.size ∧ Hid (k + skipN false (s.data.toList.drop k) = r) ∧ w = wr) (fun c _ => s.size - (intOf c).toNat)
  case atStart => exact ⟨i, rfl, hi, HR, rfl⟩
  case round =>
    obtain ⟨k, rfl, hk2, HK, rfl⟩ := hrel
    by_cases hlt : k < s.size
    · have z1 : (k : Int) ≤ s.size := by omega
      have A := isBlank_any ((s[k]'hlt).toNat) w
      have B := Tryd.strings_HasPrefix (s.extract k s.size) ⟨#[45, 45]⟩ w
      rw [ext_end] at B
      have C := pastRemark_any s k hk2 hs w
      obtain ⟨a, ha⟩ : ∃ a, bl ((s[k]'hlt).toNat) = a := ⟨_, rfl⟩
      obtain ⟨b, hb⟩ : ∃ b, Lib.hasPrefix (s.data.toList.drop k) [45, 45] = b := ⟨_, rfl⟩
      rw [ha] at A
      rw [show (ByteArray.mk #[45, 45]).data.toList = [45, 45] from rfl, hb] at B
      cases a
      · cases b
        · have HE : Hid (skipN false (s.data.toList.drop k) = 0) := ⟨skip_none s k hlt ha (by
            rintro ⟨q1, q2, q3⟩
            rw [get_list s k hlt, get_list s (k + 1) q2] at hb
            have e1 : s[k]'hlt = 45 := UInt8.toNat.inj (by show _ = 45; omega)
            have e2 : s[k + 1]'q2 = 45 := UInt8.toNat.inj (by show _ = 45; omega)
            rw [e1, e2] at hb
            simp [Lib.hasPrefix] at hb)⟩
          clear ha hb
          go_wp2_with (first | (go_at_call 56; refine A.mono ?_; rintro e w1 ⟨rfl, hw⟩; subst w1) | (go_at_call 57; refine B.mono ?_; rintro e w1 ⟨rfl, hw⟩; subst w1))
          first | go_ret | (rw [Exit.noGoto_ret]; go_ret)
          exact ⟨retInt (by have := HK.out; rw [HE.out] at this; omega), rfl⟩
        · have hp : ∃ q2 : k + 1 < s.size, s[k]'hlt = 45 ∧ s[k + 1]'q2 = 45 := by
            by_cases q2 : k + 1 < s.size
            · rw [get_list s k hlt, get_list s (k + 1) q2] at hb
              simp [Lib.hasPrefix] at hb
              exact ⟨q2, hb.1.symm, hb.2.symm⟩
            · rw [get_list s k hlt, List.drop_eq_nil_of_le (by simp; omega)] at hb
              simp [Lib.hasPrefix] at hb
          obtain ⟨q2, e1, e2⟩ := hp
          have hr1 : remN (s.data.toList.drop k) = remN (s.data.toList.drop (k + 1)) + 1 := by
            rw [get_list s k hlt, remN, if_neg (by rw [e1]; decide)]
          have HE : Hid ((k + remN (s.data.toList.drop k)) + skipN false (s.data.toList.drop (k + remN (s.data.toList.drop k))) = r) := ⟨by
            have := HK.out
            rw [skip_rem s k q2 (by rw [e1]; rfl) (by rw [e2]; rfl), skip_true, List.drop_drop, ← show k + (remN (s.data.toList.drop (k + 1)) + 1) = (k + 1) + remN (s.data.toList.drop (k + 1)) by omega, ← hr1] at this
            omega⟩
          have hl := remN_le (s.data.toList.drop k)
          simp only [List.length_drop, Array.length_toList, ByteArray.size_data] at hl
          clear ha hb e1 e2
          obtain ⟨y, hy⟩ : ∃ y, remN (s.data.toList.drop k) = y := ⟨_, rfl⟩
          rw [hy] at C HE hl hr1
          clear hy
          have hy0 : 0 < y := by omega
          clear hr1
          go_wp2_with (first | (go_at_call 56; refine A.mono ?_; rintro e w1 ⟨rfl, hw⟩; subst w1) | (go_at_call 57; refine B.mono ?_; rintro e w1 ⟨rfl, hw⟩; subst w1) | (go_at_call 58; refine C.mono ?_; rintro e w1 ⟨rfl, hw⟩; subst w1))
          go_roundw
          case rel => exact ⟨k + y, by go_num, by omega, HE, by first | rfl | trivial⟩
          case measure => simp [intOf]; omega
      · have HE : Hid ((k + 1) + skipN false (s.data.toList.drop (k + 1)) = r) := ⟨by have := HK.out; rw [skip_blank s k hlt ha] at this; omega⟩
        clear ha
        go_wp2_with (first | (go_at_call 56; refine A.mono ?_; rintro e w1 ⟨rfl, hw⟩; subst w1) | (go_at_call 57; refine B.mono ?_; rintro e w1 ⟨rfl, hw⟩; subst w1))
        go_roundw
        case rel => exact ⟨k + 1, by go_num, by omega, HE, by first | rfl | trivial⟩
        case measure => simp [intOf]; omega
    · obtain rfl : k = s.size := by omega
      have h1 := HK.out
      rw [skip_end] at h1
      simp at h1
      subst h1
      go_wp2
      first | go_ret | (rw [Exit.noGoto_ret]; go_ret)
      exact ⟨rfl, rfl⟩

end Go.Proofs.YtoedeedoecdajaaDoor
