/- The document's own Scan and Word. -/
import Derived.Test.YtofgnpehlheeiaaGreatDoorScan
import Derived.Test.YtofgnpehlheeiaaGreatDoorOneSigns
namespace Go.Proofs.YtofgnpehlheeiaaGreatDoor
open Go.RowKit
set_option linter.unusedVariables false

theorem one_text {l : List UInt8} {t : Tk} (h : one l = .ok t) : t.text.length ≤ l.length := by
  cases l with
  | nil => cases h
  | cons c r =>
    unfold one at h
    simp only at h
    split at h
    · cases h; simp; omega
    · split at h
      · cases h; simp; omega
      · split at h
        · cases h; simp; omega
        · split at h
          · split at h
            · cases h; simp
            · cases h
          · split at h
            · rename_i _ hh
              cases h
              cases r with
              | nil => exact absurd hh.2 (by decide)
              | cons d r => simp
            · split at h
              · cases h; simp
              · cases h
theorem one_word {l : List UInt8} {t : Tk} (h : one l = .ok t) (hk : t.kind = 1 ∨ t.kind = 2 ∨ t.kind = 3) : t.len = t.text.length := by
  cases l with
  | nil => cases h
  | cons c r =>
    have hr := runN_le rn r
    have hl := runN_le rn (c :: r)
    unfold one at h
    simp only at h
    split at h
    · cases h; exact (take_len hl).symm
    · split at h
      · cases h; exact (take_len hl).symm
      · split at h
        · cases h; exact (take_len (by simp only [List.length_cons]; omega)).symm
        · split at h
          · split at h
            · cases h; simp at hk
            · cases h
          · split at h
            · cases h; simp at hk
            · split at h
              · cases h; simp at hk
              · cases h
/-- what is longer than 32 bytes is no word -/
theorem long_word {l : List UInt8} (h : 32 < l.length) (kind : Int) : wordB l kind = false := by
  unfold wordB
  by_cases hk : kind = 1 ∨ kind = 2 ∨ kind = 3
  · have : justT l kind = false := by
      unfold justT
      cases e : readT l with
      | error => rfl
      | ok t =>
        obtain ⟨e1, e2⟩ := readT_one e
        have hl := one_word e1
        simp only [Bool.and_eq_false_iff, decide_eq_false_iff_not]
        by_cases q : t.kind = kind
        · right
          have := hl (by omega)
          omega
        · exact .inl q
    rw [this, Bool.and_false]
  · simp only [not_or] at hk
    simp [hk]

set_option maxHeartbeats 2000000 in
theorem rscan_any (s : ByteArray) (w : World) (L : Laid w) :
    Calls Tryz.prog 11 #[.string s] w fun e w' => ∃ v, e = .returned (.tuple #[v, .int .i64 (scanA (scanAll s.data.toList)), .int .i64 (scanE (scanAll s.data.toList))]) ∧
      Row w' w.heap.size v (scanL (scanAll s.data.toList)) ∧ Below w.heap.size w w' := by
  have sl := size_list s
  by_cases hbig : 16384 < s.size
  · have z : (16384 : Int) < s.size := by omega
    rw [show scanAll s.data.toList = .error (0, 3) by rw [scanAll, if_pos (by omega)]]
    go_enter Tryz.func11, Tryz.ntmps11
    go_wp2
    exact bodyPost_ret (v := .tuple #[.slice none 0 0, .int .i64 0, .int .i64 3]) (by simp [results, Tryz.results11, go_sem]) rfl ⟨_, rfl, Row.nil _ _, Below.refl _ _⟩
  · have z : ¬ (16384 : Int) < s.size := by omega
    rw [scanAll_from _ (by omega)]
    obtain ⟨R, hR⟩ : ∃ R, from' s.data.toList 0 = R := ⟨_, rfl⟩
    rw [hR]
    have N0 := fun w => skip_any s 0 (by omega) (by omega) w
    obtain ⟨k0, hk0⟩ : ∃ k0, 0 + skipN false (s.data.toList.drop 0) = k0 := ⟨_, rfl⟩
    have hle := skipN_le false (s.data.toList.drop 0)
    simp only [List.length_drop, sl] at hle
    have H1 : Hid (ahead [] (from' s.data.toList k0) = R) := ⟨by rw [ahead_nil, ← hk0, from_skip, hR]⟩
    have H2 : Hid (skipN false (s.data.toList.drop k0) = 0) := ⟨by rw [← hk0, Nat.zero_add]; exact skip_idem false _⟩
    have hk : k0 ≤ s.size := by omega
    rw [hk0] at N0
    clear hk0 hle hR sl
    go_enter Tryz.func11, Tryz.ntmps11
    go_wp2_with (go_at_call 25; refine (N0 _).mono ?_; rintro e w1 ⟨rfl, hw⟩; subst w1)
    go_loopw [5, 6] (fun v c wr => ∃ (k : Nat) (ts : List Tok), c = .int .i64 k ∧ k ≤ s.size ∧ ts.length ≤ k ∧ Row wr w.heap.size v ts ∧ Hid (ahead ts (from' s.data.toList k) = R) ∧ Hid (skipN false (s.data.toList.drop k) = 0) ∧ Below w.heap.size w wr)
      (fun _ c _ => s.size - (intOf c).toNat)
    case atStart => exact ⟨k0, [], rfl, hk, Nat.zero_le _, Row.nil _ _, H1, H2, Below.refl _ _⟩
    case round =>
      obtain ⟨k, ts, rfl, hks, htk, RW, HF, HS, BR⟩ := hrel
      have LR := L.later BR
      by_cases hlt : k < s.size
      · have RD := one_any s k hlt (by omega) wr
        cases e0 : one (s.data.toList.drop k) with
        | error er =>
          have e : readT (s.data.toList.drop k) = .error er := by rw [readT, e0]
          have HX : Hid (R = .error (k, er)) := ⟨by rw [← HF.out, from_err _ _ (by rw [size_list]; exact hlt) HS.out e]; rfl⟩
          have her := readT_err e
          have ne : ¬ er = 0 := by omega
          rw [e0] at RD
          simp only [readV, tokV] at RD
          clear e e0 her
          go_wp2_with (go_at_call 26; refine RD.mono ?_; rintro e w1 ⟨rfl, B1⟩)
          rw [HX.out]
          exact bodyPost_ret (v := .tuple #[.slice none 0 0, .int .i64 k, .int .i64 er]) (by simp [results, Tryz.results11, go_sem]) rfl ⟨_, rfl, Row.nil _ _, BR.trans (Joins.below_le (B1.alloc B1.size _) BR.size)⟩
        | ok t =>
          have tsz : (str t.text).size = t.text.length := str_size _
          by_cases h32 : 32 < t.text.length
          · have e : readT (s.data.toList.drop k) = .error 21 := by rw [readT, e0]; simp only [h32, if_true]
            have HX : Hid (R = .error (k, 21)) := ⟨by rw [← HF.out, from_err _ _ (by rw [size_list]; exact hlt) HS.out e]; rfl⟩
            have z32 : (32 : Int) < (str t.text).size := by omega
            rw [e0] at RD
            obtain ⟨tk, tt, tn, tlen⟩ := t
            simp only [readV, tokV] at RD z32
            clear e e0 h32 tsz
            go_wp2_with (go_at_call 26; refine RD.mono ?_; rintro e w1 ⟨rfl, B1⟩)
            rw [HX.out]
            exact bodyPost_ret (v := .tuple #[.slice none 0 0, .int .i64 k, .int .i64 21]) (by simp [results, Tryz.results11, go_sem]) rfl ⟨_, rfl, Row.nil _ _, BR.trans (Joins.below_le (B1.alloc B1.size _) BR.size)⟩
          have e : readT (s.data.toList.drop k) = .ok t := by rw [readT, e0]; simp only [h32, if_false]
          have z32 : ¬ (32 : Int) < (str t.text).size := by omega
          rw [e0, ← e] at RD
          clear e0 h32 tsz
          have tl := readT_len e
          simp only [List.length_drop, size_list] at tl
          obtain ⟨k2, hk2⟩ : ∃ k2, k + t.len + skipN false (s.data.toList.drop (k + t.len)) = k2 := ⟨_, rfl⟩
          have HX : Hid (ahead (ts ++ [⟨t.kind, t.text, t.num, k⟩]) (from' s.data.toList k2) = R) := ⟨by rw [← HF.out, from_ok _ _ (by rw [size_list]; exact hlt) HS.out e, ← hk2, from_skip, ahead_ahead]⟩
          have HY : Hid (skipN false (s.data.toList.drop k2) = 0) := ⟨by rw [← hk2, ← List.drop_drop]; exact skip_idem false _⟩
          have hle := skipN_le false (s.data.toList.drop (k + t.len))
          simp only [List.length_drop, size_list] at hle
          have N2 := fun w => skip_any s (k + t.len) (by omega) (by omega) w
          rw [hk2] at N2
          rw [e] at RD
          obtain ⟨tk, tt, tn, tlen⟩ := t
          simp only [readV, tokV] at RD HX HY N2 hle tl hk2 z32
          have hk2' : k2 ≤ s.size := by omega
          have hk3 : k < k2 := by omega
          obtain ⟨k1, hk1⟩ : ∃ k1, k + tlen = k1 := ⟨_, rfl⟩
          rw [hk1] at RD N2
          clear e hk2 hle hk1 tl HF HS
          have HR : Hid (Row wr w.heap.size u5 ts) := ⟨RW⟩
          have HB : Hid (Below w.heap.size w wr) := ⟨BR⟩
          clear RW BR LR L
          go_wp2_with (first
            | (go_at_call 26; refine RD.mono ?_; rintro e w1 ⟨rfl, B1⟩)
            | (at_builtin; obtain ⟨i0, hi, hz0, hz1, hz2⟩ := info_parts info38; refine wpList_append_own _ rfl _ _ 35 rfl w.heap.size 58 i0 _ 4 40 Tryz.underlying35 hi hz0 hz1 hz2 rfl (by decide) u5 ts.length (cellsT ts) rfl (HR.out.later (below2_of B1 _ _)) ⟨w1.heap.size + 1, 0, none⟩ 1 1 (tokC ⟨tk, tt, tn, k⟩) rfl rfl (news4 (new2 _ _ _)) (by simp [Value.oneCell', tokC]) (by unfold maxLen; omega) (by omega) (by have := HB.out.size; have := B1.size; simp; omega) ?_; intro v' w2 hown' hgrow' _; clear hi hz0 hz1 hz2; have RM := row_more (HB.out.trans (Joins.below_le (below2_of B1 _ _) HB.out.size)) (HR.out.later (below2_of B1 _ _)) hown' hgrow'; have HM : Hid (Row w2 w.heap.size v' (ts ++ [⟨tk, tt, tn, k⟩]) ∧ Below w.heap.size w w2) := ⟨RM⟩; clear RM hown' hgrow')
            | (go_at_call 25; refine (N2 _).mono ?_; rintro e w3 ⟨rfl, hw⟩; subst w3))
          go_roundw
          case rel => exact ⟨k2, ts ++ [⟨tk, tt, tn, k⟩], by go_num, hk2', by simp; omega, HM.out.1, HX, HY, HM.out.2⟩
          case measure => simp [intOf]; omega
      · obtain rfl : k = s.size := by omega
        have HX : Hid (R = .ok ts) := ⟨by rw [← HF.out, from_end _ _ (by rw [size_list]; exact Nat.le_refl _), ahead_end]⟩
        clear HF HS
        go_wp2
        rw [HX.out]
        exact bodyPost_ret (v := .tuple #[u5, .int .i64 0, .int .i64 0]) (by simp [results, Tryz.results11, go_sem]) rfl ⟨_, rfl, RW, BR⟩

end Go.Proofs.YtofgnpehlheeiaaGreatDoor
