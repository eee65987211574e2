/- The document's own number. -/
import Derived.Test.YtcbdolflgpmaoaaDoorReads
import Derived.Test.YtcbdolflgpmaoaaDoorBack
import Derived.Test.YtcbdolflgpmaoaaDoorNext
import Derived.Laws.DeepStrings4
namespace Go.Proofs.YtcbdolflgpmaoaaDoor
open Go.RowKit
set_option linter.unusedVariables false

theorem val_step (s : ByteArray) (k n : Nat) (h : k < s.size) : valN n (s.data.toList.drop k) = valN (n * 10 + ((s[k]'h).toNat - 48)) (s.data.toList.drop (k + 1)) := by
  rw [get_list s k h, valN_cons]
theorem val_end (s : ByteArray) (n : Nat) : valN n (s.data.toList.drop s.size) = n := by
  rw [List.drop_eq_nil_of_le (by simp)]; rfl

set_option maxHeartbeats 4000000 in
theorem number_neg (s : ByteArray) (h0 : 0 < s.size) (hs : s.size ≤ 281474976710656) (hc : ((s[0]'h0).toNat : Int) = 45) (hr : 1 < s.size) (hd : ∀ (i : Nat) (hi : i < s.size), 1 ≤ i → 48 ≤ (s[i]'hi).toNat ∧ (s[i]'hi).toNat ≤ 57) (w : World) :
    Calls Tryd.prog 61 #[.string s] w fun e w' => (∃ x, e = .returned (.tuple #[.int .i64 x, .bool (decide (valN 0 (s.data.toList.drop 1) ≤ 9223372036854775808))]) ∧ (valN 0 (s.data.toList.drop 1) ≤ 9223372036854775808 → x = -(valN 0 (s.data.toList.drop 1) : Int))) ∧ w' = w := by
  obtain ⟨V, hV⟩ : ∃ V, valN 0 (s.data.toList.drop 1) = V := ⟨_, rfl⟩
  have HV : Hid (valN 0 (s.data.toList.drop 1) = V) := ⟨hV⟩
  rw [hV]
  have HD : Hid (∀ (i : Nat) (hi : i < s.size), 1 ≤ i → 48 ≤ (s[i]'hi).toNat ∧ (s[i]'hi).toNat ≤ 57) := ⟨hd⟩
  clear hV hd
  go_enter Tryd.func61, Tryd.ntmps61
  go_wp2
  go_loopw [4, 6] (fun c u wr => ∃ (k n : Nat), c = .int .i64 k ∧ u = .int .u64 n ∧ 1 ≤ k ∧ k ≤ s.size ∧ n ≤ 9223372036854775808 ∧ Hid (valN n (s.data.toList.drop k) = V) ∧ w = wr) (fun c _ _ => s.size - (intOf c).toNat)
  case atStart => exact ⟨1, 0, rfl, rfl, Nat.le_refl _, by omega, by omega, HV, rfl⟩
  case round =>
    obtain ⟨k, n, rfl, rfl, hk1, hk2, hn, HK, rfl⟩ := hrel
    by_cases hlt : k < s.size
    · obtain ⟨d1, d2⟩ := HD.out k hlt hk1
      have hst := HK.out
      rw [val_step s k n hlt] at hst
      obtain ⟨d, hd'⟩ : ∃ d : Nat, (s[k]'hlt).toNat = d + 48 := ⟨(s[k]'hlt).toNat - 48, by omega⟩
      rw [hd', Nat.add_sub_cancel] at hst
      have hge := valN_ge (s.data.toList.drop (k + 1)) (n * 10 + d)
      have d3 : d ≤ 9 := by omega
      have HS : Hid (valN (n * 10 + d) (s.data.toList.drop (k + 1)) = V) := ⟨hst⟩
      by_cases hb : (9223372036854775808 - (d : Int)) / 10 < n
      · have hbig : 9223372036854775808 < V := by rw [← hst]; omega
        have HB : Hid (9223372036854775808 < V) := ⟨hbig⟩
        clear HK hst hge hbig HV d1 d2
        go_wp2
        refine bodyPost_ret (v := .tuple #[.int .i64 0, .bool false]) (by simp [results, Tryd.results61, go_sem]) rfl ⟨⟨_, by rw [decide_eq_false (by have := HB.out; omega)], fun q => absurd q (by have := HB.out; omega)⟩, rfl⟩
      · have hb2 : n * 10 + d ≤ 9223372036854775808 := by omega
        clear HK hst hge HV d1 d2
        go_wp2
        go_roundw
        case rel => exact ⟨k + 1, n * 10 + d, by go_num, by go_num, by omega, by omega, hb2, HS, by first | rfl | trivial⟩
        case measure => simp [intOf]; omega
    · obtain rfl : k = s.size := by omega
      have h1 := HK.out
      rw [val_end] at h1
      subst h1
      clear HK
      by_cases hv : n = 9223372036854775808
      · subst hv
        clear hn HV
        go_wp2
        refine bodyPost_ret (v := .tuple #[.int .i64 (-9223372036854775808), .bool true]) (by simp [results, Tryd.results61, go_sem]) rfl ⟨⟨_, rfl, fun _ => rfl⟩, rfl⟩
      · have hv2 : (n : Int) < 9223372036854775808 := by omega
        have hv3 : ((n : Int) == 9223372036854775808) = false := by
          rw [beq_eq_false_iff_ne]; omega
        have HN : Hid (n ≤ 9223372036854775808) := ⟨hn⟩
        clear hv hn
        go_wp2
        refine bodyPost_ret (v := .tuple #[.int .i64 (-(n : Int)), .bool true]) (by simp [results, Tryd.results61, go_sem]) rfl ⟨⟨_, by rw [decide_eq_true HN.out], fun _ => rfl⟩, rfl⟩


set_option maxHeartbeats 4000000 in
theorem number_pos (s : ByteArray) (h0 : 0 < s.size) (hs : s.size ≤ 281474976710656) (hc : ¬ ((s[0]'h0).toNat : Int) = 45) (hd : ∀ (i : Nat) (hi : i < s.size), 0 ≤ i → 48 ≤ (s[i]'hi).toNat ∧ (s[i]'hi).toNat ≤ 57) (w : World) :
    Calls Tryd.prog 61 #[.string s] w fun e w' => (∃ x, e = .returned (.tuple #[.int .i64 x, .bool (decide (valN 0 (s.data.toList.drop 0) < 9223372036854775808))]) ∧ (valN 0 (s.data.toList.drop 0) < 9223372036854775808 → x = (valN 0 (s.data.toList.drop 0) : Int))) ∧ w' = w := by
  obtain ⟨V, hV⟩ : ∃ V, valN 0 (s.data.toList.drop 0) = V := ⟨_, rfl⟩
  have HV : Hid (valN 0 (s.data.toList.drop 0) = V) := ⟨hV⟩
  rw [hV]
  have HD : Hid (∀ (i : Nat) (hi : i < s.size), 0 ≤ i → 48 ≤ (s[i]'hi).toNat ∧ (s[i]'hi).toNat ≤ 57) := ⟨hd⟩
  clear hV hd
  go_enter Tryd.func61, Tryd.ntmps61
  go_wp2
  go_loopw [4, 6] (fun c u wr => ∃ (k n : Nat), c = .int .i64 k ∧ u = .int .u64 n ∧ 0 ≤ k ∧ k ≤ s.size ∧ n ≤ 9223372036854775808 ∧ Hid (valN n (s.data.toList.drop k) = V) ∧ w = wr) (fun c _ _ => s.size - (intOf c).toNat)
  case atStart => exact ⟨0, 0, rfl, rfl, Nat.le_refl _, by omega, by omega, HV, rfl⟩
  case round =>
    obtain ⟨k, n, rfl, rfl, hk1, hk2, hn, HK, rfl⟩ := hrel
    by_cases hlt : k < s.size
    · obtain ⟨d1, d2⟩ := HD.out k hlt hk1
      have hst := HK.out
      rw [val_step s k n hlt] at hst
      obtain ⟨d, hd'⟩ : ∃ d : Nat, (s[k]'hlt).toNat = d + 48 := ⟨(s[k]'hlt).toNat - 48, by omega⟩
      rw [hd', Nat.add_sub_cancel] at hst
      have hge := valN_ge (s.data.toList.drop (k + 1)) (n * 10 + d)
      have d3 : d ≤ 9 := by omega
      have HS : Hid (valN (n * 10 + d) (s.data.toList.drop (k + 1)) = V) := ⟨hst⟩
      by_cases hb : (9223372036854775808 - (d : Int)) / 10 < n
      · have hbig : 9223372036854775808 < V := by rw [← hst]; omega
        have HB : Hid (9223372036854775808 < V) := ⟨hbig⟩
        clear HK hst hge hbig HV d1 d2
        go_wp2
        refine bodyPost_ret (v := .tuple #[.int .i64 0, .bool false]) (by simp [results, Tryd.results61, go_sem]) rfl ⟨⟨_, by rw [decide_eq_false (by have := HB.out; omega)], fun q => absurd q (by have := HB.out; omega)⟩, rfl⟩
      · have hb2 : n * 10 + d ≤ 9223372036854775808 := by omega
        clear HK hst hge HV d1 d2
        go_wp2
        go_roundw
        case rel => exact ⟨k + 1, n * 10 + d, by go_num, by go_num, by omega, by omega, hb2, HS, by first | rfl | trivial⟩
        case measure => simp [intOf]; omega
    · obtain rfl : k = s.size := by omega
      have h1 := HK.out
      rw [val_end] at h1
      subst h1
      clear HK
      by_cases hv : n < 9223372036854775808
      · have hv' : (n : Int) < 9223372036854775808 := by omega
        go_wp2
        refine bodyPost_ret (v := .tuple #[.int .i64 (n : Int), .bool true]) (by simp [results, Tryd.results61, go_sem]) rfl ⟨⟨_, by rw [decide_eq_true hv], fun _ => rfl⟩, rfl⟩
      · have hv' : ¬ (n : Int) < 9223372036854775808 := by omega
        have HE : Hid (¬ n < 9223372036854775808) := ⟨hv⟩
        clear hv
        go_wp2
        refine bodyPost_ret (v := .tuple #[.int .i64 (wrap64 n), .bool false]) (by simp [results, Tryd.results61, go_sem]) rfl ⟨⟨_, by rw [decide_eq_false HE.out], fun q => absurd q HE.out⟩, rfl⟩


end Go.Proofs.YtcbdolflgpmaoaaDoor


/- The document's own words, signs and numbers. -/
namespace Go.Proofs.YtcbdolflgpmaoaaDoor
open Go.RowKit
set_option linter.unusedVariables false

theorem reserved_any (t : ByteArray) (w : World) : Calls Tryd.prog 58 #[.string t] w fun e w' => e = .returned (.bool (resv t.data.toList)) ∧ w' = w := by
  rw [← ByteArray.toList_eq]
  by_cases h0 : t.toList = [108, 101, 116]
  · rw [show resv t.toList = true by rw [h0]; rfl]
    go_enter Tryd.func58, Tryd.ntmps58
    go_wp2
    go_ret
    exact ⟨rfl, rfl⟩
  by_cases h1 : t.toList = [105, 110]
  · rw [show resv t.toList = true by rw [h1]; rfl]
    go_enter Tryd.func58, Tryd.ntmps58
    go_wp2
    go_ret
    exact ⟨rfl, rfl⟩
  by_cases h2 : t.toList = [99, 97, 115, 101]
  · rw [show resv t.toList = true by rw [h2]; rfl]
    go_enter Tryd.func58, Tryd.ntmps58
    go_wp2
    go_ret
    exact ⟨rfl, rfl⟩
  by_cases h3 : t.toList = [111, 102]
  · rw [show resv t.toList = true by rw [h3]; rfl]
    go_enter Tryd.func58, Tryd.ntmps58
    go_wp2
    go_ret
    exact ⟨rfl, rfl⟩
  by_cases h4 : t.toList = [100, 97, 116, 97]
  · rw [show resv t.toList = true by rw [h4]; rfl]
    go_enter Tryd.func58, Tryd.ntmps58
    go_wp2
    go_ret
    exact ⟨rfl, rfl⟩
  rw [show resv t.toList = false by simp [resv, h0, h1, h2, h3, h4]]
  have z0 : (t.toList == [108, 101, 116]) = false := by simp [h0]
  have z1 : (t.toList == [105, 110]) = false := by simp [h1]
  have z2 : (t.toList == [99, 97, 115, 101]) = false := by simp [h2]
  have z3 : (t.toList == [111, 102]) = false := by simp [h3]
  have z4 : (t.toList == [100, 97, 116, 97]) = false := by simp [h4]
  clear h0 h1 h2 h3 h4
  go_enter Tryd.func58, Tryd.ntmps58
  go_wp2
  go_ret
  exact ⟨rfl, rfl⟩
theorem rsign_any (t : ByteArray) (w : World) : Calls Tryd.prog 62 #[.string t] w fun e w' => e = .returned (.bool (signB t.data.toList)) ∧ w' = w := by
  rw [← ByteArray.toList_eq]
  by_cases h0 : t.toList = [45, 62]
  · rw [show signB t.toList = true by rw [h0]; rfl]
    go_enter Tryd.func62, Tryd.ntmps62
    go_wp2
    go_ret
    exact ⟨rfl, rfl⟩
  by_cases h1 : t.toList = [61]
  · rw [show signB t.toList = true by rw [h1]; rfl]
    go_enter Tryd.func62, Tryd.ntmps62
    go_wp2
    go_ret
    exact ⟨rfl, rfl⟩
  by_cases h2 : t.toList = [92]
  · rw [show signB t.toList = true by rw [h2]; rfl]
    go_enter Tryd.func62, Tryd.ntmps62
    go_wp2
    go_ret
    exact ⟨rfl, rfl⟩
  by_cases h3 : t.toList = [123]
  · rw [show signB t.toList = true by rw [h3]; rfl]
    go_enter Tryd.func62, Tryd.ntmps62
    go_wp2
    go_ret
    exact ⟨rfl, rfl⟩
  by_cases h4 : t.toList = [125]
  · rw [show signB t.toList = true by rw [h4]; rfl]
    go_enter Tryd.func62, Tryd.ntmps62
    go_wp2
    go_ret
    exact ⟨rfl, rfl⟩
  by_cases h5 : t.toList = [59]
  · rw [show signB t.toList = true by rw [h5]; rfl]
    go_enter Tryd.func62, Tryd.ntmps62
    go_wp2
    go_ret
    exact ⟨rfl, rfl⟩
  by_cases h6 : t.toList = [40]
  · rw [show signB t.toList = true by rw [h6]; rfl]
    go_enter Tryd.func62, Tryd.ntmps62
    go_wp2
    go_ret
    exact ⟨rfl, rfl⟩
  by_cases h7 : t.toList = [41]
  · rw [show signB t.toList = true by rw [h7]; rfl]
    go_enter Tryd.func62, Tryd.ntmps62
    go_wp2
    go_ret
    exact ⟨rfl, rfl⟩
  rw [show signB t.toList = false by simp [signB, h0, h1, h2, h3, h4, h5, h6, h7]]
  have z0 : (t.toList == [45, 62]) = false := by simp [h0]
  have z1 : (t.toList == [61]) = false := by simp [h1]
  have z2 : (t.toList == [92]) = false := by simp [h2]
  have z3 : (t.toList == [123]) = false := by simp [h3]
  have z4 : (t.toList == [125]) = false := by simp [h4]
  have z5 : (t.toList == [59]) = false := by simp [h5]
  have z6 : (t.toList == [40]) = false := by simp [h6]
  have z7 : (t.toList == [41]) = false := by simp [h7]
  clear h0 h1 h2 h3 h4 h5 h6 h7
  go_enter Tryd.func62, Tryd.ntmps62
  go_wp2
  go_ret
  exact ⟨rfl, rfl⟩

theorem get_of_list {t : ByteArray} {c : UInt8} {D : List UInt8} (h : t.data.toList = c :: D) (i : Nat) (hi : i < t.size) (h1 : 1 ≤ i) : t[i]'hi ∈ D := by
  obtain ⟨j, rfl⟩ : ∃ j, i = j + 1 := ⟨i - 1, by omega⟩
  have hl : t.data.toList.length = t.size := size_list t
  have e : t[j + 1]'hi = t.data.toList[j + 1]'(by rw [hl]; exact hi) := rfl
  rw [e]
  simp only [h]
  rw [List.getElem_cons_succ]
  exact List.getElem_mem _
theorem get_zero {t : ByteArray} {c : UInt8} {D : List UInt8} (h : t.data.toList = c :: D) (hi : 0 < t.size) : t[0]'hi = c := by
  have hl : t.data.toList.length = t.size := size_list t
  have e : t[0]'hi = t.data.toList[0]'(by rw [hl]; exact hi) := rfl
  rw [e]
  simp only [h]
  rfl
theorem number_any (t : ByteArray) (c : UInt8) (D : List UInt8) (h : t.data.toList = c :: D) (hD : ∀ d ∈ D, dg d.toNat = true) (hc : dg c.toNat = true ∨ (c.toNat = 45 ∧ D ≠ [])) (hs : t.size ≤ 281474976710656) :
    (∃ v, numOf (c :: D) = some v ∧ ∀ w, Calls Tryd.prog 61 #[.string t] w fun e w' => e = .returned (.tuple #[.int .i64 v, .bool true]) ∧ w' = w) ∨
    (numOf (c :: D) = none ∧ ∀ w, Calls Tryd.prog 61 #[.string t] w fun e w' => (∃ x, e = .returned (.tuple #[.int .i64 x, .bool false])) ∧ w' = w) := by
  have hl : t.data.toList.length = t.size := size_list t
  have h0 : 0 < t.size := by rw [← hl, h]; simp
  have hz := get_zero h h0
  rcases hc with hc | ⟨hc, hn⟩
  · have hb := dg_bounds hc
    have hall : ∀ d ∈ c :: D, dg d.toNat = true := fun d hd => by
      rcases List.mem_cons.1 hd with rfl | hd
      · exact hc
      · exact hD d hd
    have Q := fun w => number_pos t h0 hs (by rw [hz]; omega) (fun i hi _ => by
      rcases Nat.eq_zero_or_pos i with rfl | hp
      · rw [hz]; exact hb
      · exact dg_bounds (hD _ (get_of_list h i hi hp))) w
    rw [List.drop_zero, h] at Q
    rw [numOf_pos hall]
    by_cases hv : valN 0 (c :: D) < 9223372036854775808
    · exact .inl ⟨_, by rw [if_pos hv], fun w => (Q w).mono fun e w' ⟨⟨x, he, hx⟩, hw⟩ => ⟨by rw [he, hx hv, decide_eq_true hv], hw⟩⟩
    · exact .inr ⟨by rw [if_neg hv], fun w => (Q w).mono fun e w' ⟨⟨x, he, hx⟩, hw⟩ => ⟨⟨x, by rw [he, decide_eq_false hv]⟩, hw⟩⟩
  · have h1 : 1 < t.size := by
      rw [← hl, h, List.length_cons]
      have : D.length ≠ 0 := fun q => hn (List.eq_nil_of_length_eq_zero q)
      omega
    have Q := fun w => number_neg t h0 hs (by rw [hz]; omega) h1 (fun i hi hp => dg_bounds (hD _ (get_of_list h i hi hp))) w
    rw [h, List.drop_succ_cons, List.drop_zero] at Q
    rw [numOf_neg hc hn hD]
    by_cases hv : valN 0 D ≤ 9223372036854775808
    · exact .inl ⟨_, by rw [if_pos hv], fun w => (Q w).mono fun e w' ⟨⟨x, he, hx⟩, hw⟩ => ⟨by rw [he, hx hv, decide_eq_true hv], hw⟩⟩
    · exact .inr ⟨by rw [if_neg hv], fun w => (Q w).mono fun e w' ⟨⟨x, he, hx⟩, hw⟩ => ⟨⟨x, by rw [he, decide_eq_false hv]⟩, hw⟩⟩

end Go.Proofs.YtcbdolflgpmaoaaDoor


/- The document's own reading of one token: words. -/
namespace Go.Proofs.YtcbdolflgpmaoaaDoor
open Go.RowKit
set_option linter.unusedVariables false

theorem dig_ne {r : List UInt8} (h : dg (nxt r) = true) : r.take (runN dg r) ≠ [] := by
  cases r with
  | nil => exact absurd h (by decide)
  | cons d r => simp only [runN, show dg d.toNat = true from h, if_true, List.take_succ_cons]; simp

set_option maxRecDepth 100000 in
set_option maxHeartbeats 4000000 in
theorem one_small6_n (s : ByteArray) (a : Nat) (h : a < s.size) (hs : s.size ≤ 281474976710656) (w : World) (h2 : a + 1 < s.size) (hsm : sm ((s[a]'h).toNat : Int) = true) (hrv : resv ((s.data.toList.drop a).take (runN rn (s.data.toList.drop a))) = true) :
    Calls Tryd.prog 38 #[.string s, .int .i64 a] w fun e w' => e = .returned (readV (one (s.data.toList.drop a)) a) ∧ Below w.heap.size w w' := by
  have z0 : (a : Int) < s.size := by omega
  have z4 : (a : Int) ≤ s.size := by omega
  have z5 : (a : Int) + 1 ≤ s.size := by omega
  have sm0 : sm 0 = false := by decide
  have dg0 : dg 0 = false := by decide
  have sm35 : sm 35 = false := by decide
  have gr35 : gr 35 = false := by decide
  have dg35 : dg 35 = false := by decide
  have sm45 : sm 45 = false := by decide
  have gr45 : gr 45 = false := by decide
  have dg45 : dg 45 = false := by decide
  have z2 : (0 : Int) ≤ (a : Int) + 1 := by omega
  have z3 : ((a : Int) + 1).toNat = a + 1 := by omega
  have z1 : (a : Int) + 1 < s.size := by omega
  obtain ⟨e, he⟩ : ∃ e, a + runN rn (s.data.toList.drop a) = e := ⟨_, rfl⟩
  have P := fun w => run_any s a (by omega) (by omega) w
  have bd := run_bound rn s a (by omega)
  have tx : (s.extract a e).data.toList = (s.data.toList.drop a).take (runN rn (s.data.toList.drop a)) := by rw [← he]; exact ext_run s a _
  rw [he] at P bd
  have x1 : (e : Int) ≤ s.size := by omega
  have x2 : (a : Int) ≤ e := by omega
  have RV := fun w => reserved_any (s.extract a e) w
  rw [tx, hrv] at RV
  have SV := fun w => rsign_any ⟨#[]⟩ w
  have HX : Hid (readV (one (s.data.toList.drop a)) a = Value.tuple #[tokV 6 (s.extract a e) 0 a, .int .i64 e, .int .i64 0]) := ⟨by
    rw [str_eq tx, get_list s a h, one_small hsm, ← get_list s a h, hrv, readV, ← he]
    rfl⟩
  clear he tx hrv
  go_enter Tryd.func38, Tryd.ntmps38
  go_wp2_with (first
    | (go_at_call 57; refine (rsmall_any _ _).mono ?_; rintro e w1 ⟨rfl, hw⟩; subst w1)
    | (go_at_call 59; refine (rlarge_any _ _).mono ?_; rintro e w1 ⟨rfl, hw⟩; subst w1)
    | (go_at_call 60; refine (rdigit_any _ _).mono ?_; rintro e w1 ⟨rfl, hw⟩; subst w1)
    | (go_at_call 56; refine (P _).mono ?_; rintro e w1 ⟨rfl, hw⟩; subst w1)
    | (go_at_call 58; refine (RV _).mono ?_; rintro e w1 ⟨rfl, hw⟩; subst w1)
    | (go_at_call 62; refine (SV _).mono ?_; rintro e w1 ⟨rfl, hw⟩; subst w1))
  refine bodyPost_ret (v := .tuple #[tokV 6 (s.extract a e) 0 a, .int .i64 e, .int .i64 0]) (by simp [results, Tryd.results38, go_sem, tokV]) rfl ⟨by rw [HX.out], ?_⟩
  go_grown

set_option maxRecDepth 100000 in
set_option maxHeartbeats 4000000 in
theorem one_small1_n (s : ByteArray) (a : Nat) (h : a < s.size) (hs : s.size ≤ 281474976710656) (w : World) (h2 : a + 1 < s.size) (hsm : sm ((s[a]'h).toNat : Int) = true) (hrv : resv ((s.data.toList.drop a).take (runN rn (s.data.toList.drop a))) = false) :
    Calls Tryd.prog 38 #[.string s, .int .i64 a] w fun e w' => e = .returned (readV (one (s.data.toList.drop a)) a) ∧ Below w.heap.size w w' := by
  have z0 : (a : Int) < s.size := by omega
  have z4 : (a : Int) ≤ s.size := by omega
  have z5 : (a : Int) + 1 ≤ s.size := by omega
  have sm0 : sm 0 = false := by decide
  have dg0 : dg 0 = false := by decide
  have sm35 : sm 35 = false := by decide
  have gr35 : gr 35 = false := by decide
  have dg35 : dg 35 = false := by decide
  have sm45 : sm 45 = false := by decide
  have gr45 : gr 45 = false := by decide
  have dg45 : dg 45 = false := by decide
  have z2 : (0 : Int) ≤ (a : Int) + 1 := by omega
  have z3 : ((a : Int) + 1).toNat = a + 1 := by omega
  have z1 : (a : Int) + 1 < s.size := by omega
  obtain ⟨e, he⟩ : ∃ e, a + runN rn (s.data.toList.drop a) = e := ⟨_, rfl⟩
  have P := fun w => run_any s a (by omega) (by omega) w
  have bd := run_bound rn s a (by omega)
  have tx : (s.extract a e).data.toList = (s.data.toList.drop a).take (runN rn (s.data.toList.drop a)) := by rw [← he]; exact ext_run s a _
  rw [he] at P bd
  have x1 : (e : Int) ≤ s.size := by omega
  have x2 : (a : Int) ≤ e := by omega
  have RV := fun w => reserved_any (s.extract a e) w
  rw [tx, hrv] at RV
  have SV := fun w => rsign_any ⟨#[]⟩ w
  have HX : Hid (readV (one (s.data.toList.drop a)) a = Value.tuple #[tokV 1 (s.extract a e) 0 a, .int .i64 e, .int .i64 0]) := ⟨by
    rw [str_eq tx, get_list s a h, one_small hsm, ← get_list s a h, hrv, readV, ← he]
    rfl⟩
  clear he tx hrv
  go_enter Tryd.func38, Tryd.ntmps38
  go_wp2_with (first
    | (go_at_call 57; refine (rsmall_any _ _).mono ?_; rintro e w1 ⟨rfl, hw⟩; subst w1)
    | (go_at_call 59; refine (rlarge_any _ _).mono ?_; rintro e w1 ⟨rfl, hw⟩; subst w1)
    | (go_at_call 60; refine (rdigit_any _ _).mono ?_; rintro e w1 ⟨rfl, hw⟩; subst w1)
    | (go_at_call 56; refine (P _).mono ?_; rintro e w1 ⟨rfl, hw⟩; subst w1)
    | (go_at_call 58; refine (RV _).mono ?_; rintro e w1 ⟨rfl, hw⟩; subst w1)
    | (go_at_call 62; refine (SV _).mono ?_; rintro e w1 ⟨rfl, hw⟩; subst w1))
  refine bodyPost_ret (v := .tuple #[tokV 1 (s.extract a e) 0 a, .int .i64 e, .int .i64 0]) (by simp [results, Tryd.results38, go_sem, tokV]) rfl ⟨by rw [HX.out], ?_⟩
  go_grown

set_option maxRecDepth 100000 in
set_option maxHeartbeats 4000000 in
theorem one_great_n (s : ByteArray) (a : Nat) (h : a < s.size) (hs : s.size ≤ 281474976710656) (w : World) (h2 : a + 1 < s.size) (hsm : sm ((s[a]'h).toNat : Int) = false) (hgr : gr ((s[a]'h).toNat : Int) = true) :
    Calls Tryd.prog 38 #[.string s, .int .i64 a] w fun e w' => e = .returned (readV (one (s.data.toList.drop a)) a) ∧ Below w.heap.size w w' := by
  have z0 : (a : Int) < s.size := by omega
  have z4 : (a : Int) ≤ s.size := by omega
  have z5 : (a : Int) + 1 ≤ s.size := by omega
  have sm0 : sm 0 = false := by decide
  have dg0 : dg 0 = false := by decide
  have sm35 : sm 35 = false := by decide
  have gr35 : gr 35 = false := by decide
  have dg35 : dg 35 = false := by decide
  have sm45 : sm 45 = false := by decide
  have gr45 : gr 45 = false := by decide
  have dg45 : dg 45 = false := by decide
  have z2 : (0 : Int) ≤ (a : Int) + 1 := by omega
  have z3 : ((a : Int) + 1).toNat = a + 1 := by omega
  have z1 : (a : Int) + 1 < s.size := by omega
  obtain ⟨e, he⟩ : ∃ e, a + runN rn (s.data.toList.drop a) = e := ⟨_, rfl⟩
  have P := fun w => run_any s a (by omega) (by omega) w
  have bd := run_bound rn s a (by omega)
  have tx : (s.extract a e).data.toList = (s.data.toList.drop a).take (runN rn (s.data.toList.drop a)) := by rw [← he]; exact ext_run s a _
  rw [he] at P bd
  have x1 : (e : Int) ≤ s.size := by omega
  have x2 : (a : Int) ≤ e := by omega
  have RV := fun w => reserved_any (s.extract a e) w
  have SV := fun w => rsign_any ⟨#[]⟩ w
  have HX : Hid (readV (one (s.data.toList.drop a)) a = Value.tuple #[tokV 2 (s.extract a e) 0 a, .int .i64 e, .int .i64 0]) := ⟨by
    rw [str_eq tx, get_list s a h, one_great hsm hgr, ← get_list s a h, readV, ← he]⟩
  clear he tx
  go_enter Tryd.func38, Tryd.ntmps38
  go_wp2_with (first
    | (go_at_call 57; refine (rsmall_any _ _).mono ?_; rintro e w1 ⟨rfl, hw⟩; subst w1)
    | (go_at_call 59; refine (rlarge_any _ _).mono ?_; rintro e w1 ⟨rfl, hw⟩; subst w1)
    | (go_at_call 60; refine (rdigit_any _ _).mono ?_; rintro e w1 ⟨rfl, hw⟩; subst w1)
    | (go_at_call 56; refine (P _).mono ?_; rintro e w1 ⟨rfl, hw⟩; subst w1)
    | (go_at_call 58; refine (RV _).mono ?_; rintro e w1 ⟨rfl, hw⟩; subst w1)
    | (go_at_call 62; refine (SV _).mono ?_; rintro e w1 ⟨rfl, hw⟩; subst w1))
  refine bodyPost_ret (v := .tuple #[tokV 2 (s.extract a e) 0 a, .int .i64 e, .int .i64 0]) (by simp [results, Tryd.results38, go_sem, tokV]) rfl ⟨by rw [HX.out], ?_⟩
  go_grown

set_option maxRecDepth 100000 in
set_option maxHeartbeats 4000000 in
theorem one_small6_e (s : ByteArray) (a : Nat) (h : a < s.size) (hs : s.size ≤ 281474976710656) (w : World) (h2 : ¬ a + 1 < s.size) (hsm : sm ((s[a]'h).toNat : Int) = true) (hrv : resv ((s.data.toList.drop a).take (runN rn (s.data.toList.drop a))) = true) :
    Calls Tryd.prog 38 #[.string s, .int .i64 a] w fun e w' => e = .returned (readV (one (s.data.toList.drop a)) a) ∧ Below w.heap.size w w' := by
  have z0 : (a : Int) < s.size := by omega
  have z4 : (a : Int) ≤ s.size := by omega
  have z5 : (a : Int) + 1 ≤ s.size := by omega
  have sm0 : sm 0 = false := by decide
  have dg0 : dg 0 = false := by decide
  have sm35 : sm 35 = false := by decide
  have gr35 : gr 35 = false := by decide
  have dg35 : dg 35 = false := by decide
  have sm45 : sm 45 = false := by decide
  have gr45 : gr 45 = false := by decide
  have dg45 : dg 45 = false := by decide
  have z2 : (0 : Int) ≤ (a : Int) + 1 := by omega
  have z3 : ((a : Int) + 1).toNat = a + 1 := by omega
  have z1 : ¬ (a : Int) + 1 < s.size := by omega
  obtain ⟨e, he⟩ : ∃ e, a + runN rn (s.data.toList.drop a) = e := ⟨_, rfl⟩
  have P := fun w => run_any s a (by omega) (by omega) w
  have bd := run_bound rn s a (by omega)
  have tx : (s.extract a e).data.toList = (s.data.toList.drop a).take (runN rn (s.data.toList.drop a)) := by rw [← he]; exact ext_run s a _
  rw [he] at P bd
  have x1 : (e : Int) ≤ s.size := by omega
  have x2 : (a : Int) ≤ e := by omega
  have RV := fun w => reserved_any (s.extract a e) w
  rw [tx, hrv] at RV
  have SV := fun w => rsign_any ⟨#[]⟩ w
  have HX : Hid (readV (one (s.data.toList.drop a)) a = Value.tuple #[tokV 6 (s.extract a e) 0 a, .int .i64 e, .int .i64 0]) := ⟨by
    rw [str_eq tx, get_list s a h, one_small hsm, ← get_list s a h, hrv, readV, ← he]
    rfl⟩
  clear he tx hrv
  go_enter Tryd.func38, Tryd.ntmps38
  go_wp2_with (first
    | (go_at_call 57; refine (rsmall_any _ _).mono ?_; rintro e w1 ⟨rfl, hw⟩; subst w1)
    | (go_at_call 59; refine (rlarge_any _ _).mono ?_; rintro e w1 ⟨rfl, hw⟩; subst w1)
    | (go_at_call 60; refine (rdigit_any _ _).mono ?_; rintro e w1 ⟨rfl, hw⟩; subst w1)
    | (go_at_call 56; refine (P _).mono ?_; rintro e w1 ⟨rfl, hw⟩; subst w1)
    | (go_at_call 58; refine (RV _).mono ?_; rintro e w1 ⟨rfl, hw⟩; subst w1)
    | (go_at_call 62; refine (SV _).mono ?_; rintro e w1 ⟨rfl, hw⟩; subst w1))
  refine bodyPost_ret (v := .tuple #[tokV 6 (s.extract a e) 0 a, .int .i64 e, .int .i64 0]) (by simp [results, Tryd.results38, go_sem, tokV]) rfl ⟨by rw [HX.out], ?_⟩
  go_grown

set_option maxRecDepth 100000 in
set_option maxHeartbeats 4000000 in
theorem one_small1_e (s : ByteArray) (a : Nat) (h : a < s.size) (hs : s.size ≤ 281474976710656) (w : World) (h2 : ¬ a + 1 < s.size) (hsm : sm ((s[a]'h).toNat : Int) = true) (hrv : resv ((s.data.toList.drop a).take (runN rn (s.data.toList.drop a))) = false) :
    Calls Tryd.prog 38 #[.string s, .int .i64 a] w fun e w' => e = .returned (readV (one (s.data.toList.drop a)) a) ∧ Below w.heap.size w w' := by
  have z0 : (a : Int) < s.size := by omega
  have z4 : (a : Int) ≤ s.size := by omega
  have z5 : (a : Int) + 1 ≤ s.size := by omega
  have sm0 : sm 0 = false := by decide
  have dg0 : dg 0 = false := by decide
  have sm35 : sm 35 = false := by decide
  have gr35 : gr 35 = false := by decide
  have dg35 : dg 35 = false := by decide
  have sm45 : sm 45 = false := by decide
  have gr45 : gr 45 = false := by decide
  have dg45 : dg 45 = false := by decide
  have z2 : (0 : Int) ≤ (a : Int) + 1 := by omega
  have z3 : ((a : Int) + 1).toNat = a + 1 := by omega
  have z1 : ¬ (a : Int) + 1 < s.size := by omega
  obtain ⟨e, he⟩ : ∃ e, a + runN rn (s.data.toList.drop a) = e := ⟨_, rfl⟩
  have P := fun w => run_any s a (by omega) (by omega) w
  have bd := run_bound rn s a (by omega)
  have tx : (s.extract a e).data.toList = (s.data.toList.drop a).take (runN rn (s.data.toList.drop a)) := by rw [← he]; exact ext_run s a _
  rw [he] at P bd
  have x1 : (e : Int) ≤ s.size := by omega
  have x2 : (a : Int) ≤ e := by omega
  have RV := fun w => reserved_any (s.extract a e) w
  rw [tx, hrv] at RV
  have SV := fun w => rsign_any ⟨#[]⟩ w
  have HX : Hid (readV (one (s.data.toList.drop a)) a = Value.tuple #[tokV 1 (s.extract a e) 0 a, .int .i64 e, .int .i64 0]) := ⟨by
    rw [str_eq tx, get_list s a h, one_small hsm, ← get_list s a h, hrv, readV, ← he]
    rfl⟩
  clear he tx hrv
  go_enter Tryd.func38, Tryd.ntmps38
  go_wp2_with (first
    | (go_at_call 57; refine (rsmall_any _ _).mono ?_; rintro e w1 ⟨rfl, hw⟩; subst w1)
    | (go_at_call 59; refine (rlarge_any _ _).mono ?_; rintro e w1 ⟨rfl, hw⟩; subst w1)
    | (go_at_call 60; refine (rdigit_any _ _).mono ?_; rintro e w1 ⟨rfl, hw⟩; subst w1)
    | (go_at_call 56; refine (P _).mono ?_; rintro e w1 ⟨rfl, hw⟩; subst w1)
    | (go_at_call 58; refine (RV _).mono ?_; rintro e w1 ⟨rfl, hw⟩; subst w1)
    | (go_at_call 62; refine (SV _).mono ?_; rintro e w1 ⟨rfl, hw⟩; subst w1))
  refine bodyPost_ret (v := .tuple #[tokV 1 (s.extract a e) 0 a, .int .i64 e, .int .i64 0]) (by simp [results, Tryd.results38, go_sem, tokV]) rfl ⟨by rw [HX.out], ?_⟩
  go_grown

set_option maxRecDepth 100000 in
set_option maxHeartbeats 4000000 in
theorem one_great_e (s : ByteArray) (a : Nat) (h : a < s.size) (hs : s.size ≤ 281474976710656) (w : World) (h2 : ¬ a + 1 < s.size) (hsm : sm ((s[a]'h).toNat : Int) = false) (hgr : gr ((s[a]'h).toNat : Int) = true) :
    Calls Tryd.prog 38 #[.string s, .int .i64 a] w fun e w' => e = .returned (readV (one (s.data.toList.drop a)) a) ∧ Below w.heap.size w w' := by
  have z0 : (a : Int) < s.size := by omega
  have z4 : (a : Int) ≤ s.size := by omega
  have z5 : (a : Int) + 1 ≤ s.size := by omega
  have sm0 : sm 0 = false := by decide
  have dg0 : dg 0 = false := by decide
  have sm35 : sm 35 = false := by decide
  have gr35 : gr 35 = false := by decide
  have dg35 : dg 35 = false := by decide
  have sm45 : sm 45 = false := by decide
  have gr45 : gr 45 = false := by decide
  have dg45 : dg 45 = false := by decide
  have z2 : (0 : Int) ≤ (a : Int) + 1 := by omega
  have z3 : ((a : Int) + 1).toNat = a + 1 := by omega
  have z1 : ¬ (a : Int) + 1 < s.size := by omega
  obtain ⟨e, he⟩ : ∃ e, a + runN rn (s.data.toList.drop a) = e := ⟨_, rfl⟩
  have P := fun w => run_any s a (by omega) (by omega) w
  have bd := run_bound rn s a (by omega)
  have tx : (s.extract a e).data.toList = (s.data.toList.drop a).take (runN rn (s.data.toList.drop a)) := by rw [← he]; exact ext_run s a _
  rw [he] at P bd
  have x1 : (e : Int) ≤ s.size := by omega
  have x2 : (a : Int) ≤ e := by omega
  have RV := fun w => reserved_any (s.extract a e) w
  have SV := fun w => rsign_any ⟨#[]⟩ w
  have HX : Hid (readV (one (s.data.toList.drop a)) a = Value.tuple #[tokV 2 (s.extract a e) 0 a, .int .i64 e, .int .i64 0]) := ⟨by
    rw [str_eq tx, get_list s a h, one_great hsm hgr, ← get_list s a h, readV, ← he]⟩
  clear he tx
  go_enter Tryd.func38, Tryd.ntmps38
  go_wp2_with (first
    | (go_at_call 57; refine (rsmall_any _ _).mono ?_; rintro e w1 ⟨rfl, hw⟩; subst w1)
    | (go_at_call 59; refine (rlarge_any _ _).mono ?_; rintro e w1 ⟨rfl, hw⟩; subst w1)
    | (go_at_call 60; refine (rdigit_any _ _).mono ?_; rintro e w1 ⟨rfl, hw⟩; subst w1)
    | (go_at_call 56; refine (P _).mono ?_; rintro e w1 ⟨rfl, hw⟩; subst w1)
    | (go_at_call 58; refine (RV _).mono ?_; rintro e w1 ⟨rfl, hw⟩; subst w1)
    | (go_at_call 62; refine (SV _).mono ?_; rintro e w1 ⟨rfl, hw⟩; subst w1))
  refine bodyPost_ret (v := .tuple #[tokV 2 (s.extract a e) 0 a, .int .i64 e, .int .i64 0]) (by simp [results, Tryd.results38, go_sem, tokV]) rfl ⟨by rw [HX.out], ?_⟩
  go_grown

set_option maxRecDepth 100000 in
set_option maxHeartbeats 4000000 in
theorem one_primw (s : ByteArray) (a : Nat) (h : a < s.size) (hs : s.size ≤ 281474976710656) (w : World) (h2 : a + 1 < s.size) (hc : ((s[a]'h).toNat : Int) = 35) (hn : sm ((s[a + 1]'h2).toNat : Int) = true) :
    Calls Tryd.prog 38 #[.string s, .int .i64 a] w fun e w' => e = .returned (readV (one (s.data.toList.drop a)) a) ∧ Below w.heap.size w w' := by
  have z0 : (a : Int) < s.size := by omega
  have z4 : (a : Int) ≤ s.size := by omega
  have z5 : (a : Int) + 1 ≤ s.size := by omega
  have sm0 : sm 0 = false := by decide
  have dg0 : dg 0 = false := by decide
  have sm35 : sm 35 = false := by decide
  have gr35 : gr 35 = false := by decide
  have dg35 : dg 35 = false := by decide
  have sm45 : sm 45 = false := by decide
  have gr45 : gr 45 = false := by decide
  have dg45 : dg 45 = false := by decide
  have z2 : (0 : Int) ≤ (a : Int) + 1 := by omega
  have z3 : ((a : Int) + 1).toNat = a + 1 := by omega
  have z1 : (a : Int) + 1 < s.size := by omega
  obtain ⟨e, he⟩ : ∃ e, a + runN rn (s.data.toList.drop a) = e := ⟨_, rfl⟩
  have P := fun w => run_any s a (by omega) (by omega) w
  have bd := run_bound rn s a (by omega)
  have tx : (s.extract a e).data.toList = (s.data.toList.drop a).take (runN rn (s.data.toList.drop a)) := by rw [← he]; exact ext_run s a _
  rw [he] at P bd
  have x1 : (e : Int) ≤ s.size := by omega
  have x2 : (a : Int) ≤ e := by omega
  have RV := fun w => reserved_any (s.extract a e) w
  have SV := fun w => rsign_any ⟨#[]⟩ w
  obtain ⟨e2, he2⟩ : ∃ e2, a + 1 + runN rn (s.data.toList.drop (a + 1)) = e2 := ⟨_, rfl⟩
  have P2 := fun w => run_any s (a + 1) (by omega) (by omega) w
  have bd2 := run_bound rn s (a + 1) (by omega)
  have tx2 : (s.extract a e2).data.toList = (s.data.toList.drop a).take (runN rn (s.data.toList.drop (a + 1)) + 1) := by rw [← he2, show a + 1 + runN rn (s.data.toList.drop (a + 1)) = a + (runN rn (s.data.toList.drop (a + 1)) + 1) by omega]; exact ext_run s a _
  rw [he2] at P2 bd2
  rw [show ((a + 1 : Nat) : Int) = (a : Int) + 1 from rfl] at P2
  have x3 : (e2 : Int) ≤ s.size := by omega
  have x4 : (a : Int) ≤ e2 := by omega
  have HX : Hid (readV (one (s.data.toList.drop a)) a = Value.tuple #[tokV 3 (s.extract a e2) 0 a, .int .i64 e2, .int .i64 0]) := ⟨by
    rw [str_eq tx2, get_list s a h, one_prim (by omega) (by rw [nxt_of s (a + 1) h2]; exact hn), ← get_list s a h, readV, ← he2, show a + 1 + runN rn (s.data.toList.drop (a + 1)) = a + (runN rn (s.data.toList.drop (a + 1)) + 1) by omega]⟩
  clear he tx he2 tx2
  go_enter Tryd.func38, Tryd.ntmps38
  go_wp2_with (first
    | (go_at_call 57; refine (rsmall_any _ _).mono ?_; rintro e w1 ⟨rfl, hw⟩; subst w1)
    | (go_at_call 59; refine (rlarge_any _ _).mono ?_; rintro e w1 ⟨rfl, hw⟩; subst w1)
    | (go_at_call 60; refine (rdigit_any _ _).mono ?_; rintro e w1 ⟨rfl, hw⟩; subst w1)
    | (go_at_call 56; refine (P _).mono ?_; rintro e w1 ⟨rfl, hw⟩; subst w1; clear P; have P := P2)
    | (go_at_call 58; refine (RV _).mono ?_; rintro e w1 ⟨rfl, hw⟩; subst w1)
    | (go_at_call 62; refine (SV _).mono ?_; rintro e w1 ⟨rfl, hw⟩; subst w1))
  refine bodyPost_ret (v := .tuple #[tokV 3 (s.extract a e2) 0 a, .int .i64 e2, .int .i64 0]) (by simp [results, Tryd.results38, go_sem, tokV]) rfl ⟨by rw [HX.out], ?_⟩
  go_grown

end Go.Proofs.YtcbdolflgpmaoaaDoor


/- The document's own reading of one token: numbers. -/
namespace Go.Proofs.YtcbdolflgpmaoaaDoor
open Go.RowKit
set_option linter.unusedVariables false

set_option maxRecDepth 100000 in
set_option maxHeartbeats 4000000 in
theorem one_dig_n (s : ByteArray) (a : Nat) (h : a < s.size) (hs : s.size ≤ 281474976710656) (w : World) (h2 : a + 1 < s.size) (hsm : sm ((s[a]'h).toNat : Int) = false) (hgr : gr ((s[a]'h).toNat : Int) = false) (hc : ¬ ((s[a]'h).toNat : Int) = 35) (hdg : dg ((s[a]'h).toNat : Int) = true) :
    Calls Tryd.prog 38 #[.string s, .int .i64 a] w fun e w' => e = .returned (readV (one (s.data.toList.drop a)) a) ∧ Below w.heap.size w w' := by
  have z0 : (a : Int) < s.size := by omega
  have z4 : (a : Int) ≤ s.size := by omega
  have z5 : (a : Int) + 1 ≤ s.size := by omega
  have sm0 : sm 0 = false := by decide
  have dg0 : dg 0 = false := by decide
  have sm35 : sm 35 = false := by decide
  have gr35 : gr 35 = false := by decide
  have dg35 : dg 35 = false := by decide
  have sm45 : sm 45 = false := by decide
  have gr45 : gr 45 = false := by decide
  have dg45 : dg 45 = false := by decide
  have z2 : (0 : Int) ≤ (a : Int) + 1 := by omega
  have z3 : ((a : Int) + 1).toNat = a + 1 := by omega
  have z1 : (a : Int) + 1 < s.size := by omega
  obtain ⟨e, he⟩ : ∃ e, a + runN rn (s.data.toList.drop a) = e := ⟨_, rfl⟩
  have P := fun w => run_any s a (by omega) (by omega) w
  have bd := run_bound rn s a (by omega)
  have tx : (s.extract a e).data.toList = (s.data.toList.drop a).take (runN rn (s.data.toList.drop a)) := by rw [← he]; exact ext_run s a _
  rw [he] at P bd
  have x1 : (e : Int) ≤ s.size := by omega
  have x2 : (a : Int) ≤ e := by omega
  have RV := fun w => reserved_any (s.extract a e) w
  have SV := fun w => rsign_any ⟨#[]⟩ w
  have hD : dg (s[a]'h).toNat = true ∨ ((s[a]'h).toNat = 45 ∧ dg (nxt (s.data.toList.drop (a + 1))) = true) := .inl hdg
  obtain ⟨e2, he2⟩ : ∃ e2, a + 1 + runN dg (s.data.toList.drop (a + 1)) = e2 := ⟨_, rfl⟩
  have bd2 := run_bound dg s (a + 1) (by omega)
  have tx2 : (s.extract a e2).data.toList = (s.data.toList.drop a).take (runN dg (s.data.toList.drop (a + 1)) + 1) := by rw [← he2, show a + 1 + runN dg (s.data.toList.drop (a + 1)) = a + (runN dg (s.data.toList.drop (a + 1)) + 1) by omega]; exact ext_run s a _
  have HE2 : Hid (a + 1 + runN dg (s.data.toList.drop (a + 1)) = e2) := ⟨he2⟩
  rw [he2] at bd2
  have x3 : (e2 : Int) ≤ s.size := by omega
  have x4 : (a : Int) ≤ e2 := by omega
  have tl : (s.extract a e2).data.toList = s[a]'h :: (s.data.toList.drop (a + 1)).take (runN dg (s.data.toList.drop (a + 1))) := by rw [tx2, get_list s a h, List.take_succ_cons]
  have NA := number_any (s.extract a e2) _ _ tl (run_all dg _) (hD.imp id (fun q => ⟨q.1, dig_ne q.2⟩)) (by rw [← size_list, tx2]; simp; omega)
  rw [← tl, tx2] at NA
  have HO := one_num (c := s[a]'h) (r := s.data.toList.drop (a + 1)) hsm hgr (by omega) hD
  rw [← get_list s a h] at HO
  clear tx2 tl hD he tx
  rcases NA with ⟨v, nv, NA⟩ | ⟨nv, NA⟩
  · rw [nv] at HO
    have HX : Hid (readV (one (s.data.toList.drop a)) a = Value.tuple #[tokV 4 ⟨#[]⟩ v a, .int .i64 e2, .int .i64 0]) := ⟨by
      rw [HO, readV, ← he2, show a + 1 + runN dg (s.data.toList.drop (a + 1)) = a + (runN dg (s.data.toList.drop (a + 1)) + 1) by omega]
      rfl⟩
    clear he2 HO nv
    go_enter Tryd.func38, Tryd.ntmps38
    go_wp2_with (first
      | (go_at_call 57; refine (rsmall_any _ _).mono ?_; rintro e w1 ⟨rfl, hw⟩; subst w1)
      | (go_at_call 59; refine (rlarge_any _ _).mono ?_; rintro e w1 ⟨rfl, hw⟩; subst w1)
      | (go_at_call 60; refine (rdigit_any _ _).mono ?_; rintro e w1 ⟨rfl, hw⟩; subst w1)
      | (go_at_call 56; refine (P _).mono ?_; rintro e w1 ⟨rfl, hw⟩; subst w1)
      | (go_at_call 58; refine (RV _).mono ?_; rintro e w1 ⟨rfl, hw⟩; subst w1)
      | (go_at_call 62; refine (SV _).mono ?_; rintro e w1 ⟨rfl, hw⟩; subst w1))
    go_loopw [9] (fun c wr => ∃ k : Nat, c = .int .i64 k ∧ a + 1 ≤ k ∧ k ≤ s.size ∧ Hid (k + runN dg (s.data.toList.drop k) = e2) ∧ w.alloc (Obj.cells #[.int .i64 0, .string ⟨#[]⟩, .int .i64 0, .int .i64 0] 70) = wr) (fun c _ => s.size - (intOf c).toNat)
    case atStart => exact ⟨a + 1, by go_num, Nat.le_refl _, by omega, HE2, rfl⟩
    case round =>
      obtain ⟨k, rfl, hk1, hk2, HK, rfl⟩ := hrel
      by_cases hlt : k < s.size
      · have Q := rdigit_any ((s[k]'hlt).toNat) (w.alloc (Obj.cells #[.int .i64 0, .string ⟨#[]⟩, .int .i64 0, .int .i64 0] 70))
        have E := run_step dg s k hlt
        obtain ⟨b, hb⟩ : ∃ b, dg ((s[k]'hlt).toNat) = b := ⟨_, rfl⟩
        rw [hb] at Q E
        clear hb
        have HE : Hid (runN dg (s.data.toList.drop k) = if b then runN dg (s.data.toList.drop (k + 1)) + 1 else 0) := ⟨E⟩
        clear E
        cases b
        · obtain rfl : e2 = k := by have h1 := HK.out; rw [HE.out] at h1; simp at h1; exact h1.symm
          go_wp2_with (first | (go_at_call 60; refine Q.mono ?_; rintro e w1 ⟨rfl, hw⟩; subst w1) | (go_at_call 61; refine (NA _).mono ?_; rintro e w1 ⟨rfl, hw⟩; subst w1))
          refine bodyPost_ret (v := .tuple #[tokV 4 ⟨#[]⟩ v a, .int .i64 e2, .int .i64 0]) (by simp [results, Tryd.results38, go_sem, tokV]) rfl ⟨by rw [HX.out], ?_⟩
          go_grown
        · go_wp2_with (go_at_call 60; refine Q.mono ?_; rintro e w1 ⟨rfl, hw⟩; subst w1)
          go_roundw
          case rel => exact ⟨k + 1, by go_num, by omega, by omega, ⟨by have h1 := HK.out; rw [HE.out] at h1; simp at h1; omega⟩, by first | rfl | trivial⟩
          case measure => simp [intOf]; omega
      · obtain rfl : k = s.size := by omega
        obtain rfl : e2 = s.size := by have h1 := HK.out; rw [List.drop_eq_nil_of_le (by simp)] at h1; simp [runN] at h1; exact h1.symm
        go_wp2_with (go_at_call 61; refine (NA _).mono ?_; rintro e w1 ⟨rfl, hw⟩; subst w1)
        refine bodyPost_ret (v := .tuple #[tokV 4 ⟨#[]⟩ v a, .int .i64 s.size, .int .i64 0]) (by simp [results, Tryd.results38, go_sem, tokV]) rfl ⟨by rw [HX.out], ?_⟩
        go_grown

  · rw [nv] at HO
    have HX : Hid (readV (one (s.data.toList.drop a)) a = Value.tuple #[tokV 0 ⟨#[]⟩ 0 0, .int .i64 0, .int .i64 22]) := ⟨by rw [HO]; rfl⟩
    clear he2 HO nv
    go_enter Tryd.func38, Tryd.ntmps38
    go_wp2_with (first
      | (go_at_call 57; refine (rsmall_any _ _).mono ?_; rintro e w1 ⟨rfl, hw⟩; subst w1)
      | (go_at_call 59; refine (rlarge_any _ _).mono ?_; rintro e w1 ⟨rfl, hw⟩; subst w1)
      | (go_at_call 60; refine (rdigit_any _ _).mono ?_; rintro e w1 ⟨rfl, hw⟩; subst w1)
      | (go_at_call 56; refine (P _).mono ?_; rintro e w1 ⟨rfl, hw⟩; subst w1)
      | (go_at_call 58; refine (RV _).mono ?_; rintro e w1 ⟨rfl, hw⟩; subst w1)
      | (go_at_call 62; refine (SV _).mono ?_; rintro e w1 ⟨rfl, hw⟩; subst w1))
    go_loopw [9] (fun c wr => ∃ k : Nat, c = .int .i64 k ∧ a + 1 ≤ k ∧ k ≤ s.size ∧ Hid (k + runN dg (s.data.toList.drop k) = e2) ∧ w.alloc (Obj.cells #[.int .i64 0, .string ⟨#[]⟩, .int .i64 0, .int .i64 0] 70) = wr) (fun c _ => s.size - (intOf c).toNat)
    case atStart => exact ⟨a + 1, by go_num, Nat.le_refl _, by omega, HE2, rfl⟩
    case round =>
      obtain ⟨k, rfl, hk1, hk2, HK, rfl⟩ := hrel
      by_cases hlt : k < s.size
      · have Q := rdigit_any ((s[k]'hlt).toNat) (w.alloc (Obj.cells #[.int .i64 0, .string ⟨#[]⟩, .int .i64 0, .int .i64 0] 70))
        have E := run_step dg s k hlt
        obtain ⟨b, hb⟩ : ∃ b, dg ((s[k]'hlt).toNat) = b := ⟨_, rfl⟩
        rw [hb] at Q E
        clear hb
        have HE : Hid (runN dg (s.data.toList.drop k) = if b then runN dg (s.data.toList.drop (k + 1)) + 1 else 0) := ⟨E⟩
        clear E
        cases b
        · obtain rfl : e2 = k := by have h1 := HK.out; rw [HE.out] at h1; simp at h1; exact h1.symm
          go_wp2_with (first | (go_at_call 60; refine Q.mono ?_; rintro e w1 ⟨rfl, hw⟩; subst w1) | (go_at_call 61; refine (NA _).mono ?_; rintro e w1 ⟨⟨x, rfl⟩, hw⟩; subst w1))
          refine bodyPost_ret (v := .tuple #[tokV 0 ⟨#[]⟩ 0 0, .int .i64 0, .int .i64 22]) (by simp [results, Tryd.results38, go_sem, tokV]) rfl ⟨by rw [HX.out], ?_⟩
          go_grown
        · go_wp2_with (go_at_call 60; refine Q.mono ?_; rintro e w1 ⟨rfl, hw⟩; subst w1)
          go_roundw
          case rel => exact ⟨k + 1, by go_num, by omega, by omega, ⟨by have h1 := HK.out; rw [HE.out] at h1; simp at h1; omega⟩, by first | rfl | trivial⟩
          case measure => simp [intOf]; omega
      · obtain rfl : k = s.size := by omega
        obtain rfl : e2 = s.size := by have h1 := HK.out; rw [List.drop_eq_nil_of_le (by simp)] at h1; simp [runN] at h1; exact h1.symm
        go_wp2_with (go_at_call 61; refine (NA _).mono ?_; rintro e w1 ⟨⟨x, rfl⟩, hw⟩; subst w1)
        refine bodyPost_ret (v := .tuple #[tokV 0 ⟨#[]⟩ 0 0, .int .i64 0, .int .i64 22]) (by simp [results, Tryd.results38, go_sem, tokV]) rfl ⟨by rw [HX.out], ?_⟩
        go_grown


set_option maxRecDepth 100000 in
set_option maxHeartbeats 4000000 in
theorem one_dig_e (s : ByteArray) (a : Nat) (h : a < s.size) (hs : s.size ≤ 281474976710656) (w : World) (h2 : ¬ a + 1 < s.size) (hsm : sm ((s[a]'h).toNat : Int) = false) (hgr : gr ((s[a]'h).toNat : Int) = false) (hc : ¬ ((s[a]'h).toNat : Int) = 35) (hdg : dg ((s[a]'h).toNat : Int) = true) :
    Calls Tryd.prog 38 #[.string s, .int .i64 a] w fun e w' => e = .returned (readV (one (s.data.toList.drop a)) a) ∧ Below w.heap.size w w' := by
  have z0 : (a : Int) < s.size := by omega
  have z4 : (a : Int) ≤ s.size := by omega
  have z5 : (a : Int) + 1 ≤ s.size := by omega
  have sm0 : sm 0 = false := by decide
  have dg0 : dg 0 = false := by decide
  have sm35 : sm 35 = false := by decide
  have gr35 : gr 35 = false := by decide
  have dg35 : dg 35 = false := by decide
  have sm45 : sm 45 = false := by decide
  have gr45 : gr 45 = false := by decide
  have dg45 : dg 45 = false := by decide
  have z2 : (0 : Int) ≤ (a : Int) + 1 := by omega
  have z3 : ((a : Int) + 1).toNat = a + 1 := by omega
  have z1 : ¬ (a : Int) + 1 < s.size := by omega
  obtain ⟨e, he⟩ : ∃ e, a + runN rn (s.data.toList.drop a) = e := ⟨_, rfl⟩
  have P := fun w => run_any s a (by omega) (by omega) w
  have bd := run_bound rn s a (by omega)
  have tx : (s.extract a e).data.toList = (s.data.toList.drop a).take (runN rn (s.data.toList.drop a)) := by rw [← he]; exact ext_run s a _
  rw [he] at P bd
  have x1 : (e : Int) ≤ s.size := by omega
  have x2 : (a : Int) ≤ e := by omega
  have RV := fun w => reserved_any (s.extract a e) w
  have SV := fun w => rsign_any ⟨#[]⟩ w
  have hD : dg (s[a]'h).toNat = true ∨ ((s[a]'h).toNat = 45 ∧ dg (nxt (s.data.toList.drop (a + 1))) = true) := .inl hdg
  obtain ⟨e2, he2⟩ : ∃ e2, a + 1 + runN dg (s.data.toList.drop (a + 1)) = e2 := ⟨_, rfl⟩
  have bd2 := run_bound dg s (a + 1) (by omega)
  have tx2 : (s.extract a e2).data.toList = (s.data.toList.drop a).take (runN dg (s.data.toList.drop (a + 1)) + 1) := by rw [← he2, show a + 1 + runN dg (s.data.toList.drop (a + 1)) = a + (runN dg (s.data.toList.drop (a + 1)) + 1) by omega]; exact ext_run s a _
  have HE2 : Hid (a + 1 + runN dg (s.data.toList.drop (a + 1)) = e2) := ⟨he2⟩
  rw [he2] at bd2
  have x3 : (e2 : Int) ≤ s.size := by omega
  have x4 : (a : Int) ≤ e2 := by omega
  have tl : (s.extract a e2).data.toList = s[a]'h :: (s.data.toList.drop (a + 1)).take (runN dg (s.data.toList.drop (a + 1))) := by rw [tx2, get_list s a h, List.take_succ_cons]
  have NA := number_any (s.extract a e2) _ _ tl (run_all dg _) (hD.imp id (fun q => ⟨q.1, dig_ne q.2⟩)) (by rw [← size_list, tx2]; simp; omega)
  rw [← tl, tx2] at NA
  have HO := one_num (c := s[a]'h) (r := s.data.toList.drop (a + 1)) hsm hgr (by omega) hD
  rw [← get_list s a h] at HO
  clear tx2 tl hD he tx
  rcases NA with ⟨v, nv, NA⟩ | ⟨nv, NA⟩
  · rw [nv] at HO
    have HX : Hid (readV (one (s.data.toList.drop a)) a = Value.tuple #[tokV 4 ⟨#[]⟩ v a, .int .i64 e2, .int .i64 0]) := ⟨by
      rw [HO, readV, ← he2, show a + 1 + runN dg (s.data.toList.drop (a + 1)) = a + (runN dg (s.data.toList.drop (a + 1)) + 1) by omega]
      rfl⟩
    clear he2 HO nv
    go_enter Tryd.func38, Tryd.ntmps38
    go_wp2_with (first
      | (go_at_call 57; refine (rsmall_any _ _).mono ?_; rintro e w1 ⟨rfl, hw⟩; subst w1)
      | (go_at_call 59; refine (rlarge_any _ _).mono ?_; rintro e w1 ⟨rfl, hw⟩; subst w1)
      | (go_at_call 60; refine (rdigit_any _ _).mono ?_; rintro e w1 ⟨rfl, hw⟩; subst w1)
      | (go_at_call 56; refine (P _).mono ?_; rintro e w1 ⟨rfl, hw⟩; subst w1)
      | (go_at_call 58; refine (RV _).mono ?_; rintro e w1 ⟨rfl, hw⟩; subst w1)
      | (go_at_call 62; refine (SV _).mono ?_; rintro e w1 ⟨rfl, hw⟩; subst w1))
    go_loopw [9] (fun c wr => ∃ k : Nat, c = .int .i64 k ∧ a + 1 ≤ k ∧ k ≤ s.size ∧ Hid (k + runN dg (s.data.toList.drop k) = e2) ∧ w.alloc (Obj.cells #[.int .i64 0, .string ⟨#[]⟩, .int .i64 0, .int .i64 0] 70) = wr) (fun c _ => s.size - (intOf c).toNat)
    case atStart => exact ⟨a + 1, by go_num, Nat.le_refl _, by omega, HE2, rfl⟩
    case round =>
      obtain ⟨k, rfl, hk1, hk2, HK, rfl⟩ := hrel
      by_cases hlt : k < s.size
      · exact absurd hlt (by omega)
      · obtain rfl : k = s.size := by omega
        obtain rfl : e2 = s.size := by have h1 := HK.out; rw [List.drop_eq_nil_of_le (by simp)] at h1; simp [runN] at h1; exact h1.symm
        go_wp2_with (go_at_call 61; refine (NA _).mono ?_; rintro e w1 ⟨rfl, hw⟩; subst w1)
        refine bodyPost_ret (v := .tuple #[tokV 4 ⟨#[]⟩ v a, .int .i64 s.size, .int .i64 0]) (by simp [results, Tryd.results38, go_sem, tokV]) rfl ⟨by rw [HX.out], ?_⟩
        go_grown

  · rw [nv] at HO
    have HX : Hid (readV (one (s.data.toList.drop a)) a = Value.tuple #[tokV 0 ⟨#[]⟩ 0 0, .int .i64 0, .int .i64 22]) := ⟨by rw [HO]; rfl⟩
    clear he2 HO nv
    go_enter Tryd.func38, Tryd.ntmps38
    go_wp2_with (first
      | (go_at_call 57; refine (rsmall_any _ _).mono ?_; rintro e w1 ⟨rfl, hw⟩; subst w1)
      | (go_at_call 59; refine (rlarge_any _ _).mono ?_; rintro e w1 ⟨rfl, hw⟩; subst w1)
      | (go_at_call 60; refine (rdigit_any _ _).mono ?_; rintro e w1 ⟨rfl, hw⟩; subst w1)
      | (go_at_call 56; refine (P _).mono ?_; rintro e w1 ⟨rfl, hw⟩; subst w1)
      | (go_at_call 58; refine (RV _).mono ?_; rintro e w1 ⟨rfl, hw⟩; subst w1)
      | (go_at_call 62; refine (SV _).mono ?_; rintro e w1 ⟨rfl, hw⟩; subst w1))
    go_loopw [9] (fun c wr => ∃ k : Nat, c = .int .i64 k ∧ a + 1 ≤ k ∧ k ≤ s.size ∧ Hid (k + runN dg (s.data.toList.drop k) = e2) ∧ w.alloc (Obj.cells #[.int .i64 0, .string ⟨#[]⟩, .int .i64 0, .int .i64 0] 70) = wr) (fun c _ => s.size - (intOf c).toNat)
    case atStart => exact ⟨a + 1, by go_num, Nat.le_refl _, by omega, HE2, rfl⟩
    case round =>
      obtain ⟨k, rfl, hk1, hk2, HK, rfl⟩ := hrel
      by_cases hlt : k < s.size
      · exact absurd hlt (by omega)
      · obtain rfl : k = s.size := by omega
        obtain rfl : e2 = s.size := by have h1 := HK.out; rw [List.drop_eq_nil_of_le (by simp)] at h1; simp [runN] at h1; exact h1.symm
        go_wp2_with (go_at_call 61; refine (NA _).mono ?_; rintro e w1 ⟨⟨x, rfl⟩, hw⟩; subst w1)
        refine bodyPost_ret (v := .tuple #[tokV 0 ⟨#[]⟩ 0 0, .int .i64 0, .int .i64 22]) (by simp [results, Tryd.results38, go_sem, tokV]) rfl ⟨by rw [HX.out], ?_⟩
        go_grown


set_option maxRecDepth 100000 in
set_option maxHeartbeats 4000000 in
theorem one_minus (s : ByteArray) (a : Nat) (h : a < s.size) (hs : s.size ≤ 281474976710656) (w : World) (h2 : a + 1 < s.size) (hc : ((s[a]'h).toNat : Int) = 45) (hn : dg ((s[a + 1]'h2).toNat : Int) = true) :
    Calls Tryd.prog 38 #[.string s, .int .i64 a] w fun e w' => e = .returned (readV (one (s.data.toList.drop a)) a) ∧ Below w.heap.size w w' := by
  have z0 : (a : Int) < s.size := by omega
  have z4 : (a : Int) ≤ s.size := by omega
  have z5 : (a : Int) + 1 ≤ s.size := by omega
  have sm0 : sm 0 = false := by decide
  have dg0 : dg 0 = false := by decide
  have sm35 : sm 35 = false := by decide
  have gr35 : gr 35 = false := by decide
  have dg35 : dg 35 = false := by decide
  have sm45 : sm 45 = false := by decide
  have gr45 : gr 45 = false := by decide
  have dg45 : dg 45 = false := by decide
  have z2 : (0 : Int) ≤ (a : Int) + 1 := by omega
  have z3 : ((a : Int) + 1).toNat = a + 1 := by omega
  have z1 : (a : Int) + 1 < s.size := by omega
  obtain ⟨e, he⟩ : ∃ e, a + runN rn (s.data.toList.drop a) = e := ⟨_, rfl⟩
  have P := fun w => run_any s a (by omega) (by omega) w
  have bd := run_bound rn s a (by omega)
  have tx : (s.extract a e).data.toList = (s.data.toList.drop a).take (runN rn (s.data.toList.drop a)) := by rw [← he]; exact ext_run s a _
  rw [he] at P bd
  have x1 : (e : Int) ≤ s.size := by omega
  have x2 : (a : Int) ≤ e := by omega
  have RV := fun w => reserved_any (s.extract a e) w
  have SV := fun w => rsign_any ⟨#[]⟩ w
  have hD : dg (s[a]'h).toNat = true ∨ ((s[a]'h).toNat = 45 ∧ dg (nxt (s.data.toList.drop (a + 1))) = true) := .inr ⟨by omega, by rw [nxt_of s (a + 1) h2]; exact hn⟩
  obtain ⟨e2, he2⟩ : ∃ e2, a + 1 + runN dg (s.data.toList.drop (a + 1)) = e2 := ⟨_, rfl⟩
  have bd2 := run_bound dg s (a + 1) (by omega)
  have tx2 : (s.extract a e2).data.toList = (s.data.toList.drop a).take (runN dg (s.data.toList.drop (a + 1)) + 1) := by rw [← he2, show a + 1 + runN dg (s.data.toList.drop (a + 1)) = a + (runN dg (s.data.toList.drop (a + 1)) + 1) by omega]; exact ext_run s a _
  have HE2 : Hid (a + 1 + runN dg (s.data.toList.drop (a + 1)) = e2) := ⟨he2⟩
  rw [he2] at bd2
  have x3 : (e2 : Int) ≤ s.size := by omega
  have x4 : (a : Int) ≤ e2 := by omega
  have tl : (s.extract a e2).data.toList = s[a]'h :: (s.data.toList.drop (a + 1)).take (runN dg (s.data.toList.drop (a + 1))) := by rw [tx2, get_list s a h, List.take_succ_cons]
  have NA := number_any (s.extract a e2) _ _ tl (run_all dg _) (hD.imp id (fun q => ⟨q.1, dig_ne q.2⟩)) (by rw [← size_list, tx2]; simp; omega)
  rw [← tl, tx2] at NA
  have HO := one_num (c := s[a]'h) (r := s.data.toList.drop (a + 1)) (by rw [hc]; decide) (by rw [hc]; decide) (by omega) hD
  rw [← get_list s a h] at HO
  clear tx2 tl hD he tx
  rcases NA with ⟨v, nv, NA⟩ | ⟨nv, NA⟩
  · rw [nv] at HO
    have HX : Hid (readV (one (s.data.toList.drop a)) a = Value.tuple #[tokV 4 ⟨#[]⟩ v a, .int .i64 e2, .int .i64 0]) := ⟨by
      rw [HO, readV, ← he2, show a + 1 + runN dg (s.data.toList.drop (a + 1)) = a + (runN dg (s.data.toList.drop (a + 1)) + 1) by omega]
      rfl⟩
    clear he2 HO nv
    go_enter Tryd.func38, Tryd.ntmps38
    go_wp2_with (first
      | (go_at_call 57; refine (rsmall_any _ _).mono ?_; rintro e w1 ⟨rfl, hw⟩; subst w1)
      | (go_at_call 59; refine (rlarge_any _ _).mono ?_; rintro e w1 ⟨rfl, hw⟩; subst w1)
      | (go_at_call 60; refine (rdigit_any _ _).mono ?_; rintro e w1 ⟨rfl, hw⟩; subst w1)
      | (go_at_call 56; refine (P _).mono ?_; rintro e w1 ⟨rfl, hw⟩; subst w1)
      | (go_at_call 58; refine (RV _).mono ?_; rintro e w1 ⟨rfl, hw⟩; subst w1)
      | (go_at_call 62; refine (SV _).mono ?_; rintro e w1 ⟨rfl, hw⟩; subst w1))
    go_loopw [9] (fun c wr => ∃ k : Nat, c = .int .i64 k ∧ a + 1 ≤ k ∧ k ≤ s.size ∧ Hid (k + runN dg (s.data.toList.drop k) = e2) ∧ w.alloc (Obj.cells #[.int .i64 0, .string ⟨#[]⟩, .int .i64 0, .int .i64 0] 70) = wr) (fun c _ => s.size - (intOf c).toNat)
    case atStart => exact ⟨a + 1, by go_num, Nat.le_refl _, by omega, HE2, rfl⟩
    case round =>
      obtain ⟨k, rfl, hk1, hk2, HK, rfl⟩ := hrel
      by_cases hlt : k < s.size
      · have Q := rdigit_any ((s[k]'hlt).toNat) (w.alloc (Obj.cells #[.int .i64 0, .string ⟨#[]⟩, .int .i64 0, .int .i64 0] 70))
        have E := run_step dg s k hlt
        obtain ⟨b, hb⟩ : ∃ b, dg ((s[k]'hlt).toNat) = b := ⟨_, rfl⟩
        rw [hb] at Q E
        clear hb
        have HE : Hid (runN dg (s.data.toList.drop k) = if b then runN dg (s.data.toList.drop (k + 1)) + 1 else 0) := ⟨E⟩
        clear E
        cases b
        · obtain rfl : e2 = k := by have h1 := HK.out; rw [HE.out] at h1; simp at h1; exact h1.symm
          go_wp2_with (first | (go_at_call 60; refine Q.mono ?_; rintro e w1 ⟨rfl, hw⟩; subst w1) | (go_at_call 61; refine (NA _).mono ?_; rintro e w1 ⟨rfl, hw⟩; subst w1))
          refine bodyPost_ret (v := .tuple #[tokV 4 ⟨#[]⟩ v a, .int .i64 e2, .int .i64 0]) (by simp [results, Tryd.results38, go_sem, tokV]) rfl ⟨by rw [HX.out], ?_⟩
          go_grown
        · go_wp2_with (go_at_call 60; refine Q.mono ?_; rintro e w1 ⟨rfl, hw⟩; subst w1)
          go_roundw
          case rel => exact ⟨k + 1, by go_num, by omega, by omega, ⟨by have h1 := HK.out; rw [HE.out] at h1; simp at h1; omega⟩, by first | rfl | trivial⟩
          case measure => simp [intOf]; omega
      · obtain rfl : k = s.size := by omega
        obtain rfl : e2 = s.size := by have h1 := HK.out; rw [List.drop_eq_nil_of_le (by simp)] at h1; simp [runN] at h1; exact h1.symm
        go_wp2_with (go_at_call 61; refine (NA _).mono ?_; rintro e w1 ⟨rfl, hw⟩; subst w1)
        refine bodyPost_ret (v := .tuple #[tokV 4 ⟨#[]⟩ v a, .int .i64 s.size, .int .i64 0]) (by simp [results, Tryd.results38, go_sem, tokV]) rfl ⟨by rw [HX.out], ?_⟩
        go_grown

  · rw [nv] at HO
    have HX : Hid (readV (one (s.data.toList.drop a)) a = Value.tuple #[tokV 0 ⟨#[]⟩ 0 0, .int .i64 0, .int .i64 22]) := ⟨by rw [HO]; rfl⟩
    clear he2 HO nv
    go_enter Tryd.func38, Tryd.ntmps38
    go_wp2_with (first
      | (go_at_call 57; refine (rsmall_any _ _).mono ?_; rintro e w1 ⟨rfl, hw⟩; subst w1)
      | (go_at_call 59; refine (rlarge_any _ _).mono ?_; rintro e w1 ⟨rfl, hw⟩; subst w1)
      | (go_at_call 60; refine (rdigit_any _ _).mono ?_; rintro e w1 ⟨rfl, hw⟩; subst w1)
      | (go_at_call 56; refine (P _).mono ?_; rintro e w1 ⟨rfl, hw⟩; subst w1)
      | (go_at_call 58; refine (RV _).mono ?_; rintro e w1 ⟨rfl, hw⟩; subst w1)
      | (go_at_call 62; refine (SV _).mono ?_; rintro e w1 ⟨rfl, hw⟩; subst w1))
    go_loopw [9] (fun c wr => ∃ k : Nat, c = .int .i64 k ∧ a + 1 ≤ k ∧ k ≤ s.size ∧ Hid (k + runN dg (s.data.toList.drop k) = e2) ∧ w.alloc (Obj.cells #[.int .i64 0, .string ⟨#[]⟩, .int .i64 0, .int .i64 0] 70) = wr) (fun c _ => s.size - (intOf c).toNat)
    case atStart => exact ⟨a + 1, by go_num, Nat.le_refl _, by omega, HE2, rfl⟩
    case round =>
      obtain ⟨k, rfl, hk1, hk2, HK, rfl⟩ := hrel
      by_cases hlt : k < s.size
      · have Q := rdigit_any ((s[k]'hlt).toNat) (w.alloc (Obj.cells #[.int .i64 0, .string ⟨#[]⟩, .int .i64 0, .int .i64 0] 70))
        have E := run_step dg s k hlt
        obtain ⟨b, hb⟩ : ∃ b, dg ((s[k]'hlt).toNat) = b := ⟨_, rfl⟩
        rw [hb] at Q E
        clear hb
        have HE : Hid (runN dg (s.data.toList.drop k) = if b then runN dg (s.data.toList.drop (k + 1)) + 1 else 0) := ⟨E⟩
        clear E
        cases b
        · obtain rfl : e2 = k := by have h1 := HK.out; rw [HE.out] at h1; simp at h1; exact h1.symm
          go_wp2_with (first | (go_at_call 60; refine Q.mono ?_; rintro e w1 ⟨rfl, hw⟩; subst w1) | (go_at_call 61; refine (NA _).mono ?_; rintro e w1 ⟨⟨x, rfl⟩, hw⟩; subst w1))
          refine bodyPost_ret (v := .tuple #[tokV 0 ⟨#[]⟩ 0 0, .int .i64 0, .int .i64 22]) (by simp [results, Tryd.results38, go_sem, tokV]) rfl ⟨by rw [HX.out], ?_⟩
          go_grown
        · go_wp2_with (go_at_call 60; refine Q.mono ?_; rintro e w1 ⟨rfl, hw⟩; subst w1)
          go_roundw
          case rel => exact ⟨k + 1, by go_num, by omega, by omega, ⟨by have h1 := HK.out; rw [HE.out] at h1; simp at h1; omega⟩, by first | rfl | trivial⟩
          case measure => simp [intOf]; omega
      · obtain rfl : k = s.size := by omega
        obtain rfl : e2 = s.size := by have h1 := HK.out; rw [List.drop_eq_nil_of_le (by simp)] at h1; simp [runN] at h1; exact h1.symm
        go_wp2_with (go_at_call 61; refine (NA _).mono ?_; rintro e w1 ⟨⟨x, rfl⟩, hw⟩; subst w1)
        refine bodyPost_ret (v := .tuple #[tokV 0 ⟨#[]⟩ 0 0, .int .i64 0, .int .i64 22]) (by simp [results, Tryd.results38, go_sem, tokV]) rfl ⟨by rw [HX.out], ?_⟩
        go_grown


end Go.Proofs.YtcbdolflgpmaoaaDoor

