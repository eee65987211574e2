/- The document's own reading of one token: signs, and what is none; all together. -/
import Derived.Test.YtcbdolflgpmaoaaDoorOneNums
import Derived.Laws.DeepStrings4
namespace Go.Proofs.YtcbdolflgpmaoaaDoor
open Go.RowKit
set_option linter.unusedVariables false

set_option maxRecDepth 100000 in
set_option maxHeartbeats 4000000 in
theorem one_hash_n_y (s : ByteArray) (a : Nat) (h : a < s.size) (hs : s.size ≤ 281474976710656) (w : World) (h2 : a + 1 < s.size) (hc : ((s[a]'h).toNat : Int) = 35) (hn : sm ((s[a + 1]'h2).toNat : Int) = false) (hsg : sg ((s[a]'h).toNat : Int) = true) :
    Calls Tryd.prog 38 #[.string s, .int .i64 a] w fun e w' => e = .returned (readV (one (s.data.toList.drop a)) a) ∧ Below w.heap.size w w' := by
  have z0 : (a : Int) < s.size := by omega
  have z4 : (a : Int) ≤ s.size := by omega
  have z5 : (a : Int) + 1 ≤ s.size := by omega
  have sm0 : sm 0 = false := by decide
  have dg0 : dg 0 = false := by decide
  have sm35 : sm 35 = false := by decide
  have gr35 : gr 35 = false := by decide
  have dg35 : dg 35 = false := by decide
  have sm45 : sm 45 = false := by decide
  have gr45 : gr 45 = false := by decide
  have dg45 : dg 45 = false := by decide
  have z2 : (0 : Int) ≤ (a : Int) + 1 := by omega
  have z3 : ((a : Int) + 1).toNat = a + 1 := by omega
  have z1 : (a : Int) + 1 < s.size := by omega
  obtain ⟨e, he⟩ : ∃ e, a + runN rn (s.data.toList.drop a) = e := ⟨_, rfl⟩
  have P := fun w => run_any s a (by omega) (by omega) w
  have bd := run_bound rn s a (by omega)
  have tx : (s.extract a e).data.toList = (s.data.toList.drop a).take (runN rn (s.data.toList.drop a)) := by rw [← he]; exact ext_run s a _
  rw [he] at P bd
  have x1 : (e : Int) ≤ s.size := by omega
  have x2 : (a : Int) ≤ e := by omega
  have RV := fun w => reserved_any (s.extract a e) w
  have SV := fun w => rsign_any (s.extract a (a + 1)) w
  have t1 : (s.extract a (a + 1)).data.toList = [s[a]'h] := by rw [ext_run, get_list s a h, List.take_succ_cons, List.take_zero]
  rw [t1, signB_one, hsg] at SV
  have HO := one_sign (c := s[a]'h) (r := s.data.toList.drop (a + 1)) (by rw [hc]; decide) (by rw [hc]; decide) (by rw [nxt_of s (a + 1) h2]; rintro ⟨_, q⟩; rw [hn] at q; cases q) (by rw [hc]; rintro (q | ⟨q, _⟩); (exact absurd q (by decide)); omega)
  rw [← get_list s a h, if_neg (by omega), hsg] at HO
  have HX : Hid (readV (one (s.data.toList.drop a)) a = Value.tuple #[tokV 5 (s.extract a (a + 1)) 0 a, .int .i64 ((a : Int) + 1), .int .i64 0]) := ⟨by rw [HO, str_eq t1]; rfl⟩
  clear HO t1 he tx
  go_enter Tryd.func38, Tryd.ntmps38
  go_wp2_with (first
    | (go_at_call 57; refine (rsmall_any _ _).mono ?_; rintro e w1 ⟨rfl, hw⟩; subst w1)
    | (go_at_call 59; refine (rlarge_any _ _).mono ?_; rintro e w1 ⟨rfl, hw⟩; subst w1)
    | (go_at_call 60; refine (rdigit_any _ _).mono ?_; rintro e w1 ⟨rfl, hw⟩; subst w1)
    | (go_at_call 56; refine (P _).mono ?_; rintro e w1 ⟨rfl, hw⟩; subst w1)
    | (go_at_call 58; refine (RV _).mono ?_; rintro e w1 ⟨rfl, hw⟩; subst w1)
    | (go_at_call 62; refine (SV _).mono ?_; rintro e w1 ⟨rfl, hw⟩; subst w1))
  refine bodyPost_ret (v := Value.tuple #[tokV 5 (s.extract a (a + 1)) 0 a, .int .i64 ((a : Int) + 1), .int .i64 0]) (by simp [results, Tryd.results38, go_sem, tokV]) rfl ⟨by rw [HX.out], ?_⟩
  go_grown

set_option maxRecDepth 100000 in
set_option maxHeartbeats 4000000 in
theorem one_hash_n_n (s : ByteArray) (a : Nat) (h : a < s.size) (hs : s.size ≤ 281474976710656) (w : World) (h2 : a + 1 < s.size) (hc : ((s[a]'h).toNat : Int) = 35) (hn : sm ((s[a + 1]'h2).toNat : Int) = false) (hsg : sg ((s[a]'h).toNat : Int) = false) :
    Calls Tryd.prog 38 #[.string s, .int .i64 a] w fun e w' => e = .returned (readV (one (s.data.toList.drop a)) a) ∧ Below w.heap.size w w' := by
  have z0 : (a : Int) < s.size := by omega
  have z4 : (a : Int) ≤ s.size := by omega
  have z5 : (a : Int) + 1 ≤ s.size := by omega
  have sm0 : sm 0 = false := by decide
  have dg0 : dg 0 = false := by decide
  have sm35 : sm 35 = false := by decide
  have gr35 : gr 35 = false := by decide
  have dg35 : dg 35 = false := by decide
  have sm45 : sm 45 = false := by decide
  have gr45 : gr 45 = false := by decide
  have dg45 : dg 45 = false := by decide
  have z2 : (0 : Int) ≤ (a : Int) + 1 := by omega
  have z3 : ((a : Int) + 1).toNat = a + 1 := by omega
  have z1 : (a : Int) + 1 < s.size := by omega
  obtain ⟨e, he⟩ : ∃ e, a + runN rn (s.data.toList.drop a) = e := ⟨_, rfl⟩
  have P := fun w => run_any s a (by omega) (by omega) w
  have bd := run_bound rn s a (by omega)
  have tx : (s.extract a e).data.toList = (s.data.toList.drop a).take (runN rn (s.data.toList.drop a)) := by rw [← he]; exact ext_run s a _
  rw [he] at P bd
  have x1 : (e : Int) ≤ s.size := by omega
  have x2 : (a : Int) ≤ e := by omega
  have RV := fun w => reserved_any (s.extract a e) w
  have SV := fun w => rsign_any (s.extract a (a + 1)) w
  have t1 : (s.extract a (a + 1)).data.toList = [s[a]'h] := by rw [ext_run, get_list s a h, List.take_succ_cons, List.take_zero]
  rw [t1, signB_one, hsg] at SV
  have HO := one_sign (c := s[a]'h) (r := s.data.toList.drop (a + 1)) (by rw [hc]; decide) (by rw [hc]; decide) (by rw [nxt_of s (a + 1) h2]; rintro ⟨_, q⟩; rw [hn] at q; cases q) (by rw [hc]; rintro (q | ⟨q, _⟩); (exact absurd q (by decide)); omega)
  rw [← get_list s a h, if_neg (by omega), hsg] at HO
  have HX : Hid (readV (one (s.data.toList.drop a)) a = Value.tuple #[tokV 0 ⟨#[]⟩ 0 0, .int .i64 0, .int .i64 20]) := ⟨by rw [HO]; rfl⟩
  clear HO t1 he tx
  go_enter Tryd.func38, Tryd.ntmps38
  go_wp2_with (first
    | (go_at_call 57; refine (rsmall_any _ _).mono ?_; rintro e w1 ⟨rfl, hw⟩; subst w1)
    | (go_at_call 59; refine (rlarge_any _ _).mono ?_; rintro e w1 ⟨rfl, hw⟩; subst w1)
    | (go_at_call 60; refine (rdigit_any _ _).mono ?_; rintro e w1 ⟨rfl, hw⟩; subst w1)
    | (go_at_call 56; refine (P _).mono ?_; rintro e w1 ⟨rfl, hw⟩; subst w1)
    | (go_at_call 58; refine (RV _).mono ?_; rintro e w1 ⟨rfl, hw⟩; subst w1)
    | (go_at_call 62; refine (SV _).mono ?_; rintro e w1 ⟨rfl, hw⟩; subst w1))
  refine bodyPost_ret (v := Value.tuple #[tokV 0 ⟨#[]⟩ 0 0, .int .i64 0, .int .i64 20]) (by simp [results, Tryd.results38, go_sem, tokV]) rfl ⟨by rw [HX.out], ?_⟩
  go_grown

set_option maxRecDepth 100000 in
set_option maxHeartbeats 4000000 in
theorem one_hash_e_y (s : ByteArray) (a : Nat) (h : a < s.size) (hs : s.size ≤ 281474976710656) (w : World) (h2 : ¬ a + 1 < s.size) (hc : ((s[a]'h).toNat : Int) = 35) (hsg : sg ((s[a]'h).toNat : Int) = true) :
    Calls Tryd.prog 38 #[.string s, .int .i64 a] w fun e w' => e = .returned (readV (one (s.data.toList.drop a)) a) ∧ Below w.heap.size w w' := by
  have z0 : (a : Int) < s.size := by omega
  have z4 : (a : Int) ≤ s.size := by omega
  have z5 : (a : Int) + 1 ≤ s.size := by omega
  have sm0 : sm 0 = false := by decide
  have dg0 : dg 0 = false := by decide
  have sm35 : sm 35 = false := by decide
  have gr35 : gr 35 = false := by decide
  have dg35 : dg 35 = false := by decide
  have sm45 : sm 45 = false := by decide
  have gr45 : gr 45 = false := by decide
  have dg45 : dg 45 = false := by decide
  have z2 : (0 : Int) ≤ (a : Int) + 1 := by omega
  have z3 : ((a : Int) + 1).toNat = a + 1 := by omega
  have z1 : ¬ (a : Int) + 1 < s.size := by omega
  obtain ⟨e, he⟩ : ∃ e, a + runN rn (s.data.toList.drop a) = e := ⟨_, rfl⟩
  have P := fun w => run_any s a (by omega) (by omega) w
  have bd := run_bound rn s a (by omega)
  have tx : (s.extract a e).data.toList = (s.data.toList.drop a).take (runN rn (s.data.toList.drop a)) := by rw [← he]; exact ext_run s a _
  rw [he] at P bd
  have x1 : (e : Int) ≤ s.size := by omega
  have x2 : (a : Int) ≤ e := by omega
  have RV := fun w => reserved_any (s.extract a e) w
  have SV := fun w => rsign_any (s.extract a (a + 1)) w
  have t1 : (s.extract a (a + 1)).data.toList = [s[a]'h] := by rw [ext_run, get_list s a h, List.take_succ_cons, List.take_zero]
  rw [t1, signB_one, hsg] at SV
  have HO := one_sign (c := s[a]'h) (r := s.data.toList.drop (a + 1)) (by rw [hc]; decide) (by rw [hc]; decide) (by rw [nxt_end s (a + 1) h2]; rintro ⟨_, q⟩; exact absurd q (by decide)) (by rw [hc]; rintro (q | ⟨q, _⟩); (exact absurd q (by decide)); omega)
  rw [← get_list s a h, if_neg (by omega), hsg] at HO
  have HX : Hid (readV (one (s.data.toList.drop a)) a = Value.tuple #[tokV 5 (s.extract a (a + 1)) 0 a, .int .i64 ((a : Int) + 1), .int .i64 0]) := ⟨by rw [HO, str_eq t1]; rfl⟩
  clear HO t1 he tx
  go_enter Tryd.func38, Tryd.ntmps38
  go_wp2_with (first
    | (go_at_call 57; refine (rsmall_any _ _).mono ?_; rintro e w1 ⟨rfl, hw⟩; subst w1)
    | (go_at_call 59; refine (rlarge_any _ _).mono ?_; rintro e w1 ⟨rfl, hw⟩; subst w1)
    | (go_at_call 60; refine (rdigit_any _ _).mono ?_; rintro e w1 ⟨rfl, hw⟩; subst w1)
    | (go_at_call 56; refine (P _).mono ?_; rintro e w1 ⟨rfl, hw⟩; subst w1)
    | (go_at_call 58; refine (RV _).mono ?_; rintro e w1 ⟨rfl, hw⟩; subst w1)
    | (go_at_call 62; refine (SV _).mono ?_; rintro e w1 ⟨rfl, hw⟩; subst w1))
  refine bodyPost_ret (v := Value.tuple #[tokV 5 (s.extract a (a + 1)) 0 a, .int .i64 ((a : Int) + 1), .int .i64 0]) (by simp [results, Tryd.results38, go_sem, tokV]) rfl ⟨by rw [HX.out], ?_⟩
  go_grown

set_option maxRecDepth 100000 in
set_option maxHeartbeats 4000000 in
theorem one_hash_e_n (s : ByteArray) (a : Nat) (h : a < s.size) (hs : s.size ≤ 281474976710656) (w : World) (h2 : ¬ a + 1 < s.size) (hc : ((s[a]'h).toNat : Int) = 35) (hsg : sg ((s[a]'h).toNat : Int) = false) :
    Calls Tryd.prog 38 #[.string s, .int .i64 a] w fun e w' => e = .returned (readV (one (s.data.toList.drop a)) a) ∧ Below w.heap.size w w' := by
  have z0 : (a : Int) < s.size := by omega
  have z4 : (a : Int) ≤ s.size := by omega
  have z5 : (a : Int) + 1 ≤ s.size := by omega
  have sm0 : sm 0 = false := by decide
  have dg0 : dg 0 = false := by decide
  have sm35 : sm 35 = false := by decide
  have gr35 : gr 35 = false := by decide
  have dg35 : dg 35 = false := by decide
  have sm45 : sm 45 = false := by decide
  have gr45 : gr 45 = false := by decide
  have dg45 : dg 45 = false := by decide
  have z2 : (0 : Int) ≤ (a : Int) + 1 := by omega
  have z3 : ((a : Int) + 1).toNat = a + 1 := by omega
  have z1 : ¬ (a : Int) + 1 < s.size := by omega
  obtain ⟨e, he⟩ : ∃ e, a + runN rn (s.data.toList.drop a) = e := ⟨_, rfl⟩
  have P := fun w => run_any s a (by omega) (by omega) w
  have bd := run_bound rn s a (by omega)
  have tx : (s.extract a e).data.toList = (s.data.toList.drop a).take (runN rn (s.data.toList.drop a)) := by rw [← he]; exact ext_run s a _
  rw [he] at P bd
  have x1 : (e : Int) ≤ s.size := by omega
  have x2 : (a : Int) ≤ e := by omega
  have RV := fun w => reserved_any (s.extract a e) w
  have SV := fun w => rsign_any (s.extract a (a + 1)) w
  have t1 : (s.extract a (a + 1)).data.toList = [s[a]'h] := by rw [ext_run, get_list s a h, List.take_succ_cons, List.take_zero]
  rw [t1, signB_one, hsg] at SV
  have HO := one_sign (c := s[a]'h) (r := s.data.toList.drop (a + 1)) (by rw [hc]; decide) (by rw [hc]; decide) (by rw [nxt_end s (a + 1) h2]; rintro ⟨_, q⟩; exact absurd q (by decide)) (by rw [hc]; rintro (q | ⟨q, _⟩); (exact absurd q (by decide)); omega)
  rw [← get_list s a h, if_neg (by omega), hsg] at HO
  have HX : Hid (readV (one (s.data.toList.drop a)) a = Value.tuple #[tokV 0 ⟨#[]⟩ 0 0, .int .i64 0, .int .i64 20]) := ⟨by rw [HO]; rfl⟩
  clear HO t1 he tx
  go_enter Tryd.func38, Tryd.ntmps38
  go_wp2_with (first
    | (go_at_call 57; refine (rsmall_any _ _).mono ?_; rintro e w1 ⟨rfl, hw⟩; subst w1)
    | (go_at_call 59; refine (rlarge_any _ _).mono ?_; rintro e w1 ⟨rfl, hw⟩; subst w1)
    | (go_at_call 60; refine (rdigit_any _ _).mono ?_; rintro e w1 ⟨rfl, hw⟩; subst w1)
    | (go_at_call 56; refine (P _).mono ?_; rintro e w1 ⟨rfl, hw⟩; subst w1)
    | (go_at_call 58; refine (RV _).mono ?_; rintro e w1 ⟨rfl, hw⟩; subst w1)
    | (go_at_call 62; refine (SV _).mono ?_; rintro e w1 ⟨rfl, hw⟩; subst w1))
  refine bodyPost_ret (v := Value.tuple #[tokV 0 ⟨#[]⟩ 0 0, .int .i64 0, .int .i64 20]) (by simp [results, Tryd.results38, go_sem, tokV]) rfl ⟨by rw [HX.out], ?_⟩
  go_grown

set_option maxRecDepth 100000 in
set_option maxHeartbeats 4000000 in
theorem one_dash_n_y (s : ByteArray) (a : Nat) (h : a < s.size) (hs : s.size ≤ 281474976710656) (w : World) (h2 : a + 1 < s.size) (hc : ((s[a]'h).toNat : Int) = 45) (hn : dg ((s[a + 1]'h2).toNat : Int) = false) (ha : ¬ ((s[a + 1]'h2).toNat : Int) = 62) (hsg : sg ((s[a]'h).toNat : Int) = true) :
    Calls Tryd.prog 38 #[.string s, .int .i64 a] w fun e w' => e = .returned (readV (one (s.data.toList.drop a)) a) ∧ Below w.heap.size w w' := by
  have z0 : (a : Int) < s.size := by omega
  have z4 : (a : Int) ≤ s.size := by omega
  have z5 : (a : Int) + 1 ≤ s.size := by omega
  have sm0 : sm 0 = false := by decide
  have dg0 : dg 0 = false := by decide
  have sm35 : sm 35 = false := by decide
  have gr35 : gr 35 = false := by decide
  have dg35 : dg 35 = false := by decide
  have sm45 : sm 45 = false := by decide
  have gr45 : gr 45 = false := by decide
  have dg45 : dg 45 = false := by decide
  have z2 : (0 : Int) ≤ (a : Int) + 1 := by omega
  have z3 : ((a : Int) + 1).toNat = a + 1 := by omega
  have z1 : (a : Int) + 1 < s.size := by omega
  obtain ⟨e, he⟩ : ∃ e, a + runN rn (s.data.toList.drop a) = e := ⟨_, rfl⟩
  have P := fun w => run_any s a (by omega) (by omega) w
  have bd := run_bound rn s a (by omega)
  have tx : (s.extract a e).data.toList = (s.data.toList.drop a).take (runN rn (s.data.toList.drop a)) := by rw [← he]; exact ext_run s a _
  rw [he] at P bd
  have x1 : (e : Int) ≤ s.size := by omega
  have x2 : (a : Int) ≤ e := by omega
  have RV := fun w => reserved_any (s.extract a e) w
  have SV := fun w => rsign_any (s.extract a (a + 1)) w
  have t1 : (s.extract a (a + 1)).data.toList = [s[a]'h] := by rw [ext_run, get_list s a h, List.take_succ_cons, List.take_zero]
  rw [t1, signB_one, hsg] at SV
  have HO := one_sign (c := s[a]'h) (r := s.data.toList.drop (a + 1)) (by rw [hc]; decide) (by rw [hc]; decide) (by omega) (by rw [nxt_of s (a + 1) h2, hc]; rintro (q | ⟨_, q⟩); (exact absurd q (by decide)); (rw [hn] at q; cases q))
  rw [← get_list s a h, if_neg (by rw [nxt_of s (a + 1) h2]; omega), hsg] at HO
  have HX : Hid (readV (one (s.data.toList.drop a)) a = Value.tuple #[tokV 5 (s.extract a (a + 1)) 0 a, .int .i64 ((a : Int) + 1), .int .i64 0]) := ⟨by rw [HO, str_eq t1]; rfl⟩
  clear HO t1 he tx
  go_enter Tryd.func38, Tryd.ntmps38
  go_wp2_with (first
    | (go_at_call 57; refine (rsmall_any _ _).mono ?_; rintro e w1 ⟨rfl, hw⟩; subst w1)
    | (go_at_call 59; refine (rlarge_any _ _).mono ?_; rintro e w1 ⟨rfl, hw⟩; subst w1)
    | (go_at_call 60; refine (rdigit_any _ _).mono ?_; rintro e w1 ⟨rfl, hw⟩; subst w1)
    | (go_at_call 56; refine (P _).mono ?_; rintro e w1 ⟨rfl, hw⟩; subst w1)
    | (go_at_call 58; refine (RV _).mono ?_; rintro e w1 ⟨rfl, hw⟩; subst w1)
    | (go_at_call 62; refine (SV _).mono ?_; rintro e w1 ⟨rfl, hw⟩; subst w1))
  refine bodyPost_ret (v := Value.tuple #[tokV 5 (s.extract a (a + 1)) 0 a, .int .i64 ((a : Int) + 1), .int .i64 0]) (by simp [results, Tryd.results38, go_sem, tokV]) rfl ⟨by rw [HX.out], ?_⟩
  go_grown

set_option maxRecDepth 100000 in
set_option maxHeartbeats 4000000 in
theorem one_dash_n_n (s : ByteArray) (a : Nat) (h : a < s.size) (hs : s.size ≤ 281474976710656) (w : World) (h2 : a + 1 < s.size) (hc : ((s[a]'h).toNat : Int) = 45) (hn : dg ((s[a + 1]'h2).toNat : Int) = false) (ha : ¬ ((s[a + 1]'h2).toNat : Int) = 62) (hsg : sg ((s[a]'h).toNat : Int) = false) :
    Calls Tryd.prog 38 #[.string s, .int .i64 a] w fun e w' => e = .returned (readV (one (s.data.toList.drop a)) a) ∧ Below w.heap.size w w' := by
  have z0 : (a : Int) < s.size := by omega
  have z4 : (a : Int) ≤ s.size := by omega
  have z5 : (a : Int) + 1 ≤ s.size := by omega
  have sm0 : sm 0 = false := by decide
  have dg0 : dg 0 = false := by decide
  have sm35 : sm 35 = false := by decide
  have gr35 : gr 35 = false := by decide
  have dg35 : dg 35 = false := by decide
  have sm45 : sm 45 = false := by decide
  have gr45 : gr 45 = false := by decide
  have dg45 : dg 45 = false := by decide
  have z2 : (0 : Int) ≤ (a : Int) + 1 := by omega
  have z3 : ((a : Int) + 1).toNat = a + 1 := by omega
  have z1 : (a : Int) + 1 < s.size := by omega
  obtain ⟨e, he⟩ : ∃ e, a + runN rn (s.data.toList.drop a) = e := ⟨_, rfl⟩
  have P := fun w => run_any s a (by omega) (by omega) w
  have bd := run_bound rn s a (by omega)
  have tx : (s.extract a e).data.toList = (s.data.toList.drop a).take (runN rn (s.data.toList.drop a)) := by rw [← he]; exact ext_run s a _
  rw [he] at P bd
  have x1 : (e : Int) ≤ s.size := by omega
  have x2 : (a : Int) ≤ e := by omega
  have RV := fun w => reserved_any (s.extract a e) w
  have SV := fun w => rsign_any (s.extract a (a + 1)) w
  have t1 : (s.extract a (a + 1)).data.toList = [s[a]'h] := by rw [ext_run, get_list s a h, List.take_succ_cons, List.take_zero]
  rw [t1, signB_one, hsg] at SV
  have HO := one_sign (c := s[a]'h) (r := s.data.toList.drop (a + 1)) (by rw [hc]; decide) (by rw [hc]; decide) (by omega) (by rw [nxt_of s (a + 1) h2, hc]; rintro (q | ⟨_, q⟩); (exact absurd q (by decide)); (rw [hn] at q; cases q))
  rw [← get_list s a h, if_neg (by rw [nxt_of s (a + 1) h2]; omega), hsg] at HO
  have HX : Hid (readV (one (s.data.toList.drop a)) a = Value.tuple #[tokV 0 ⟨#[]⟩ 0 0, .int .i64 0, .int .i64 20]) := ⟨by rw [HO]; rfl⟩
  clear HO t1 he tx
  go_enter Tryd.func38, Tryd.ntmps38
  go_wp2_with (first
    | (go_at_call 57; refine (rsmall_any _ _).mono ?_; rintro e w1 ⟨rfl, hw⟩; subst w1)
    | (go_at_call 59; refine (rlarge_any _ _).mono ?_; rintro e w1 ⟨rfl, hw⟩; subst w1)
    | (go_at_call 60; refine (rdigit_any _ _).mono ?_; rintro e w1 ⟨rfl, hw⟩; subst w1)
    | (go_at_call 56; refine (P _).mono ?_; rintro e w1 ⟨rfl, hw⟩; subst w1)
    | (go_at_call 58; refine (RV _).mono ?_; rintro e w1 ⟨rfl, hw⟩; subst w1)
    | (go_at_call 62; refine (SV _).mono ?_; rintro e w1 ⟨rfl, hw⟩; subst w1))
  refine bodyPost_ret (v := Value.tuple #[tokV 0 ⟨#[]⟩ 0 0, .int .i64 0, .int .i64 20]) (by simp [results, Tryd.results38, go_sem, tokV]) rfl ⟨by rw [HX.out], ?_⟩
  go_grown

set_option maxRecDepth 100000 in
set_option maxHeartbeats 4000000 in
theorem one_dash_e_y (s : ByteArray) (a : Nat) (h : a < s.size) (hs : s.size ≤ 281474976710656) (w : World) (h2 : ¬ a + 1 < s.size) (hc : ((s[a]'h).toNat : Int) = 45) (hsg : sg ((s[a]'h).toNat : Int) = true) :
    Calls Tryd.prog 38 #[.string s, .int .i64 a] w fun e w' => e = .returned (readV (one (s.data.toList.drop a)) a) ∧ Below w.heap.size w w' := by
  have z0 : (a : Int) < s.size := by omega
  have z4 : (a : Int) ≤ s.size := by omega
  have z5 : (a : Int) + 1 ≤ s.size := by omega
  have sm0 : sm 0 = false := by decide
  have dg0 : dg 0 = false := by decide
  have sm35 : sm 35 = false := by decide
  have gr35 : gr 35 = false := by decide
  have dg35 : dg 35 = false := by decide
  have sm45 : sm 45 = false := by decide
  have gr45 : gr 45 = false := by decide
  have dg45 : dg 45 = false := by decide
  have z2 : (0 : Int) ≤ (a : Int) + 1 := by omega
  have z3 : ((a : Int) + 1).toNat = a + 1 := by omega
  have z1 : ¬ (a : Int) + 1 < s.size := by omega
  obtain ⟨e, he⟩ : ∃ e, a + runN rn (s.data.toList.drop a) = e := ⟨_, rfl⟩
  have P := fun w => run_any s a (by omega) (by omega) w
  have bd := run_bound rn s a (by omega)
  have tx : (s.extract a e).data.toList = (s.data.toList.drop a).take (runN rn (s.data.toList.drop a)) := by rw [← he]; exact ext_run s a _
  rw [he] at P bd
  have x1 : (e : Int) ≤ s.size := by omega
  have x2 : (a : Int) ≤ e := by omega
  have RV := fun w => reserved_any (s.extract a e) w
  have SV := fun w => rsign_any (s.extract a (a + 1)) w
  have t1 : (s.extract a (a + 1)).data.toList = [s[a]'h] := by rw [ext_run, get_list s a h, List.take_succ_cons, List.take_zero]
  rw [t1, signB_one, hsg] at SV
  have HO := one_sign (c := s[a]'h) (r := s.data.toList.drop (a + 1)) (by rw [hc]; decide) (by rw [hc]; decide) (by omega) (by rw [nxt_end s (a + 1) h2, hc]; rintro (q | ⟨_, q⟩); (exact absurd q (by decide)); (exact absurd q (by decide)))
  rw [← get_list s a h, if_neg (by rw [nxt_end s (a + 1) h2]; omega), hsg] at HO
  have HX : Hid (readV (one (s.data.toList.drop a)) a = Value.tuple #[tokV 5 (s.extract a (a + 1)) 0 a, .int .i64 ((a : Int) + 1), .int .i64 0]) := ⟨by rw [HO, str_eq t1]; rfl⟩
  clear HO t1 he tx
  go_enter Tryd.func38, Tryd.ntmps38
  go_wp2_with (first
    | (go_at_call 57; refine (rsmall_any _ _).mono ?_; rintro e w1 ⟨rfl, hw⟩; subst w1)
    | (go_at_call 59; refine (rlarge_any _ _).mono ?_; rintro e w1 ⟨rfl, hw⟩; subst w1)
    | (go_at_call 60; refine (rdigit_any _ _).mono ?_; rintro e w1 ⟨rfl, hw⟩; subst w1)
    | (go_at_call 56; refine (P _).mono ?_; rintro e w1 ⟨rfl, hw⟩; subst w1)
    | (go_at_call 58; refine (RV _).mono ?_; rintro e w1 ⟨rfl, hw⟩; subst w1)
    | (go_at_call 62; refine (SV _).mono ?_; rintro e w1 ⟨rfl, hw⟩; subst w1))
  refine bodyPost_ret (v := Value.tuple #[tokV 5 (s.extract a (a + 1)) 0 a, .int .i64 ((a : Int) + 1), .int .i64 0]) (by simp [results, Tryd.results38, go_sem, tokV]) rfl ⟨by rw [HX.out], ?_⟩
  go_grown

set_option maxRecDepth 100000 in
set_option maxHeartbeats 4000000 in
theorem one_dash_e_n (s : ByteArray) (a : Nat) (h : a < s.size) (hs : s.size ≤ 281474976710656) (w : World) (h2 : ¬ a + 1 < s.size) (hc : ((s[a]'h).toNat : Int) = 45) (hsg : sg ((s[a]'h).toNat : Int) = false) :
    Calls Tryd.prog 38 #[.string s, .int .i64 a] w fun e w' => e = .returned (readV (one (s.data.toList.drop a)) a) ∧ Below w.heap.size w w' := by
  have z0 : (a : Int) < s.size := by omega
  have z4 : (a : Int) ≤ s.size := by omega
  have z5 : (a : Int) + 1 ≤ s.size := by omega
  have sm0 : sm 0 = false := by decide
  have dg0 : dg 0 = false := by decide
  have sm35 : sm 35 = false := by decide
  have gr35 : gr 35 = false := by decide
  have dg35 : dg 35 = false := by decide
  have sm45 : sm 45 = false := by decide
  have gr45 : gr 45 = false := by decide
  have dg45 : dg 45 = false := by decide
  have z2 : (0 : Int) ≤ (a : Int) + 1 := by omega
  have z3 : ((a : Int) + 1).toNat = a + 1 := by omega
  have z1 : ¬ (a : Int) + 1 < s.size := by omega
  obtain ⟨e, he⟩ : ∃ e, a + runN rn (s.data.toList.drop a) = e := ⟨_, rfl⟩
  have P := fun w => run_any s a (by omega) (by omega) w
  have bd := run_bound rn s a (by omega)
  have tx : (s.extract a e).data.toList = (s.data.toList.drop a).take (runN rn (s.data.toList.drop a)) := by rw [← he]; exact ext_run s a _
  rw [he] at P bd
  have x1 : (e : Int) ≤ s.size := by omega
  have x2 : (a : Int) ≤ e := by omega
  have RV := fun w => reserved_any (s.extract a e) w
  have SV := fun w => rsign_any (s.extract a (a + 1)) w
  have t1 : (s.extract a (a + 1)).data.toList = [s[a]'h] := by rw [ext_run, get_list s a h, List.take_succ_cons, List.take_zero]
  rw [t1, signB_one, hsg] at SV
  have HO := one_sign (c := s[a]'h) (r := s.data.toList.drop (a + 1)) (by rw [hc]; decide) (by rw [hc]; decide) (by omega) (by rw [nxt_end s (a + 1) h2, hc]; rintro (q | ⟨_, q⟩); (exact absurd q (by decide)); (exact absurd q (by decide)))
  rw [← get_list s a h, if_neg (by rw [nxt_end s (a + 1) h2]; omega), hsg] at HO
  have HX : Hid (readV (one (s.data.toList.drop a)) a = Value.tuple #[tokV 0 ⟨#[]⟩ 0 0, .int .i64 0, .int .i64 20]) := ⟨by rw [HO]; rfl⟩
  clear HO t1 he tx
  go_enter Tryd.func38, Tryd.ntmps38
  go_wp2_with (first
    | (go_at_call 57; refine (rsmall_any _ _).mono ?_; rintro e w1 ⟨rfl, hw⟩; subst w1)
    | (go_at_call 59; refine (rlarge_any _ _).mono ?_; rintro e w1 ⟨rfl, hw⟩; subst w1)
    | (go_at_call 60; refine (rdigit_any _ _).mono ?_; rintro e w1 ⟨rfl, hw⟩; subst w1)
    | (go_at_call 56; refine (P _).mono ?_; rintro e w1 ⟨rfl, hw⟩; subst w1)
    | (go_at_call 58; refine (RV _).mono ?_; rintro e w1 ⟨rfl, hw⟩; subst w1)
    | (go_at_call 62; refine (SV _).mono ?_; rintro e w1 ⟨rfl, hw⟩; subst w1))
  refine bodyPost_ret (v := Value.tuple #[tokV 0 ⟨#[]⟩ 0 0, .int .i64 0, .int .i64 20]) (by simp [results, Tryd.results38, go_sem, tokV]) rfl ⟨by rw [HX.out], ?_⟩
  go_grown

set_option maxRecDepth 100000 in
set_option maxHeartbeats 4000000 in
theorem one_else_n_y (s : ByteArray) (a : Nat) (h : a < s.size) (hs : s.size ≤ 281474976710656) (w : World) (h2 : a + 1 < s.size) (hsm : sm ((s[a]'h).toNat : Int) = false) (hgr : gr ((s[a]'h).toNat : Int) = false) (hc : ¬ ((s[a]'h).toNat : Int) = 35) (hdg : dg ((s[a]'h).toNat : Int) = false) (hd : ¬ ((s[a]'h).toNat : Int) = 45) (hsg : sg ((s[a]'h).toNat : Int) = true) :
    Calls Tryd.prog 38 #[.string s, .int .i64 a] w fun e w' => e = .returned (readV (one (s.data.toList.drop a)) a) ∧ Below w.heap.size w w' := by
  have z0 : (a : Int) < s.size := by omega
  have z4 : (a : Int) ≤ s.size := by omega
  have z5 : (a : Int) + 1 ≤ s.size := by omega
  have sm0 : sm 0 = false := by decide
  have dg0 : dg 0 = false := by decide
  have sm35 : sm 35 = false := by decide
  have gr35 : gr 35 = false := by decide
  have dg35 : dg 35 = false := by decide
  have sm45 : sm 45 = false := by decide
  have gr45 : gr 45 = false := by decide
  have dg45 : dg 45 = false := by decide
  have z2 : (0 : Int) ≤ (a : Int) + 1 := by omega
  have z3 : ((a : Int) + 1).toNat = a + 1 := by omega
  have z1 : (a : Int) + 1 < s.size := by omega
  obtain ⟨e, he⟩ : ∃ e, a + runN rn (s.data.toList.drop a) = e := ⟨_, rfl⟩
  have P := fun w => run_any s a (by omega) (by omega) w
  have bd := run_bound rn s a (by omega)
  have tx : (s.extract a e).data.toList = (s.data.toList.drop a).take (runN rn (s.data.toList.drop a)) := by rw [← he]; exact ext_run s a _
  rw [he] at P bd
  have x1 : (e : Int) ≤ s.size := by omega
  have x2 : (a : Int) ≤ e := by omega
  have RV := fun w => reserved_any (s.extract a e) w
  have SV := fun w => rsign_any (s.extract a (a + 1)) w
  have t1 : (s.extract a (a + 1)).data.toList = [s[a]'h] := by rw [ext_run, get_list s a h, List.take_succ_cons, List.take_zero]
  rw [t1, signB_one, hsg] at SV
  have HO := one_sign (c := s[a]'h) (r := s.data.toList.drop (a + 1)) hsm hgr (by omega) (by rw [hdg]; rintro (q | ⟨q, _⟩); (cases q); omega)
  rw [← get_list s a h, if_neg (by omega), hsg] at HO
  have HX : Hid (readV (one (s.data.toList.drop a)) a = Value.tuple #[tokV 5 (s.extract a (a + 1)) 0 a, .int .i64 ((a : Int) + 1), .int .i64 0]) := ⟨by rw [HO, str_eq t1]; rfl⟩
  clear HO t1 he tx
  go_enter Tryd.func38, Tryd.ntmps38
  go_wp2_with (first
    | (go_at_call 57; refine (rsmall_any _ _).mono ?_; rintro e w1 ⟨rfl, hw⟩; subst w1)
    | (go_at_call 59; refine (rlarge_any _ _).mono ?_; rintro e w1 ⟨rfl, hw⟩; subst w1)
    | (go_at_call 60; refine (rdigit_any _ _).mono ?_; rintro e w1 ⟨rfl, hw⟩; subst w1)
    | (go_at_call 56; refine (P _).mono ?_; rintro e w1 ⟨rfl, hw⟩; subst w1)
    | (go_at_call 58; refine (RV _).mono ?_; rintro e w1 ⟨rfl, hw⟩; subst w1)
    | (go_at_call 62; refine (SV _).mono ?_; rintro e w1 ⟨rfl, hw⟩; subst w1))
  refine bodyPost_ret (v := Value.tuple #[tokV 5 (s.extract a (a + 1)) 0 a, .int .i64 ((a : Int) + 1), .int .i64 0]) (by simp [results, Tryd.results38, go_sem, tokV]) rfl ⟨by rw [HX.out], ?_⟩
  go_grown

set_option maxRecDepth 100000 in
set_option maxHeartbeats 4000000 in
theorem one_else_n_n (s : ByteArray) (a : Nat) (h : a < s.size) (hs : s.size ≤ 281474976710656) (w : World) (h2 : a + 1 < s.size) (hsm : sm ((s[a]'h).toNat : Int) = false) (hgr : gr ((s[a]'h).toNat : Int) = false) (hc : ¬ ((s[a]'h).toNat : Int) = 35) (hdg : dg ((s[a]'h).toNat : Int) = false) (hd : ¬ ((s[a]'h).toNat : Int) = 45) (hsg : sg ((s[a]'h).toNat : Int) = false) :
    Calls Tryd.prog 38 #[.string s, .int .i64 a] w fun e w' => e = .returned (readV (one (s.data.toList.drop a)) a) ∧ Below w.heap.size w w' := by
  have z0 : (a : Int) < s.size := by omega
  have z4 : (a : Int) ≤ s.size := by omega
  have z5 : (a : Int) + 1 ≤ s.size := by omega
  have sm0 : sm 0 = false := by decide
  have dg0 : dg 0 = false := by decide
  have sm35 : sm 35 = false := by decide
  have gr35 : gr 35 = false := by decide
  have dg35 : dg 35 = false := by decide
  have sm45 : sm 45 = false := by decide
  have gr45 : gr 45 = false := by decide
  have dg45 : dg 45 = false := by decide
  have z2 : (0 : Int) ≤ (a : Int) + 1 := by omega
  have z3 : ((a : Int) + 1).toNat = a + 1 := by omega
  have z1 : (a : Int) + 1 < s.size := by omega
  obtain ⟨e, he⟩ : ∃ e, a + runN rn (s.data.toList.drop a) = e := ⟨_, rfl⟩
  have P := fun w => run_any s a (by omega) (by omega) w
  have bd := run_bound rn s a (by omega)
  have tx : (s.extract a e).data.toList = (s.data.toList.drop a).take (runN rn (s.data.toList.drop a)) := by rw [← he]; exact ext_run s a _
  rw [he] at P bd
  have x1 : (e : Int) ≤ s.size := by omega
  have x2 : (a : Int) ≤ e := by omega
  have RV := fun w => reserved_any (s.extract a e) w
  have SV := fun w => rsign_any (s.extract a (a + 1)) w
  have t1 : (s.extract a (a + 1)).data.toList = [s[a]'h] := by rw [ext_run, get_list s a h, List.take_succ_cons, List.take_zero]
  rw [t1, signB_one, hsg] at SV
  have HO := one_sign (c := s[a]'h) (r := s.data.toList.drop (a + 1)) hsm hgr (by omega) (by rw [hdg]; rintro (q | ⟨q, _⟩); (cases q); omega)
  rw [← get_list s a h, if_neg (by omega), hsg] at HO
  have HX : Hid (readV (one (s.data.toList.drop a)) a = Value.tuple #[tokV 0 ⟨#[]⟩ 0 0, .int .i64 0, .int .i64 20]) := ⟨by rw [HO]; rfl⟩
  clear HO t1 he tx
  go_enter Tryd.func38, Tryd.ntmps38
  go_wp2_with (first
    | (go_at_call 57; refine (rsmall_any _ _).mono ?_; rintro e w1 ⟨rfl, hw⟩; subst w1)
    | (go_at_call 59; refine (rlarge_any _ _).mono ?_; rintro e w1 ⟨rfl, hw⟩; subst w1)
    | (go_at_call 60; refine (rdigit_any _ _).mono ?_; rintro e w1 ⟨rfl, hw⟩; subst w1)
    | (go_at_call 56; refine (P _).mono ?_; rintro e w1 ⟨rfl, hw⟩; subst w1)
    | (go_at_call 58; refine (RV _).mono ?_; rintro e w1 ⟨rfl, hw⟩; subst w1)
    | (go_at_call 62; refine (SV _).mono ?_; rintro e w1 ⟨rfl, hw⟩; subst w1))
  refine bodyPost_ret (v := Value.tuple #[tokV 0 ⟨#[]⟩ 0 0, .int .i64 0, .int .i64 20]) (by simp [results, Tryd.results38, go_sem, tokV]) rfl ⟨by rw [HX.out], ?_⟩
  go_grown

set_option maxRecDepth 100000 in
set_option maxHeartbeats 4000000 in
theorem one_else_e_y (s : ByteArray) (a : Nat) (h : a < s.size) (hs : s.size ≤ 281474976710656) (w : World) (h2 : ¬ a + 1 < s.size) (hsm : sm ((s[a]'h).toNat : Int) = false) (hgr : gr ((s[a]'h).toNat : Int) = false) (hc : ¬ ((s[a]'h).toNat : Int) = 35) (hdg : dg ((s[a]'h).toNat : Int) = false) (hd : ¬ ((s[a]'h).toNat : Int) = 45) (hsg : sg ((s[a]'h).toNat : Int) = true) :
    Calls Tryd.prog 38 #[.string s, .int .i64 a] w fun e w' => e = .returned (readV (one (s.data.toList.drop a)) a) ∧ Below w.heap.size w w' := by
  have z0 : (a : Int) < s.size := by omega
  have z4 : (a : Int) ≤ s.size := by omega
  have z5 : (a : Int) + 1 ≤ s.size := by omega
  have sm0 : sm 0 = false := by decide
  have dg0 : dg 0 = false := by decide
  have sm35 : sm 35 = false := by decide
  have gr35 : gr 35 = false := by decide
  have dg35 : dg 35 = false := by decide
  have sm45 : sm 45 = false := by decide
  have gr45 : gr 45 = false := by decide
  have dg45 : dg 45 = false := by decide
  have z2 : (0 : Int) ≤ (a : Int) + 1 := by omega
  have z3 : ((a : Int) + 1).toNat = a + 1 := by omega
  have z1 : ¬ (a : Int) + 1 < s.size := by omega
  obtain ⟨e, he⟩ : ∃ e, a + runN rn (s.data.toList.drop a) = e := ⟨_, rfl⟩
  have P := fun w => run_any s a (by omega) (by omega) w
  have bd := run_bound rn s a (by omega)
  have tx : (s.extract a e).data.toList = (s.data.toList.drop a).take (runN rn (s.data.toList.drop a)) := by rw [← he]; exact ext_run s a _
  rw [he] at P bd
  have x1 : (e : Int) ≤ s.size := by omega
  have x2 : (a : Int) ≤ e := by omega
  have RV := fun w => reserved_any (s.extract a e) w
  have SV := fun w => rsign_any (s.extract a (a + 1)) w
  have t1 : (s.extract a (a + 1)).data.toList = [s[a]'h] := by rw [ext_run, get_list s a h, List.take_succ_cons, List.take_zero]
  rw [t1, signB_one, hsg] at SV
  have HO := one_sign (c := s[a]'h) (r := s.data.toList.drop (a + 1)) hsm hgr (by omega) (by rw [hdg]; rintro (q | ⟨q, _⟩); (cases q); omega)
  rw [← get_list s a h, if_neg (by omega), hsg] at HO
  have HX : Hid (readV (one (s.data.toList.drop a)) a = Value.tuple #[tokV 5 (s.extract a (a + 1)) 0 a, .int .i64 ((a : Int) + 1), .int .i64 0]) := ⟨by rw [HO, str_eq t1]; rfl⟩
  clear HO t1 he tx
  go_enter Tryd.func38, Tryd.ntmps38
  go_wp2_with (first
    | (go_at_call 57; refine (rsmall_any _ _).mono ?_; rintro e w1 ⟨rfl, hw⟩; subst w1)
    | (go_at_call 59; refine (rlarge_any _ _).mono ?_; rintro e w1 ⟨rfl, hw⟩; subst w1)
    | (go_at_call 60; refine (rdigit_any _ _).mono ?_; rintro e w1 ⟨rfl, hw⟩; subst w1)
    | (go_at_call 56; refine (P _).mono ?_; rintro e w1 ⟨rfl, hw⟩; subst w1)
    | (go_at_call 58; refine (RV _).mono ?_; rintro e w1 ⟨rfl, hw⟩; subst w1)
    | (go_at_call 62; refine (SV _).mono ?_; rintro e w1 ⟨rfl, hw⟩; subst w1))
  refine bodyPost_ret (v := Value.tuple #[tokV 5 (s.extract a (a + 1)) 0 a, .int .i64 ((a : Int) + 1), .int .i64 0]) (by simp [results, Tryd.results38, go_sem, tokV]) rfl ⟨by rw [HX.out], ?_⟩
  go_grown

set_option maxRecDepth 100000 in
set_option maxHeartbeats 4000000 in
theorem one_else_e_n (s : ByteArray) (a : Nat) (h : a < s.size) (hs : s.size ≤ 281474976710656) (w : World) (h2 : ¬ a + 1 < s.size) (hsm : sm ((s[a]'h).toNat : Int) = false) (hgr : gr ((s[a]'h).toNat : Int) = false) (hc : ¬ ((s[a]'h).toNat : Int) = 35) (hdg : dg ((s[a]'h).toNat : Int) = false) (hd : ¬ ((s[a]'h).toNat : Int) = 45) (hsg : sg ((s[a]'h).toNat : Int) = false) :
    Calls Tryd.prog 38 #[.string s, .int .i64 a] w fun e w' => e = .returned (readV (one (s.data.toList.drop a)) a) ∧ Below w.heap.size w w' := by
  have z0 : (a : Int) < s.size := by omega
  have z4 : (a : Int) ≤ s.size := by omega
  have z5 : (a : Int) + 1 ≤ s.size := by omega
  have sm0 : sm 0 = false := by decide
  have dg0 : dg 0 = false := by decide
  have sm35 : sm 35 = false := by decide
  have gr35 : gr 35 = false := by decide
  have dg35 : dg 35 = false := by decide
  have sm45 : sm 45 = false := by decide
  have gr45 : gr 45 = false := by decide
  have dg45 : dg 45 = false := by decide
  have z2 : (0 : Int) ≤ (a : Int) + 1 := by omega
  have z3 : ((a : Int) + 1).toNat = a + 1 := by omega
  have z1 : ¬ (a : Int) + 1 < s.size := by omega
  obtain ⟨e, he⟩ : ∃ e, a + runN rn (s.data.toList.drop a) = e := ⟨_, rfl⟩
  have P := fun w => run_any s a (by omega) (by omega) w
  have bd := run_bound rn s a (by omega)
  have tx : (s.extract a e).data.toList = (s.data.toList.drop a).take (runN rn (s.data.toList.drop a)) := by rw [← he]; exact ext_run s a _
  rw [he] at P bd
  have x1 : (e : Int) ≤ s.size := by omega
  have x2 : (a : Int) ≤ e := by omega
  have RV := fun w => reserved_any (s.extract a e) w
  have SV := fun w => rsign_any (s.extract a (a + 1)) w
  have t1 : (s.extract a (a + 1)).data.toList = [s[a]'h] := by rw [ext_run, get_list s a h, List.take_succ_cons, List.take_zero]
  rw [t1, signB_one, hsg] at SV
  have HO := one_sign (c := s[a]'h) (r := s.data.toList.drop (a + 1)) hsm hgr (by omega) (by rw [hdg]; rintro (q | ⟨q, _⟩); (cases q); omega)
  rw [← get_list s a h, if_neg (by omega), hsg] at HO
  have HX : Hid (readV (one (s.data.toList.drop a)) a = Value.tuple #[tokV 0 ⟨#[]⟩ 0 0, .int .i64 0, .int .i64 20]) := ⟨by rw [HO]; rfl⟩
  clear HO t1 he tx
  go_enter Tryd.func38, Tryd.ntmps38
  go_wp2_with (first
    | (go_at_call 57; refine (rsmall_any _ _).mono ?_; rintro e w1 ⟨rfl, hw⟩; subst w1)
    | (go_at_call 59; refine (rlarge_any _ _).mono ?_; rintro e w1 ⟨rfl, hw⟩; subst w1)
    | (go_at_call 60; refine (rdigit_any _ _).mono ?_; rintro e w1 ⟨rfl, hw⟩; subst w1)
    | (go_at_call 56; refine (P _).mono ?_; rintro e w1 ⟨rfl, hw⟩; subst w1)
    | (go_at_call 58; refine (RV _).mono ?_; rintro e w1 ⟨rfl, hw⟩; subst w1)
    | (go_at_call 62; refine (SV _).mono ?_; rintro e w1 ⟨rfl, hw⟩; subst w1))
  refine bodyPost_ret (v := Value.tuple #[tokV 0 ⟨#[]⟩ 0 0, .int .i64 0, .int .i64 20]) (by simp [results, Tryd.results38, go_sem, tokV]) rfl ⟨by rw [HX.out], ?_⟩
  go_grown

set_option maxRecDepth 100000 in
set_option maxHeartbeats 4000000 in
theorem one_arrow (s : ByteArray) (a : Nat) (h : a < s.size) (hs : s.size ≤ 281474976710656) (w : World) (h2 : a + 1 < s.size) (hc : ((s[a]'h).toNat : Int) = 45) (ha : ((s[a + 1]'h2).toNat : Int) = 62) :
    Calls Tryd.prog 38 #[.string s, .int .i64 a] w fun e w' => e = .returned (readV (one (s.data.toList.drop a)) a) ∧ Below w.heap.size w w' := by
  have z0 : (a : Int) < s.size := by omega
  have z4 : (a : Int) ≤ s.size := by omega
  have z5 : (a : Int) + 1 ≤ s.size := by omega
  have sm0 : sm 0 = false := by decide
  have dg0 : dg 0 = false := by decide
  have sm35 : sm 35 = false := by decide
  have gr35 : gr 35 = false := by decide
  have dg35 : dg 35 = false := by decide
  have sm45 : sm 45 = false := by decide
  have gr45 : gr 45 = false := by decide
  have dg45 : dg 45 = false := by decide
  have z2 : (0 : Int) ≤ (a : Int) + 1 := by omega
  have z3 : ((a : Int) + 1).toNat = a + 1 := by omega
  have z1 : (a : Int) + 1 < s.size := by omega
  obtain ⟨e, he⟩ : ∃ e, a + runN rn (s.data.toList.drop a) = e := ⟨_, rfl⟩
  have P := fun w => run_any s a (by omega) (by omega) w
  have bd := run_bound rn s a (by omega)
  have tx : (s.extract a e).data.toList = (s.data.toList.drop a).take (runN rn (s.data.toList.drop a)) := by rw [← he]; exact ext_run s a _
  rw [he] at P bd
  have x1 : (e : Int) ≤ s.size := by omega
  have x2 : (a : Int) ≤ e := by omega
  have RV := fun w => reserved_any (s.extract a e) w
  have SV := fun w => rsign_any ⟨#[]⟩ w
  have HO := one_sign (c := s[a]'h) (r := s.data.toList.drop (a + 1)) (by rw [hc]; decide) (by rw [hc]; decide) (by omega) (by rw [nxt_of s (a + 1) h2, hc, ha]; rintro (q | ⟨_, q⟩); (exact absurd q (by decide)); (exact absurd q (by decide)))
  rw [← get_list s a h, if_pos (by rw [nxt_of s (a + 1) h2]; omega)] at HO
  have dg62 : dg 62 = false := by decide
  have HX : Hid (readV (one (s.data.toList.drop a)) a = Value.tuple #[tokV 5 ⟨#[45, 62]⟩ 0 a, .int .i64 ((a : Int) + 2), .int .i64 0]) := ⟨by rw [HO]; rfl⟩
  clear HO he tx
  go_enter Tryd.func38, Tryd.ntmps38
  go_wp2_with (first
    | (go_at_call 57; refine (rsmall_any _ _).mono ?_; rintro e w1 ⟨rfl, hw⟩; subst w1)
    | (go_at_call 59; refine (rlarge_any _ _).mono ?_; rintro e w1 ⟨rfl, hw⟩; subst w1)
    | (go_at_call 60; refine (rdigit_any _ _).mono ?_; rintro e w1 ⟨rfl, hw⟩; subst w1)
    | (go_at_call 56; refine (P _).mono ?_; rintro e w1 ⟨rfl, hw⟩; subst w1)
    | (go_at_call 58; refine (RV _).mono ?_; rintro e w1 ⟨rfl, hw⟩; subst w1)
    | (go_at_call 62; refine (SV _).mono ?_; rintro e w1 ⟨rfl, hw⟩; subst w1))
  refine bodyPost_ret (v := .tuple #[tokV 5 ⟨#[45, 62]⟩ 0 a, .int .i64 ((a : Int) + 2), .int .i64 0]) (by simp [results, Tryd.results38, go_sem, tokV]) rfl ⟨by rw [HX.out], ?_⟩
  go_grown

theorem one_any (s : ByteArray) (a : Nat) (h : a < s.size) (hs : s.size ≤ 281474976710656) (w : World) :
    Calls Tryd.prog 38 #[.string s, .int .i64 a] w fun e w' => e = .returned (readV (one (s.data.toList.drop a)) a) ∧ Below w.heap.size w w' := by
  by_cases h2 : a + 1 < s.size
  · cases hsm : sm ((s[a]'h).toNat : Int) with
    | true =>
      cases hrv : resv ((s.data.toList.drop a).take (runN rn (s.data.toList.drop a))) with
      | true => exact one_small6_n s a h hs w h2 hsm hrv
      | false => exact one_small1_n s a h hs w h2 hsm hrv
    | false =>
      cases hgr : gr ((s[a]'h).toNat : Int) with
      | true => exact one_great_n s a h hs w h2 hsm hgr
      | false =>
        by_cases hc : ((s[a]'h).toNat : Int) = 35
        · cases hn : sm ((s[a + 1]'h2).toNat : Int) with
          | true => exact one_primw s a h hs w h2 hc hn
          | false =>
            cases hsg : sg ((s[a]'h).toNat : Int) with
            | true => exact one_hash_n_y s a h hs w h2 hc hn hsg
            | false => exact one_hash_n_n s a h hs w h2 hc hn hsg
        · cases hdg : dg ((s[a]'h).toNat : Int) with
          | true => exact one_dig_n s a h hs w h2 hsm hgr hc hdg
          | false =>
            by_cases hd : ((s[a]'h).toNat : Int) = 45
            · cases hn : dg ((s[a + 1]'h2).toNat : Int) with
              | true => exact one_minus s a h hs w h2 hd hn
              | false =>
                by_cases ha : ((s[a + 1]'h2).toNat : Int) = 62
                · exact one_arrow s a h hs w h2 hd ha
                · cases hsg : sg ((s[a]'h).toNat : Int) with
                  | true => exact one_dash_n_y s a h hs w h2 hd hn ha hsg
                  | false => exact one_dash_n_n s a h hs w h2 hd hn ha hsg
            · cases hsg : sg ((s[a]'h).toNat : Int) with
              | true => exact one_else_n_y s a h hs w h2 hsm hgr hc hdg hd hsg
              | false => exact one_else_n_n s a h hs w h2 hsm hgr hc hdg hd hsg
  · cases hsm : sm ((s[a]'h).toNat : Int) with
    | true =>
      cases hrv : resv ((s.data.toList.drop a).take (runN rn (s.data.toList.drop a))) with
      | true => exact one_small6_e s a h hs w h2 hsm hrv
      | false => exact one_small1_e s a h hs w h2 hsm hrv
    | false =>
      cases hgr : gr ((s[a]'h).toNat : Int) with
      | true => exact one_great_e s a h hs w h2 hsm hgr
      | false =>
        by_cases hc : ((s[a]'h).toNat : Int) = 35
        · cases hsg : sg ((s[a]'h).toNat : Int) with
          | true => exact one_hash_e_y s a h hs w h2 hc hsg
          | false => exact one_hash_e_n s a h hs w h2 hc hsg
        · cases hdg : dg ((s[a]'h).toNat : Int) with
          | true => exact one_dig_e s a h hs w h2 hsm hgr hc hdg
          | false =>
            by_cases hd : ((s[a]'h).toNat : Int) = 45
            · cases hsg : sg ((s[a]'h).toNat : Int) with
              | true => exact one_dash_e_y s a h hs w h2 hd hsg
              | false => exact one_dash_e_n s a h hs w h2 hd hsg
            · cases hsg : sg ((s[a]'h).toNat : Int) with
              | true => exact one_else_e_y s a h hs w h2 hsm hgr hc hdg hd hsg
              | false => exact one_else_e_n s a h hs w h2 hsm hgr hc hdg hd hsg

end Go.Proofs.YtcbdolflgpmaoaaDoor

