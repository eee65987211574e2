/- The document's own reading of one token: words. -/
import Derived.Test.YtcbdolflgpmaoaaDoorOne
import Derived.Laws.DeepStrings4
namespace Go.Proofs.YtcbdolflgpmaoaaDoor
open Go.RowKit
set_option linter.unusedVariables false

theorem dig_ne {r : List UInt8} (h : dg (nxt r) = true) : r.take (runN dg r) ≠ [] := by
  cases r with
  | nil => exact absurd h (by decide)
  | cons d r => simp only [runN, show dg d.toNat = true from h, if_true, List.take_succ_cons]; simp

set_option maxRecDepth 100000 in
set_option maxHeartbeats 4000000 in
theorem one_small6_n (s : ByteArray) (a : Nat) (h : a < s.size) (hs : s.size ≤ 281474976710656) (w : World) (h2 : a + 1 < s.size) (hsm : sm ((s[a]'h).toNat : Int) = true) (hrv : resv ((s.data.toList.drop a).take (runN rn (s.data.toList.drop a))) = true) :
    Calls Tryd.prog 38 #[.string s, .int .i64 a] w fun e w' => e = .returned (readV (one (s.data.toList.drop a)) a) ∧ Below w.heap.size w w' := by
  have z0 : (a : Int) < s.size := by omega
  have z4 : (a : Int) ≤ s.size := by omega
  have z5 : (a : Int) + 1 ≤ s.size := by omega
  have sm0 : sm 0 = false := by decide
  have dg0 : dg 0 = false := by decide
  have sm35 : sm 35 = false := by decide
  have gr35 : gr 35 = false := by decide
  have dg35 : dg 35 = false := by decide
  have sm45 : sm 45 = false := by decide
  have gr45 : gr 45 = false := by decide
  have dg45 : dg 45 = false := by decide
  have z2 : (0 : Int) ≤ (a : Int) + 1 := by omega
  have z3 : ((a : Int) + 1).toNat = a + 1 := by omega
  have z1 : (a : Int) + 1 < s.size := by omega
  obtain ⟨e, he⟩ : ∃ e, a + runN rn (s.data.toList.drop a) = e := ⟨_, rfl⟩
  have P := fun w => run_any s a (by omega) (by omega) w
  have bd := run_bound rn s a (by omega)
  have tx : (s.extract a e).data.toList = (s.data.toList.drop a).take (runN rn (s.data.toList.drop a)) := by rw [← he]; exact ext_run s a _
  rw [he] at P bd
  have x1 : (e : Int) ≤ s.size := by omega
  have x2 : (a : Int) ≤ e := by omega
  have RV := fun w => reserved_any (s.extract a e) w
  rw [tx, hrv] at RV
  have SV := fun w => rsign_any ⟨#[]⟩ w
  have HX : Hid (readV (one (s.data.toList.drop a)) a = Value.tuple #[tokV 6 (s.extract a e) 0 a, .int .i64 e, .int .i64 0]) := ⟨by
    rw [str_eq tx, get_list s a h, one_small hsm, ← get_list s a h, hrv, readV, ← he]
    rfl⟩
  clear he tx hrv
  go_enter Tryd.func38, Tryd.ntmps38
  go_wp2_with (first
    | (go_at_call 57; refine (rsmall_any _ _).mono ?_; rintro e w1 ⟨rfl, hw⟩; subst w1)
    | (go_at_call 59; refine (rlarge_any _ _).mono ?_; rintro e w1 ⟨rfl, hw⟩; subst w1)
    | (go_at_call 60; refine (rdigit_any _ _).mono ?_; rintro e w1 ⟨rfl, hw⟩; subst w1)
    | (go_at_call 56; refine (P _).mono ?_; rintro e w1 ⟨rfl, hw⟩; subst w1)
    | (go_at_call 58; refine (RV _).mono ?_; rintro e w1 ⟨rfl, hw⟩; subst w1)
    | (go_at_call 62; refine (SV _).mono ?_; rintro e w1 ⟨rfl, hw⟩; subst w1))
  refine bodyPost_ret (v := .tuple #[tokV 6 (s.extract a e) 0 a, .int .i64 e, .int .i64 0]) (by simp [results, Tryd.results38, go_sem, tokV]) rfl ⟨by rw [HX.out], ?_⟩
  go_grown

set_option maxRecDepth 100000 in
set_option maxHeartbeats 4000000 in
theorem one_small1_n (s : ByteArray) (a : Nat) (h : a < s.size) (hs : s.size ≤ 281474976710656) (w : World) (h2 : a + 1 < s.size) (hsm : sm ((s[a]'h).toNat : Int) = true) (hrv : resv ((s.data.toList.drop a).take (runN rn (s.data.toList.drop a))) = false) :
    Calls Tryd.prog 38 #[.string s, .int .i64 a] w fun e w' => e = .returned (readV (one (s.data.toList.drop a)) a) ∧ Below w.heap.size w w' := by
  have z0 : (a : Int) < s.size := by omega
  have z4 : (a : Int) ≤ s.size := by omega
  have z5 : (a : Int) + 1 ≤ s.size := by omega
  have sm0 : sm 0 = false := by decide
  have dg0 : dg 0 = false := by decide
  have sm35 : sm 35 = false := by decide
  have gr35 : gr 35 = false := by decide
  have dg35 : dg 35 = false := by decide
  have sm45 : sm 45 = false := by decide
  have gr45 : gr 45 = false := by decide
  have dg45 : dg 45 = false := by decide
  have z2 : (0 : Int) ≤ (a : Int) + 1 := by omega
  have z3 : ((a : Int) + 1).toNat = a + 1 := by omega
  have z1 : (a : Int) + 1 < s.size := by omega
  obtain ⟨e, he⟩ : ∃ e, a + runN rn (s.data.toList.drop a) = e := ⟨_, rfl⟩
  have P := fun w => run_any s a (by omega) (by omega) w
  have bd := run_bound rn s a (by omega)
  have tx : (s.extract a e).data.toList = (s.data.toList.drop a).take (runN rn (s.data.toList.drop a)) := by rw [← he]; exact ext_run s a _
  rw [he] at P bd
  have x1 : (e : Int) ≤ s.size := by omega
  have x2 : (a : Int) ≤ e := by omega
  have RV := fun w => reserved_any (s.extract a e) w
  rw [tx, hrv] at RV
  have SV := fun w => rsign_any ⟨#[]⟩ w
  have HX : Hid (readV (one (s.data.toList.drop a)) a = Value.tuple #[tokV 1 (s.extract a e) 0 a, .int .i64 e, .int .i64 0]) := ⟨by
    rw [str_eq tx, get_list s a h, one_small hsm, ← get_list s a h, hrv, readV, ← he]
    rfl⟩
  clear he tx hrv
  go_enter Tryd.func38, Tryd.ntmps38
  go_wp2_with (first
    | (go_at_call 57; refine (rsmall_any _ _).mono ?_; rintro e w1 ⟨rfl, hw⟩; subst w1)
    | (go_at_call 59; refine (rlarge_any _ _).mono ?_; rintro e w1 ⟨rfl, hw⟩; subst w1)
    | (go_at_call 60; refine (rdigit_any _ _).mono ?_; rintro e w1 ⟨rfl, hw⟩; subst w1)
    | (go_at_call 56; refine (P _).mono ?_; rintro e w1 ⟨rfl, hw⟩; subst w1)
    | (go_at_call 58; refine (RV _).mono ?_; rintro e w1 ⟨rfl, hw⟩; subst w1)
    | (go_at_call 62; refine (SV _).mono ?_; rintro e w1 ⟨rfl, hw⟩; subst w1))
  refine bodyPost_ret (v := .tuple #[tokV 1 (s.extract a e) 0 a, .int .i64 e, .int .i64 0]) (by simp [results, Tryd.results38, go_sem, tokV]) rfl ⟨by rw [HX.out], ?_⟩
  go_grown

set_option maxRecDepth 100000 in
set_option maxHeartbeats 4000000 in
theorem one_great_n (s : ByteArray) (a : Nat) (h : a < s.size) (hs : s.size ≤ 281474976710656) (w : World) (h2 : a + 1 < s.size) (hsm : sm ((s[a]'h).toNat : Int) = false) (hgr : gr ((s[a]'h).toNat : Int) = true) :
    Calls Tryd.prog 38 #[.string s, .int .i64 a] w fun e w' => e = .returned (readV (one (s.data.toList.drop a)) a) ∧ Below w.heap.size w w' := by
  have z0 : (a : Int) < s.size := by omega
  have z4 : (a : Int) ≤ s.size := by omega
  have z5 : (a : Int) + 1 ≤ s.size := by omega
  have sm0 : sm 0 = false := by decide
  have dg0 : dg 0 = false := by decide
  have sm35 : sm 35 = false := by decide
  have gr35 : gr 35 = false := by decide
  have dg35 : dg 35 = false := by decide
  have sm45 : sm 45 = false := by decide
  have gr45 : gr 45 = false := by decide
  have dg45 : dg 45 = false := by decide
  have z2 : (0 : Int) ≤ (a : Int) + 1 := by omega
  have z3 : ((a : Int) + 1).toNat = a + 1 := by omega
  have z1 : (a : Int) + 1 < s.size := by omega
  obtain ⟨e, he⟩ : ∃ e, a + runN rn (s.data.toList.drop a) = e := ⟨_, rfl⟩
  have P := fun w => run_any s a (by omega) (by omega) w
  have bd := run_bound rn s a (by omega)
  have tx : (s.extract a e).data.toList = (s.data.toList.drop a).take (runN rn (s.data.toList.drop a)) := by rw [← he]; exact ext_run s a _
  rw [he] at P bd
  have x1 : (e : Int) ≤ s.size := by omega
  have x2 : (a : Int) ≤ e := by omega
  have RV := fun w => reserved_any (s.extract a e) w
  have SV := fun w => rsign_any ⟨#[]⟩ w
  have HX : Hid (readV (one (s.data.toList.drop a)) a = Value.tuple #[tokV 2 (s.extract a e) 0 a, .int .i64 e, .int .i64 0]) := ⟨by
    rw [str_eq tx, get_list s a h, one_great hsm hgr, ← get_list s a h, readV, ← he]⟩
  clear he tx
  go_enter Tryd.func38, Tryd.ntmps38
  go_wp2_with (first
    | (go_at_call 57; refine (rsmall_any _ _).mono ?_; rintro e w1 ⟨rfl, hw⟩; subst w1)
    | (go_at_call 59; refine (rlarge_any _ _).mono ?_; rintro e w1 ⟨rfl, hw⟩; subst w1)
    | (go_at_call 60; refine (rdigit_any _ _).mono ?_; rintro e w1 ⟨rfl, hw⟩; subst w1)
    | (go_at_call 56; refine (P _).mono ?_; rintro e w1 ⟨rfl, hw⟩; subst w1)
    | (go_at_call 58; refine (RV _).mono ?_; rintro e w1 ⟨rfl, hw⟩; subst w1)
    | (go_at_call 62; refine (SV _).mono ?_; rintro e w1 ⟨rfl, hw⟩; subst w1))
  refine bodyPost_ret (v := .tuple #[tokV 2 (s.extract a e) 0 a, .int .i64 e, .int .i64 0]) (by simp [results, Tryd.results38, go_sem, tokV]) rfl ⟨by rw [HX.out], ?_⟩
  go_grown

set_option maxRecDepth 100000 in
set_option maxHeartbeats 4000000 in
theorem one_small6_e (s : ByteArray) (a : Nat) (h : a < s.size) (hs : s.size ≤ 281474976710656) (w : World) (h2 : ¬ a + 1 < s.size) (hsm : sm ((s[a]'h).toNat : Int) = true) (hrv : resv ((s.data.toList.drop a).take (runN rn (s.data.toList.drop a))) = true) :
    Calls Tryd.prog 38 #[.string s, .int .i64 a] w fun e w' => e = .returned (readV (one (s.data.toList.drop a)) a) ∧ Below w.heap.size w w' := by
  have z0 : (a : Int) < s.size := by omega
  have z4 : (a : Int) ≤ s.size := by omega
  have z5 : (a : Int) + 1 ≤ s.size := by omega
  have sm0 : sm 0 = false := by decide
  have dg0 : dg 0 = false := by decide
  have sm35 : sm 35 = false := by decide
  have gr35 : gr 35 = false := by decide
  have dg35 : dg 35 = false := by decide
  have sm45 : sm 45 = false := by decide
  have gr45 : gr 45 = false := by decide
  have dg45 : dg 45 = false := by decide
  have z2 : (0 : Int) ≤ (a : Int) + 1 := by omega
  have z3 : ((a : Int) + 1).toNat = a + 1 := by omega
  have z1 : ¬ (a : Int) + 1 < s.size := by omega
  obtain ⟨e, he⟩ : ∃ e, a + runN rn (s.data.toList.drop a) = e := ⟨_, rfl⟩
  have P := fun w => run_any s a (by omega) (by omega) w
  have bd := run_bound rn s a (by omega)
  have tx : (s.extract a e).data.toList = (s.data.toList.drop a).take (runN rn (s.data.toList.drop a)) := by rw [← he]; exact ext_run s a _
  rw [he] at P bd
  have x1 : (e : Int) ≤ s.size := by omega
  have x2 : (a : Int) ≤ e := by omega
  have RV := fun w => reserved_any (s.extract a e) w
  rw [tx, hrv] at RV
  have SV := fun w => rsign_any ⟨#[]⟩ w
  have HX : Hid (readV (one (s.data.toList.drop a)) a = Value.tuple #[tokV 6 (s.extract a e) 0 a, .int .i64 e, .int .i64 0]) := ⟨by
    rw [str_eq tx, get_list s a h, one_small hsm, ← get_list s a h, hrv, readV, ← he]
    rfl⟩
  clear he tx hrv
  go_enter Tryd.func38, Tryd.ntmps38
  go_wp2_with (first
    | (go_at_call 57; refine (rsmall_any _ _).mono ?_; rintro e w1 ⟨rfl, hw⟩; subst w1)
    | (go_at_call 59; refine (rlarge_any _ _).mono ?_; rintro e w1 ⟨rfl, hw⟩; subst w1)
    | (go_at_call 60; refine (rdigit_any _ _).mono ?_; rintro e w1 ⟨rfl, hw⟩; subst w1)
    | (go_at_call 56; refine (P _).mono ?_; rintro e w1 ⟨rfl, hw⟩; subst w1)
    | (go_at_call 58; refine (RV _).mono ?_; rintro e w1 ⟨rfl, hw⟩; subst w1)
    | (go_at_call 62; refine (SV _).mono ?_; rintro e w1 ⟨rfl, hw⟩; subst w1))
  refine bodyPost_ret (v := .tuple #[tokV 6 (s.extract a e) 0 a, .int .i64 e, .int .i64 0]) (by simp [results, Tryd.results38, go_sem, tokV]) rfl ⟨by rw [HX.out], ?_⟩
  go_grown

set_option maxRecDepth 100000 in
set_option maxHeartbeats 4000000 in
theorem one_small1_e (s : ByteArray) (a : Nat) (h : a < s.size) (hs : s.size ≤ 281474976710656) (w : World) (h2 : ¬ a + 1 < s.size) (hsm : sm ((s[a]'h).toNat : Int) = true) (hrv : resv ((s.data.toList.drop a).take (runN rn (s.data.toList.drop a))) = false) :
    Calls Tryd.prog 38 #[.string s, .int .i64 a] w fun e w' => e = .returned (readV (one (s.data.toList.drop a)) a) ∧ Below w.heap.size w w' := by
  have z0 : (a : Int) < s.size := by omega
  have z4 : (a : Int) ≤ s.size := by omega
  have z5 : (a : Int) + 1 ≤ s.size := by omega
  have sm0 : sm 0 = false := by decide
  have dg0 : dg 0 = false := by decide
  have sm35 : sm 35 = false := by decide
  have gr35 : gr 35 = false := by decide
  have dg35 : dg 35 = false := by decide
  have sm45 : sm 45 = false := by decide
  have gr45 : gr 45 = false := by decide
  have dg45 : dg 45 = false := by decide
  have z2 : (0 : Int) ≤ (a : Int) + 1 := by omega
  have z3 : ((a : Int) + 1).toNat = a + 1 := by omega
  have z1 : ¬ (a : Int) + 1 < s.size := by omega
  obtain ⟨e, he⟩ : ∃ e, a + runN rn (s.data.toList.drop a) = e := ⟨_, rfl⟩
  have P := fun w => run_any s a (by omega) (by omega) w
  have bd := run_bound rn s a (by omega)
  have tx : (s.extract a e).data.toList = (s.data.toList.drop a).take (runN rn (s.data.toList.drop a)) := by rw [← he]; exact ext_run s a _
  rw [he] at P bd
  have x1 : (e : Int) ≤ s.size := by omega
  have x2 : (a : Int) ≤ e := by omega
  have RV := fun w => reserved_any (s.extract a e) w
  rw [tx, hrv] at RV
  have SV := fun w => rsign_any ⟨#[]⟩ w
  have HX : Hid (readV (one (s.data.toList.drop a)) a = Value.tuple #[tokV 1 (s.extract a e) 0 a, .int .i64 e, .int .i64 0]) := ⟨by
    rw [str_eq tx, get_list s a h, one_small hsm, ← get_list s a h, hrv, readV, ← he]
    rfl⟩
  clear he tx hrv
  go_enter Tryd.func38, Tryd.ntmps38
  go_wp2_with (first
    | (go_at_call 57; refine (rsmall_any _ _).mono ?_; rintro e w1 ⟨rfl, hw⟩; subst w1)
    | (go_at_call 59; refine (rlarge_any _ _).mono ?_; rintro e w1 ⟨rfl, hw⟩; subst w1)
    | (go_at_call 60; refine (rdigit_any _ _).mono ?_; rintro e w1 ⟨rfl, hw⟩; subst w1)
    | (go_at_call 56; refine (P _).mono ?_; rintro e w1 ⟨rfl, hw⟩; subst w1)
    | (go_at_call 58; refine (RV _).mono ?_; rintro e w1 ⟨rfl, hw⟩; subst w1)
    | (go_at_call 62; refine (SV _).mono ?_; rintro e w1 ⟨rfl, hw⟩; subst w1))
  refine bodyPost_ret (v := .tuple #[tokV 1 (s.extract a e) 0 a, .int .i64 e, .int .i64 0]) (by simp [results, Tryd.results38, go_sem, tokV]) rfl ⟨by rw [HX.out], ?_⟩
  go_grown

set_option maxRecDepth 100000 in
set_option maxHeartbeats 4000000 in
theorem one_great_e (s : ByteArray) (a : Nat) (h : a < s.size) (hs : s.size ≤ 281474976710656) (w : World) (h2 : ¬ a + 1 < s.size) (hsm : sm ((s[a]'h).toNat : Int) = false) (hgr : gr ((s[a]'h).toNat : Int) = true) :
    Calls Tryd.prog 38 #[.string s, .int .i64 a] w fun e w' => e = .returned (readV (one (s.data.toList.drop a)) a) ∧ Below w.heap.size w w' := by
  have z0 : (a : Int) < s.size := by omega
  have z4 : (a : Int) ≤ s.size := by omega
  have z5 : (a : Int) + 1 ≤ s.size := by omega
  have sm0 : sm 0 = false := by decide
  have dg0 : dg 0 = false := by decide
  have sm35 : sm 35 = false := by decide
  have gr35 : gr 35 = false := by decide
  have dg35 : dg 35 = false := by decide
  have sm45 : sm 45 = false := by decide
  have gr45 : gr 45 = false := by decide
  have dg45 : dg 45 = false := by decide
  have z2 : (0 : Int) ≤ (a : Int) + 1 := by omega
  have z3 : ((a : Int) + 1).toNat = a + 1 := by omega
  have z1 : ¬ (a : Int) + 1 < s.size := by omega
  obtain ⟨e, he⟩ : ∃ e, a + runN rn (s.data.toList.drop a) = e := ⟨_, rfl⟩
  have P := fun w => run_any s a (by omega) (by omega) w
  have bd := run_bound rn s a (by omega)
  have tx : (s.extract a e).data.toList = (s.data.toList.drop a).take (runN rn (s.data.toList.drop a)) := by rw [← he]; exact ext_run s a _
  rw [he] at P bd
  have x1 : (e : Int) ≤ s.size := by omega
  have x2 : (a : Int) ≤ e := by omega
  have RV := fun w => reserved_any (s.extract a e) w
  have SV := fun w => rsign_any ⟨#[]⟩ w
  have HX : Hid (readV (one (s.data.toList.drop a)) a = Value.tuple #[tokV 2 (s.extract a e) 0 a, .int .i64 e, .int .i64 0]) := ⟨by
    rw [str_eq tx, get_list s a h, one_great hsm hgr, ← get_list s a h, readV, ← he]⟩
  clear he tx
  go_enter Tryd.func38, Tryd.ntmps38
  go_wp2_with (first
    | (go_at_call 57; refine (rsmall_any _ _).mono ?_; rintro e w1 ⟨rfl, hw⟩; subst w1)
    | (go_at_call 59; refine (rlarge_any _ _).mono ?_; rintro e w1 ⟨rfl, hw⟩; subst w1)
    | (go_at_call 60; refine (rdigit_any _ _).mono ?_; rintro e w1 ⟨rfl, hw⟩; subst w1)
    | (go_at_call 56; refine (P _).mono ?_; rintro e w1 ⟨rfl, hw⟩; subst w1)
    | (go_at_call 58; refine (RV _).mono ?_; rintro e w1 ⟨rfl, hw⟩; subst w1)
    | (go_at_call 62; refine (SV _).mono ?_; rintro e w1 ⟨rfl, hw⟩; subst w1))
  refine bodyPost_ret (v := .tuple #[tokV 2 (s.extract a e) 0 a, .int .i64 e, .int .i64 0]) (by simp [results, Tryd.results38, go_sem, tokV]) rfl ⟨by rw [HX.out], ?_⟩
  go_grown

set_option maxRecDepth 100000 in
set_option maxHeartbeats 4000000 in
theorem one_primw (s : ByteArray) (a : Nat) (h : a < s.size) (hs : s.size ≤ 281474976710656) (w : World) (h2 : a + 1 < s.size) (hc : ((s[a]'h).toNat : Int) = 35) (hn : sm ((s[a + 1]'h2).toNat : Int) = true) :
    Calls Tryd.prog 38 #[.string s, .int .i64 a] w fun e w' => e = .returned (readV (one (s.data.toList.drop a)) a) ∧ Below w.heap.size w w' := by
  have z0 : (a : Int) < s.size := by omega
  have z4 : (a : Int) ≤ s.size := by omega
  have z5 : (a : Int) + 1 ≤ s.size := by omega
  have sm0 : sm 0 = false := by decide
  have dg0 : dg 0 = false := by decide
  have sm35 : sm 35 = false := by decide
  have gr35 : gr 35 = false := by decide
  have dg35 : dg 35 = false := by decide
  have sm45 : sm 45 = false := by decide
  have gr45 : gr 45 = false := by decide
  have dg45 : dg 45 = false := by decide
  have z2 : (0 : Int) ≤ (a : Int) + 1 := by omega
  have z3 : ((a : Int) + 1).toNat = a + 1 := by omega
  have z1 : (a : Int) + 1 < s.size := by omega
  obtain ⟨e, he⟩ : ∃ e, a + runN rn (s.data.toList.drop a) = e := ⟨_, rfl⟩
  have P := fun w => run_any s a (by omega) (by omega) w
  have bd := run_bound rn s a (by omega)
  have tx : (s.extract a e).data.toList = (s.data.toList.drop a).take (runN rn (s.data.toList.drop a)) := by rw [← he]; exact ext_run s a _
  rw [he] at P bd
  have x1 : (e : Int) ≤ s.size := by omega
  have x2 : (a : Int) ≤ e := by omega
  have RV := fun w => reserved_any (s.extract a e) w
  have SV := fun w => rsign_any ⟨#[]⟩ w
  obtain ⟨e2, he2⟩ : ∃ e2, a + 1 + runN rn (s.data.toList.drop (a + 1)) = e2 := ⟨_, rfl⟩
  have P2 := fun w => run_any s (a + 1) (by omega) (by omega) w
  have bd2 := run_bound rn s (a + 1) (by omega)
  have tx2 : (s.extract a e2).data.toList = (s.data.toList.drop a).take (runN rn (s.data.toList.drop (a + 1)) + 1) := by rw [← he2, show a + 1 + runN rn (s.data.toList.drop (a + 1)) = a + (runN rn (s.data.toList.drop (a + 1)) + 1) by omega]; exact ext_run s a _
  rw [he2] at P2 bd2
  rw [show ((a + 1 : Nat) : Int) = (a : Int) + 1 from rfl] at P2
  have x3 : (e2 : Int) ≤ s.size := by omega
  have x4 : (a : Int) ≤ e2 := by omega
  have HX : Hid (readV (one (s.data.toList.drop a)) a = Value.tuple #[tokV 3 (s.extract a e2) 0 a, .int .i64 e2, .int .i64 0]) := ⟨by
    rw [str_eq tx2, get_list s a h, one_prim (by omega) (by rw [nxt_of s (a + 1) h2]; exact hn), ← get_list s a h, readV, ← he2, show a + 1 + runN rn (s.data.toList.drop (a + 1)) = a + (runN rn (s.data.toList.drop (a + 1)) + 1) by omega]⟩
  clear he tx he2 tx2
  go_enter Tryd.func38, Tryd.ntmps38
  go_wp2_with (first
    | (go_at_call 57; refine (rsmall_any _ _).mono ?_; rintro e w1 ⟨rfl, hw⟩; subst w1)
    | (go_at_call 59; refine (rlarge_any _ _).mono ?_; rintro e w1 ⟨rfl, hw⟩; subst w1)
    | (go_at_call 60; refine (rdigit_any _ _).mono ?_; rintro e w1 ⟨rfl, hw⟩; subst w1)
    | (go_at_call 56; refine (P _).mono ?_; rintro e w1 ⟨rfl, hw⟩; subst w1; clear P; have P := P2)
    | (go_at_call 58; refine (RV _).mono ?_; rintro e w1 ⟨rfl, hw⟩; subst w1)
    | (go_at_call 62; refine (SV _).mono ?_; rintro e w1 ⟨rfl, hw⟩; subst w1))
  refine bodyPost_ret (v := .tuple #[tokV 3 (s.extract a e2) 0 a, .int .i64 e2, .int .i64 0]) (by simp [results, Tryd.results38, go_sem, tokV]) rfl ⟨by rw [HX.out], ?_⟩
  go_grown

end Go.Proofs.YtcbdolflgpmaoaaDoor


/- The document's own reading of one token: numbers. -/
namespace Go.Proofs.YtcbdolflgpmaoaaDoor
open Go.RowKit
set_option linter.unusedVariables false

set_option maxRecDepth 100000 in
set_option maxHeartbeats 4000000 in
theorem one_dig_n (s : ByteArray) (a : Nat) (h : a < s.size) (hs : s.size ≤ 281474976710656) (w : World) (h2 : a + 1 < s.size) (hsm : sm ((s[a]'h).toNat : Int) = false) (hgr : gr ((s[a]'h).toNat : Int) = false) (hc : ¬ ((s[a]'h).toNat : Int) = 35) (hdg : dg ((s[a]'h).toNat : Int) = true) :
    Calls Tryd.prog 38 #[.string s, .int .i64 a] w fun e w' => e = .returned (readV (one (s.data.toList.drop a)) a) ∧ Below w.heap.size w w' := by
  have z0 : (a : Int) < s.size := by omega
  have z4 : (a : Int) ≤ s.size := by omega
  have z5 : (a : Int) + 1 ≤ s.size := by omega
  have sm0 : sm 0 = false := by decide
  have dg0 : dg 0 = false := by decide
  have sm35 : sm 35 = false := by decide
  have gr35 : gr 35 = false := by decide
  have dg35 : dg 35 = false := by decide
  have sm45 : sm 45 = false := by decide
  have gr45 : gr 45 = false := by decide
  have dg45 : dg 45 = false := by decide
  have z2 : (0 : Int) ≤ (a : Int) + 1 := by omega
  have z3 : ((a : Int) + 1).toNat = a + 1 := by omega
  have z1 : (a : Int) + 1 < s.size := by omega
  obtain ⟨e, he⟩ : ∃ e, a + runN rn (s.data.toList.drop a) = e := ⟨_, rfl⟩
  have P := fun w => run_any s a (by omega) (by omega) w
  have bd := run_bound rn s a (by omega)
  have tx : (s.extract a e).data.toList = (s.data.toList.drop a).take (runN rn (s.data.toList.drop a)) := by rw [← he]; exact ext_run s a _
  rw [he] at P bd
  have x1 : (e : Int) ≤ s.size := by omega
  have x2 : (a : Int) ≤ e := by omega
  have RV := fun w => reserved_any (s.extract a e) w
  have SV := fun w => rsign_any ⟨#[]⟩ w
  have hD : dg (s[a]'h).toNat = true ∨ ((s[a]'h).toNat = 45 ∧ dg (nxt (s.data.toList.drop (a + 1))) = true) := .inl hdg
  obtain ⟨e2, he2⟩ : ∃ e2, a + 1 + runN dg (s.data.toList.drop (a + 1)) = e2 := ⟨_, rfl⟩
  have bd2 := run_bound dg s (a + 1) (by omega)
  have tx2 : (s.extract a e2).data.toList = (s.data.toList.drop a).take (runN dg (s.data.toList.drop (a + 1)) + 1) := by rw [← he2, show a + 1 + runN dg (s.data.toList.drop (a + 1)) = a + (runN dg (s.data.toList.drop (a + 1)) + 1) by omega]; exact ext_run s a _
  have HE2 : Hid (a + 1 + runN dg (s.data.toList.drop (a + 1)) = e2) := ⟨he2⟩
  rw [he2] at bd2
  have x3 : (e2 : Int) ≤ s.size := by omega
  have x4 : (a : Int) ≤ e2 := by omega
  have tl : (s.extract a e2).data.toList = s[a]'h :: (s.data.toList.drop (a + 1)).take (runN dg (s.data.toList.drop (a + 1))) := by rw [tx2, get_list s a h, List.take_succ_cons]
  have NA := number_any (s.extract a e2) _ _ tl (run_all dg _) (hD.imp id (fun q => ⟨q.1, dig_ne q.2⟩)) (by rw [← size_list, tx2]; simp; omega)
  rw [← tl, tx2] at NA
  have HO := one_num (c := s[a]'h) (r := s.data.toList.drop (a + 1)) hsm hgr (by omega) hD
  rw [← get_list s a h] at HO
  clear tx2 tl hD he tx
  rcases NA with ⟨v, nv, NA⟩ | ⟨nv, NA⟩
  · rw [nv] at HO
    have HX : Hid (readV (one (s.data.toList.drop a)) a = Value.tuple #[tokV 4 ⟨#[]⟩ v a, .int .i64 e2, .int .i64 0]) := ⟨by
      rw [HO, readV, ← he2, show a + 1 + runN dg (s.data.toList.drop (a + 1)) = a + (runN dg (s.data.toList.drop (a + 1)) + 1) by omega]
      rfl⟩
    clear he2 HO nv
    go_enter Tryd.func38, Tryd.ntmps38
    go_wp2_with (first
      | (go_at_call 57; refine (rsmall_any _ _).mono ?_; rintro e w1 ⟨rfl, hw⟩; subst w1)
      | (go_at_call 59; refine (rlarge_any _ _).mono ?_; rintro e w1 ⟨rfl, hw⟩; subst w1)
      | (go_at_call 60; refine (rdigit_any _ _).mono ?_; rintro e w1 ⟨rfl, hw⟩; subst w1)
      | (go_at_call 56; refine (P _).mono ?_; rintro e w1 ⟨rfl, hw⟩; subst w1)
      | (go_at_call 58; refine (RV _).mono ?_; rintro e w1 ⟨rfl, hw⟩; subst w1)
      | (go_at_call 62; refine (SV _).mono ?_; rintro e w1 ⟨rfl, hw⟩; subst w1))
    go_loopw [9] (fun c wr => ∃ k : Nat, c = .int .i64 k ∧ a + 1 ≤ k ∧ k ≤ s.size ∧ Hid (k + runN dg (s.data.toList.drop k) = e2) ∧ w.alloc (Obj.cells #[.int .i64 0, .string ⟨#[]⟩, .int .i64 0, .int .i64 0] 70) = wr) (fun c _ => s.size - (intOf c).toNat)
    case atStart => exact ⟨a + 1, by go_num, Nat.le_refl _, by omega, HE2, rfl⟩
    case round =>
      obtain ⟨k, rfl, hk1, hk2, HK, rfl⟩ := hrel
      by_cases hlt : k < s.size
      · have Q := rdigit_any ((s[k]'hlt).toNat) (w.alloc (Obj.cells #[.int .i64 0, .string ⟨#[]⟩, .int .i64 0, .int .i64 0] 70))
        have E := run_step dg s k hlt
        obtain ⟨b, hb⟩ : ∃ b, dg ((s[k]'hlt).toNat) = b := ⟨_, rfl⟩
        rw [hb] at Q E
        clear hb
        have HE : Hid (runN dg (s.data.toList.drop k) = if b then runN dg (s.data.toList.drop (k + 1)) + 1 else 0) := ⟨E⟩
        clear E
        cases b
        · obtain rfl : e2 = k := by have h1 := HK.out; rw [HE.out] at h1; simp at h1; exact h1.symm
          go_wp2_with (first | (go_at_call 60; refine Q.mono ?_; rintro e w1 ⟨rfl, hw⟩; subst w1) | (go_at_call 61; refine (NA _).mono ?_; rintro e w1 ⟨rfl, hw⟩; subst w1))
          refine bodyPost_ret (v := .tuple #[tokV 4 ⟨#[]⟩ v a, .int .i64 e2, .int .i64 0]) (by simp [results, Tryd.results38, go_sem, tokV]) rfl ⟨by rw [HX.out], ?_⟩
          go_grown
        · go_wp2_with (go_at_call 60; refine Q.mono ?_; rintro e w1 ⟨rfl, hw⟩; subst w1)
          go_roundw
          case rel => exact ⟨k + 1, by go_num, by omega, by omega, ⟨by have h1 := HK.out; rw [HE.out] at h1; simp at h1; omega⟩, by first | rfl | trivial⟩
          case measure => simp [intOf]; omega
      · obtain rfl : k = s.size := by omega
        obtain rfl : e2 = s.size := by have h1 := HK.out; rw [List.drop_eq_nil_of_le (by simp)] at h1; simp [runN] at h1; exact h1.symm
        go_wp2_with (go_at_call 61; refine (NA _).mono ?_; rintro e w1 ⟨rfl, hw⟩; subst w1)
        refine bodyPost_ret (v := .tuple #[tokV 4 ⟨#[]⟩ v a, .int .i64 s.size, .int .i64 0]) (by simp [results, Tryd.results38, go_sem, tokV]) rfl ⟨by rw [HX.out], ?_⟩
        go_grown

  · rw [nv] at HO
    have HX : Hid (readV (one (s.data.toList.drop a)) a = Value.tuple #[tokV 0 ⟨#[]⟩ 0 0, .int .i64 0, .int .i64 22]) := ⟨by rw [HO]; rfl⟩
    clear he2 HO nv
    go_enter Tryd.func38, Tryd.ntmps38
    go_wp2_with (first
      | (go_at_call 57; refine (rsmall_any _ _).mono ?_; rintro e w1 ⟨rfl, hw⟩; subst w1)
      | (go_at_call 59; refine (rlarge_any _ _).mono ?_; rintro e w1 ⟨rfl, hw⟩; subst w1)
      | (go_at_call 60; refine (rdigit_any _ _).mono ?_; rintro e w1 ⟨rfl, hw⟩; subst w1)
      | (go_at_call 56; refine (P _).mono ?_; rintro e w1 ⟨rfl, hw⟩; subst w1)
      | (go_at_call 58; refine (RV _).mono ?_; rintro e w1 ⟨rfl, hw⟩; subst w1)
      | (go_at_call 62; refine (SV _).mono ?_; rintro e w1 ⟨rfl, hw⟩; subst w1))
    go_loopw [9] (fun c wr => ∃ k : Nat, c = .int .i64 k ∧ a + 1 ≤ k ∧ k ≤ s.size ∧ Hid (k + runN dg (s.data.toList.drop k) = e2) ∧ w.alloc (Obj.cells #[.int .i64 0, .string ⟨#[]⟩, .int .i64 0, .int .i64 0] 70) = wr) (fun c _ => s.size - (intOf c).toNat)
    case atStart => exact ⟨a + 1, by go_num, Nat.le_refl _, by omega, HE2, rfl⟩
    case round =>
      obtain ⟨k, rfl, hk1, hk2, HK, rfl⟩ := hrel
      by_cases hlt : k < s.size
      · have Q := rdigit_any ((s[k]'hlt).toNat) (w.alloc (Obj.cells #[.int .i64 0, .string ⟨#[]⟩, .int .i64 0, .int .i64 0] 70))
        have E := run_step dg s k hlt
        obtain ⟨b, hb⟩ : ∃ b, dg ((s[k]'hlt).toNat) = b := ⟨_, rfl⟩
        rw [hb] at Q E
        clear hb
        have HE : Hid (runN dg (s.data.toList.drop k) = if b then runN dg (s.data.toList.drop (k + 1)) + 1 else 0) := ⟨E⟩
        clear E
        cases b
        · obtain rfl : e2 = k := by have h1 := HK.out; rw [HE.out] at h1; simp at h1; exact h1.symm
          go_wp2_with (first | (go_at_call 60; refine Q.mono ?_; rintro e w1 ⟨rfl, hw⟩; subst w1) | (go_at_call 61; refine (NA _).mono ?_; rintro e w1 ⟨⟨x, rfl⟩, hw⟩; subst w1))
          refine bodyPost_ret (v := .tuple #[tokV 0 ⟨#[]⟩ 0 0, .int .i64 0, .int .i64 22]) (by simp [results, Tryd.results38, go_sem, tokV]) rfl ⟨by rw [HX.out], ?_⟩
          go_grown
        · go_wp2_with (go_at_call 60; refine Q.mono ?_; rintro e w1 ⟨rfl, hw⟩; subst w1)
          go_roundw
          case rel => exact ⟨k + 1, by go_num, by omega, by omega, ⟨by have h1 := HK.out; rw [HE.out] at h1; simp at h1; omega⟩, by first | rfl | trivial⟩
          case measure => simp [intOf]; omega
      · obtain rfl : k = s.size := by omega
        obtain rfl : e2 = s.size := by have h1 := HK.out; rw [List.drop_eq_nil_of_le (by simp)] at h1; simp [runN] at h1; exact h1.symm
        go_wp2_with (go_at_call 61; refine (NA _).mono ?_; rintro e w1 ⟨⟨x, rfl⟩, hw⟩; subst w1)
        refine bodyPost_ret (v := .tuple #[tokV 0 ⟨#[]⟩ 0 0, .int .i64 0, .int .i64 22]) (by simp [results, Tryd.results38, go_sem, tokV]) rfl ⟨by rw [HX.out], ?_⟩
        go_grown


set_option maxRecDepth 100000 in
set_option maxHeartbeats 4000000 in
theorem one_dig_e (s : ByteArray) (a : Nat) (h : a < s.size) (hs : s.size ≤ 281474976710656) (w : World) (h2 : ¬ a + 1 < s.size) (hsm : sm ((s[a]'h).toNat : Int) = false) (hgr : gr ((s[a]'h).toNat : Int) = false) (hc : ¬ ((s[a]'h).toNat : Int) = 35) (hdg : dg ((s[a]'h).toNat : Int) = true) :
    Calls Tryd.prog 38 #[.string s, .int .i64 a] w fun e w' => e = .returned (readV (one (s.data.toList.drop a)) a) ∧ Below w.heap.size w w' := by
  have z0 : (a : Int) < s.size := by omega
  have z4 : (a : Int) ≤ s.size := by omega
  have z5 : (a : Int) + 1 ≤ s.size := by omega
  have sm0 : sm 0 = false := by decide
  have dg0 : dg 0 = false := by decide
  have sm35 : sm 35 = false := by decide
  have gr35 : gr 35 = false := by decide
  have dg35 : dg 35 = false := by decide
  have sm45 : sm 45 = false := by decide
  have gr45 : gr 45 = false := by decide
  have dg45 : dg 45 = false := by decide
  have z2 : (0 : Int) ≤ (a : Int) + 1 := by omega
  have z3 : ((a : Int) + 1).toNat = a + 1 := by omega
  have z1 : ¬ (a : Int) + 1 < s.size := by omega
  obtain ⟨e, he⟩ : ∃ e, a + runN rn (s.data.toList.drop a) = e := ⟨_, rfl⟩
  have P := fun w => run_any s a (by omega) (by omega) w
  have bd := run_bound rn s a (by omega)
  have tx : (s.extract a e).data.toList = (s.data.toList.drop a).take (runN rn (s.data.toList.drop a)) := by rw [← he]; exact ext_run s a _
  rw [he] at P bd
  have x1 : (e : Int) ≤ s.size := by omega
  have x2 : (a : Int) ≤ e := by omega
  have RV := fun w => reserved_any (s.extract a e) w
  have SV := fun w => rsign_any ⟨#[]⟩ w
  have hD : dg (s[a]'h).toNat = true ∨ ((s[a]'h).toNat = 45 ∧ dg (nxt (s.data.toList.drop (a + 1))) = true) := .inl hdg
  obtain ⟨e2, he2⟩ : ∃ e2, a + 1 + runN dg (s.data.toList.drop (a + 1)) = e2 := ⟨_, rfl⟩
  have bd2 := run_bound dg s (a + 1) (by omega)
  have tx2 : (s.extract a e2).data.toList = (s.data.toList.drop a).take (runN dg (s.data.toList.drop (a + 1)) + 1) := by rw [← he2, show a + 1 + runN dg (s.data.toList.drop (a + 1)) = a + (runN dg (s.data.toList.drop (a + 1)) + 1) by omega]; exact ext_run s a _
  have HE2 : Hid (a + 1 + runN dg (s.data.toList.drop (a + 1)) = e2) := ⟨he2⟩
  rw [he2] at bd2
  have x3 : (e2 : Int) ≤ s.size := by omega
  have x4 : (a : Int) ≤ e2 := by omega
  have tl : (s.extract a e2).data.toList = s[a]'h :: (s.data.toList.drop (a + 1)).take (runN dg (s.data.toList.drop (a + 1))) := by rw [tx2, get_list s a h, List.take_succ_cons]
  have NA := number_any (s.extract a e2) _ _ tl (run_all dg _) (hD.imp id (fun q => ⟨q.1, dig_ne q.2⟩)) (by rw [← size_list, tx2]; simp; omega)
  rw [← tl, tx2] at NA
  have HO := one_num (c := s[a]'h) (r := s.data.toList.drop (a + 1)) hsm hgr (by omega) hD
  rw [← get_list s a h] at HO
  clear tx2 tl hD he tx
  rcases NA with ⟨v, nv, NA⟩ | ⟨nv, NA⟩
  · rw [nv] at HO
    have HX : Hid (readV (one (s.data.toList.drop a)) a = Value.tuple #[tokV 4 ⟨#[]⟩ v a, .int .i64 e2, .int .i64 0]) := ⟨by
      rw [HO, readV, ← he2, show a + 1 + runN dg (s.data.toList.drop (a + 1)) = a + (runN dg (s.data.toList.drop (a + 1)) + 1) by omega]
      rfl⟩
    clear he2 HO nv
    go_enter Tryd.func38, Tryd.ntmps38
    go_wp2_with (first
      | (go_at_call 57; refine (rsmall_any _ _).mono ?_; rintro e w1 ⟨rfl, hw⟩; subst w1)
      | (go_at_call 59; refine (rlarge_any _ _).mono ?_; rintro e w1 ⟨rfl, hw⟩; subst w1)
      | (go_at_call 60; refine (rdigit_any _ _).mono ?_; rintro e w1 ⟨rfl, hw⟩; subst w1)
      | (go_at_call 56; refine (P _).mono ?_; rintro e w1 ⟨rfl, hw⟩; subst w1)
      | (go_at_call 58; refine (RV _).mono ?_; rintro e w1 ⟨rfl, hw⟩; subst w1)
      | (go_at_call 62; refine (SV _).mono ?_; rintro e w1 ⟨rfl, hw⟩; subst w1))
    go_loopw [9] (fun c wr => ∃ k : Nat, c = .int .i64 k ∧ a + 1 ≤ k ∧ k ≤ s.size ∧ Hid (k + runN dg (s.data.toList.drop k) = e2) ∧ w.alloc (Obj.cells #[.int .i64 0, .string ⟨#[]⟩, .int .i64 0, .int .i64 0] 70) = wr) (fun c _ => s.size - (intOf c).toNat)
    case atStart => exact ⟨a + 1, by go_num, Nat.le_refl _, by omega, HE2, rfl⟩
    case round =>
      obtain ⟨k, rfl, hk1, hk2, HK, rfl⟩ := hrel
      by_cases hlt : k < s.size
      · exact absurd hlt (by omega)
      · obtain rfl : k = s.size := by omega
        obtain rfl : e2 = s.size := by have h1 := HK.out; rw [List.drop_eq_nil_of_le (by simp)] at h1; simp [runN] at h1; exact h1.symm
        go_wp2_with (go_at_call 61; refine (NA _).mono ?_; rintro e w1 ⟨rfl, hw⟩; subst w1)
        refine bodyPost_ret (v := .tuple #[tokV 4 ⟨#[]⟩ v a, .int .i64 s.size, .int .i64 0]) (by simp [results, Tryd.results38, go_sem, tokV]) rfl ⟨by rw [HX.out], ?_⟩
        go_grown

  · rw [nv] at HO
    have HX : Hid (readV (one (s.data.toList.drop a)) a = Value.tuple #[tokV 0 ⟨#[]⟩ 0 0, .int .i64 0, .int .i64 22]) := ⟨by rw [HO]; rfl⟩
    clear he2 HO nv
    go_enter Tryd.func38, Tryd.ntmps38
    go_wp2_with (first
      | (go_at_call 57; refine (rsmall_any _ _).mono ?_; rintro e w1 ⟨rfl, hw⟩; subst w1)
      | (go_at_call 59; refine (rlarge_any _ _).mono ?_; rintro e w1 ⟨rfl, hw⟩; subst w1)
      | (go_at_call 60; refine (rdigit_any _ _).mono ?_; rintro e w1 ⟨rfl, hw⟩; subst w1)
      | (go_at_call 56; refine (P _).mono ?_; rintro e w1 ⟨rfl, hw⟩; subst w1)
      | (go_at_call 58; refine (RV _).mono ?_; rintro e w1 ⟨rfl, hw⟩; subst w1)
      | (go_at_call 62; refine (SV _).mono ?_; rintro e w1 ⟨rfl, hw⟩; subst w1))
    go_loopw [9] (fun c wr => ∃ k : Nat, c = .int .i64 k ∧ a + 1 ≤ k ∧ k ≤ s.size ∧ Hid (k + runN dg (s.data.toList.drop k) = e2) ∧ w.alloc (Obj.cells #[.int .i64 0, .string ⟨#[]⟩, .int .i64 0, .int .i64 0] 70) = wr) (fun c _ => s.size - (intOf c).toNat)
    case atStart => exact ⟨a + 1, by go_num, Nat.le_refl _, by omega, HE2, rfl⟩
    case round =>
      obtain ⟨k, rfl, hk1, hk2, HK, rfl⟩ := hrel
      by_cases hlt : k < s.size
      · exact absurd hlt (by omega)
      · obtain rfl : k = s.size := by omega
        obtain rfl : e2 = s.size := by have h1 := HK.out; rw [List.drop_eq_nil_of_le (by simp)] at h1; simp [runN] at h1; exact h1.symm
        go_wp2_with (go_at_call 61; refine (NA _).mono ?_; rintro e w1 ⟨⟨x, rfl⟩, hw⟩; subst w1)
        refine bodyPost_ret (v := .tuple #[tokV 0 ⟨#[]⟩ 0 0, .int .i64 0, .int .i64 22]) (by simp [results, Tryd.results38, go_sem, tokV]) rfl ⟨by rw [HX.out], ?_⟩
        go_grown


set_option maxRecDepth 100000 in
set_option maxHeartbeats 4000000 in
theorem one_minus (s : ByteArray) (a : Nat) (h : a < s.size) (hs : s.size ≤ 281474976710656) (w : World) (h2 : a + 1 < s.size) (hc : ((s[a]'h).toNat : Int) = 45) (hn : dg ((s[a + 1]'h2).toNat : Int) = true) :
    Calls Tryd.prog 38 #[.string s, .int .i64 a] w fun e w' => e = .returned (readV (one (s.data.toList.drop a)) a) ∧ Below w.heap.size w w' := by
  have z0 : (a : Int) < s.size := by omega
  have z4 : (a : Int) ≤ s.size := by omega
  have z5 : (a : Int) + 1 ≤ s.size := by omega
  have sm0 : sm 0 = false := by decide
  have dg0 : dg 0 = false := by decide
  have sm35 : sm 35 = false := by decide
  have gr35 : gr 35 = false := by decide
  have dg35 : dg 35 = false := by decide
  have sm45 : sm 45 = false := by decide
  have gr45 : gr 45 = false := by decide
  have dg45 : dg 45 = false := by decide
  have z2 : (0 : Int) ≤ (a : Int) + 1 := by omega
  have z3 : ((a : Int) + 1).toNat = a + 1 := by omega
  have z1 : (a : Int) + 1 < s.size := by omega
  obtain ⟨e, he⟩ : ∃ e, a + runN rn (s.data.toList.drop a) = e := ⟨_, rfl⟩
  have P := fun w => run_any s a (by omega) (by omega) w
  have bd := run_bound rn s a (by omega)
  have tx : (s.extract a e).data.toList = (s.data.toList.drop a).take (runN rn (s.data.toList.drop a)) := by rw [← he]; exact ext_run s a _
  rw [he] at P bd
  have x1 : (e : Int) ≤ s.size := by omega
  have x2 : (a : Int) ≤ e := by omega
  have RV := fun w => reserved_any (s.extract a e) w
  have SV := fun w => rsign_any ⟨#[]⟩ w
  have hD : dg (s[a]'h).toNat = true ∨ ((s[a]'h).toNat = 45 ∧ dg (nxt (s.data.toList.drop (a + 1))) = true) := .inr ⟨by omega, by rw [nxt_of s (a + 1) h2]; exact hn⟩
  obtain ⟨e2, he2⟩ : ∃ e2, a + 1 + runN dg (s.data.toList.drop (a + 1)) = e2 := ⟨_, rfl⟩
  have bd2 := run_bound dg s (a + 1) (by omega)
  have tx2 : (s.extract a e2).data.toList = (s.data.toList.drop a).take (runN dg (s.data.toList.drop (a + 1)) + 1) := by rw [← he2, show a + 1 + runN dg (s.data.toList.drop (a + 1)) = a + (runN dg (s.data.toList.drop (a + 1)) + 1) by omega]; exact ext_run s a _
  have HE2 : Hid (a + 1 + runN dg (s.data.toList.drop (a + 1)) = e2) := ⟨he2⟩
  rw [he2] at bd2
  have x3 : (e2 : Int) ≤ s.size := by omega
  have x4 : (a : Int) ≤ e2 := by omega
  have tl : (s.extract a e2).data.toList = s[a]'h :: (s.data.toList.drop (a + 1)).take (runN dg (s.data.toList.drop (a + 1))) := by rw [tx2, get_list s a h, List.take_succ_cons]
  have NA := number_any (s.extract a e2) _ _ tl (run_all dg _) (hD.imp id (fun q => ⟨q.1, dig_ne q.2⟩)) (by rw [← size_list, tx2]; simp; omega)
  rw [← tl, tx2] at NA
  have HO := one_num (c := s[a]'h) (r := s.data.toList.drop (a + 1)) (by rw [hc]; decide) (by rw [hc]; decide) (by omega) hD
  rw [← get_list s a h] at HO
  clear tx2 tl hD he tx
  rcases NA with ⟨v, nv, NA⟩ | ⟨nv, NA⟩
  · rw [nv] at HO
    have HX : Hid (readV (one (s.data.toList.drop a)) a = Value.tuple #[tokV 4 ⟨#[]⟩ v a, .int .i64 e2, .int .i64 0]) := ⟨by
      rw [HO, readV, ← he2, show a + 1 + runN dg (s.data.toList.drop (a + 1)) = a + (runN dg (s.data.toList.drop (a + 1)) + 1) by omega]
      rfl⟩
    clear he2 HO nv
    go_enter Tryd.func38, Tryd.ntmps38
    go_wp2_with (first
      | (go_at_call 57; refine (rsmall_any _ _).mono ?_; rintro e w1 ⟨rfl, hw⟩; subst w1)
      | (go_at_call 59; refine (rlarge_any _ _).mono ?_; rintro e w1 ⟨rfl, hw⟩; subst w1)
      | (go_at_call 60; refine (rdigit_any _ _).mono ?_; rintro e w1 ⟨rfl, hw⟩; subst w1)
      | (go_at_call 56; refine (P _).mono ?_; rintro e w1 ⟨rfl, hw⟩; subst w1)
      | (go_at_call 58; refine (RV _).mono ?_; rintro e w1 ⟨rfl, hw⟩; subst w1)
      | (go_at_call 62; refine (SV _).mono ?_; rintro e w1 ⟨rfl, hw⟩; subst w1))
    go_loopw [9] (fun c wr => ∃ k : Nat, c = .int .i64 k ∧ a + 1 ≤ k ∧ k ≤ s.size ∧ Hid (k + runN dg (s.data.toList.drop k) = e2) ∧ w.alloc (Obj.cells #[.int .i64 0, .string ⟨#[]⟩, .int .i64 0, .int .i64 0] 70) = wr) (fun c _ => s.size - (intOf c).toNat)
    case atStart => exact ⟨a + 1, by go_num, Nat.le_refl _, by omega, HE2, rfl⟩
    case round =>
      obtain ⟨k, rfl, hk1, hk2, HK, rfl⟩ := hrel
      by_cases hlt : k < s.size
      · have Q := rdigit_any ((s[k]'hlt).toNat) (w.alloc (Obj.cells #[.int .i64 0, .string ⟨#[]⟩, .int .i64 0, .int .i64 0] 70))
        have E := run_step dg s k hlt
        obtain ⟨b, hb⟩ : ∃ b, dg ((s[k]'hlt).toNat) = b := ⟨_, rfl⟩
        rw [hb] at Q E
        clear hb
        have HE : Hid (runN dg (s.data.toList.drop k) = if b then runN dg (s.data.toList.drop (k + 1)) + 1 else 0) := ⟨E⟩
        clear E
        cases b
        · obtain rfl : e2 = k := by have h1 := HK.out; rw [HE.out] at h1; simp at h1; exact h1.symm
          go_wp2_with (first | (go_at_call 60; refine Q.mono ?_; rintro e w1 ⟨rfl, hw⟩; subst w1) | (go_at_call 61; refine (NA _).mono ?_; rintro e w1 ⟨rfl, hw⟩; subst w1))
          refine bodyPost_ret (v := .tuple #[tokV 4 ⟨#[]⟩ v a, .int .i64 e2, .int .i64 0]) (by simp [results, Tryd.results38, go_sem, tokV]) rfl ⟨by rw [HX.out], ?_⟩
          go_grown
        · go_wp2_with (go_at_call 60; refine Q.mono ?_; rintro e w1 ⟨rfl, hw⟩; subst w1)
          go_roundw
          case rel => exact ⟨k + 1, by go_num, by omega, by omega, ⟨by have h1 := HK.out; rw [HE.out] at h1; simp at h1; omega⟩, by first | rfl | trivial⟩
          case measure => simp [intOf]; omega
      · obtain rfl : k = s.size := by omega
        obtain rfl : e2 = s.size := by have h1 := HK.out; rw [List.drop_eq_nil_of_le (by simp)] at h1; simp [runN] at h1; exact h1.symm
        go_wp2_with (go_at_call 61; refine (NA _).mono ?_; rintro e w1 ⟨rfl, hw⟩; subst w1)
        refine bodyPost_ret (v := .tuple #[tokV 4 ⟨#[]⟩ v a, .int .i64 s.size, .int .i64 0]) (by simp [results, Tryd.results38, go_sem, tokV]) rfl ⟨by rw [HX.out], ?_⟩
        go_grown

  · rw [nv] at HO
    have HX : Hid (readV (one (s.data.toList.drop a)) a = Value.tuple #[tokV 0 ⟨#[]⟩ 0 0, .int .i64 0, .int .i64 22]) := ⟨by rw [HO]; rfl⟩
    clear he2 HO nv
    go_enter Tryd.func38, Tryd.ntmps38
    go_wp2_with (first
      | (go_at_call 57; refine (rsmall_any _ _).mono ?_; rintro e w1 ⟨rfl, hw⟩; subst w1)
      | (go_at_call 59; refine (rlarge_any _ _).mono ?_; rintro e w1 ⟨rfl, hw⟩; subst w1)
      | (go_at_call 60; refine (rdigit_any _ _).mono ?_; rintro e w1 ⟨rfl, hw⟩; subst w1)
      | (go_at_call 56; refine (P _).mono ?_; rintro e w1 ⟨rfl, hw⟩; subst w1)
      | (go_at_call 58; refine (RV _).mono ?_; rintro e w1 ⟨rfl, hw⟩; subst w1)
      | (go_at_call 62; refine (SV _).mono ?_; rintro e w1 ⟨rfl, hw⟩; subst w1))
    go_loopw [9] (fun c wr => ∃ k : Nat, c = .int .i64 k ∧ a + 1 ≤ k ∧ k ≤ s.size ∧ Hid (k + runN dg (s.data.toList.drop k) = e2) ∧ w.alloc (Obj.cells #[.int .i64 0, .string ⟨#[]⟩, .int .i64 0, .int .i64 0] 70) = wr) (fun c _ => s.size - (intOf c).toNat)
    case atStart => exact ⟨a + 1, by go_num, Nat.le_refl _, by omega, HE2, rfl⟩
    case round =>
      obtain ⟨k, rfl, hk1, hk2, HK, rfl⟩ := hrel
      by_cases hlt : k < s.size
      · have Q := rdigit_any ((s[k]'hlt).toNat) (w.alloc (Obj.cells #[.int .i64 0, .string ⟨#[]⟩, .int .i64 0, .int .i64 0] 70))
        have E := run_step dg s k hlt
        obtain ⟨b, hb⟩ : ∃ b, dg ((s[k]'hlt).toNat) = b := ⟨_, rfl⟩
        rw [hb] at Q E
        clear hb
        have HE : Hid (runN dg (s.data.toList.drop k) = if b then runN dg (s.data.toList.drop (k + 1)) + 1 else 0) := ⟨E⟩
        clear E
        cases b
        · obtain rfl : e2 = k := by have h1 := HK.out; rw [HE.out] at h1; simp at h1; exact h1.symm
          go_wp2_with (first | (go_at_call 60; refine Q.mono ?_; rintro e w1 ⟨rfl, hw⟩; subst w1) | (go_at_call 61; refine (NA _).mono ?_; rintro e w1 ⟨⟨x, rfl⟩, hw⟩; subst w1))
          refine bodyPost_ret (v := .tuple #[tokV 0 ⟨#[]⟩ 0 0, .int .i64 0, .int .i64 22]) (by simp [results, Tryd.results38, go_sem, tokV]) rfl ⟨by rw [HX.out], ?_⟩
          go_grown
        · go_wp2_with (go_at_call 60; refine Q.mono ?_; rintro e w1 ⟨rfl, hw⟩; subst w1)
          go_roundw
          case rel => exact ⟨k + 1, by go_num, by omega, by omega, ⟨by have h1 := HK.out; rw [HE.out] at h1; simp at h1; omega⟩, by first | rfl | trivial⟩
          case measure => simp [intOf]; omega
      · obtain rfl : k = s.size := by omega
        obtain rfl : e2 = s.size := by have h1 := HK.out; rw [List.drop_eq_nil_of_le (by simp)] at h1; simp [runN] at h1; exact h1.symm
        go_wp2_with (go_at_call 61; refine (NA _).mono ?_; rintro e w1 ⟨⟨x, rfl⟩, hw⟩; subst w1)
        refine bodyPost_ret (v := .tuple #[tokV 0 ⟨#[]⟩ 0 0, .int .i64 0, .int .i64 22]) (by simp [results, Tryd.results38, go_sem, tokV]) rfl ⟨by rw [HX.out], ?_⟩
        go_grown


end Go.Proofs.YtcbdolflgpmaoaaDoor

