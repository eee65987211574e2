/- Package lex's reading of one token: signs, and what is none; all together. -/
import Derived.Test.YtoedeedoecdajaaDoorRead
namespace Go.Proofs.YtoedeedoecdajaaDoor
open Go.RowKit
set_option linter.unusedVariables false

set_option maxHeartbeats 2000000 in
theorem read_hash_n_f (s : ByteArray) (a : Nat) (h : a < s.size) (hs : s.size ≤ 281474976710656) (w : World) (L : Laid w) (h2 : a + 1 < s.size) (hc : ((s[a]'h).toNat : Int) = 35) (hn : sm ((s[a + 1]'h2).toNat : Int) = false) (hg : ¬ signL (s.data.toList.drop a) = []) :
    Calls Tryd.prog 34 #[.string s, .int .i64 a] w fun e w' => e = .returned (readV (readT (s.data.toList.drop a)) a) ∧ Below w.heap.size w w' := by
  have G := Tk4.fresh w 0 ⟨#[]⟩ 0 0
  have L1 := L.later (Joins.below_alloc1 w (Obj.cells #[.int .i64 0, .string ⟨#[]⟩, .int .i64 0, .int .i64 0] 39))
  have z0 : (a : Int) < s.size := by omega
  have z4 : (a : Int) ≤ s.size := by omega
  have sm0 : sm 0 = false := by decide
  have dg0 : dg 0 = false := by decide
  have sm35 : sm 35 = false := by decide
  have gr35 : gr 35 = false := by decide
  have dg35 : dg 35 = false := by decide
  have sm45 : sm 45 = false := by decide
  have gr45 : gr 45 = false := by decide
  have dg45 : dg 45 = false := by decide
  have z1 : (a : Int) + 1 < s.size := by omega
  have z2 : (0 : Int) ≤ (a : Int) + 1 := by omega
  have z3 : ((a : Int) + 1).toNat = a + 1 := by omega
  have hR : readT (s.data.toList.drop a) = if signL (s.data.toList.drop a) = [] then .error 20 else wordR 5 (signL (s.data.toList.drop a)) := by
    rw [get_list s a h]
    exact readT_sign (by rw [hc]; decide) (by rw [hc]; decide) (by rw [nxt_of s (a + 1) h2]; rintro ⟨_, q⟩; rw [hn] at q; cases q) (by rw [hc]; rintro (q | ⟨q, _⟩); (exact absurd q (by decide)); omega)
  have SG := fun w L => signOf_any (s.extract a s.size) (by simp [ByteArray.size_extract]; omega) w L
  rw [ext_end] at SG
  rw [if_neg hg] at hR
  obtain ⟨g, hgg⟩ : ∃ g, str (signL (s.data.toList.drop a)) = g := ⟨_, rfl⟩
  have gl : g.data.toList = signL (s.data.toList.drop a) := by rw [← hgg, str_list]
  have gz : (g.toList == []) = false := by rw [ByteArray.toList_eq, gl]; simpa using hg
  rw [hgg] at SG
  obtain ⟨K, T, A, E1, E2, HV, W⟩ := worded_any 5 a g (by omega)
  simp only [tokV] at W
  have HX : Hid (readV (readT (s.data.toList.drop a)) a = Value.tuple #[tokV K T 0 A, .int .i64 E1, .int .i64 E2]) := ⟨by rw [HV.out, gl, hR]⟩
  clear HV hgg gl hR hg
  go_enter Tryd.func34, Tryd.ntmps34
  go_wp2_with (first
    | (go_at_call 59; refine (isSmall_any _ _).mono ?_; rintro e w1 ⟨rfl, hw⟩; subst w1)
    | (go_at_call 64; refine (isGreat_any _ _).mono ?_; rintro e w1 ⟨rfl, hw⟩; subst w1)
    | (go_at_call 65; refine (isDigit_any _ _).mono ?_; rintro e w1 ⟨rfl, hw⟩; subst w1)
    | (go_at_call 67; refine (SG _ L1).mono ?_; rintro e w1 ⟨rfl, B1⟩; have G1 := G.later B1)
    | (go_at_call 62; refine (W _).mono ?_; rintro e w2 ⟨rfl, B2⟩; have G2 := G1.later B2; have f0 := G2.free 0; have f1 := G2.free 1; have f2 := G2.free 2; have f3 := G2.free 3; obtain ⟨y0, y1, y2, y3⟩ := G2.at))
  refine bodyPost_ret (v := .tuple #[tokV K T 0 A, .int .i64 E1, .int .i64 E2]) (by simp [results, Tryd.results34, go_sem, tokV, y0, y1, y2, y3]) rfl ⟨by rw [HX.out], ?_⟩
  exact (((((far1 B1).trans (Joins.below_le B2 (far1 B1).size)).setCell (by simp) _).setCell (by simp) _).setCell (by simp) _).setCell (by simp) _

set_option maxHeartbeats 2000000 in
theorem read_hash_n_n (s : ByteArray) (a : Nat) (h : a < s.size) (hs : s.size ≤ 281474976710656) (w : World) (L : Laid w) (h2 : a + 1 < s.size) (hc : ((s[a]'h).toNat : Int) = 35) (hn : sm ((s[a + 1]'h2).toNat : Int) = false) (hg : signL (s.data.toList.drop a) = []) :
    Calls Tryd.prog 34 #[.string s, .int .i64 a] w fun e w' => e = .returned (readV (readT (s.data.toList.drop a)) a) ∧ Below w.heap.size w w' := by
  have G := Tk4.fresh w 0 ⟨#[]⟩ 0 0
  have L1 := L.later (Joins.below_alloc1 w (Obj.cells #[.int .i64 0, .string ⟨#[]⟩, .int .i64 0, .int .i64 0] 39))
  have z0 : (a : Int) < s.size := by omega
  have z4 : (a : Int) ≤ s.size := by omega
  have sm0 : sm 0 = false := by decide
  have dg0 : dg 0 = false := by decide
  have sm35 : sm 35 = false := by decide
  have gr35 : gr 35 = false := by decide
  have dg35 : dg 35 = false := by decide
  have sm45 : sm 45 = false := by decide
  have gr45 : gr 45 = false := by decide
  have dg45 : dg 45 = false := by decide
  have z1 : (a : Int) + 1 < s.size := by omega
  have z2 : (0 : Int) ≤ (a : Int) + 1 := by omega
  have z3 : ((a : Int) + 1).toNat = a + 1 := by omega
  have hR : readT (s.data.toList.drop a) = if signL (s.data.toList.drop a) = [] then .error 20 else wordR 5 (signL (s.data.toList.drop a)) := by
    rw [get_list s a h]
    exact readT_sign (by rw [hc]; decide) (by rw [hc]; decide) (by rw [nxt_of s (a + 1) h2]; rintro ⟨_, q⟩; rw [hn] at q; cases q) (by rw [hc]; rintro (q | ⟨q, _⟩); (exact absurd q (by decide)); omega)
  have SG := fun w L => signOf_any (s.extract a s.size) (by simp [ByteArray.size_extract]; omega) w L
  rw [ext_end] at SG
  rw [if_pos hg] at hR
  rw [hg] at SG
  rw [show str [] = ⟨#[]⟩ from rfl] at SG
  have HX : Hid (readV (readT (s.data.toList.drop a)) a = Value.tuple #[tokV 0 ⟨#[]⟩ 0 0, .int .i64 0, .int .i64 20]) := ⟨by rw [hR]; rfl⟩
  clear hR hg
  go_enter Tryd.func34, Tryd.ntmps34
  go_wp2_with (first
    | (go_at_call 59; refine (isSmall_any _ _).mono ?_; rintro e w1 ⟨rfl, hw⟩; subst w1)
    | (go_at_call 64; refine (isGreat_any _ _).mono ?_; rintro e w1 ⟨rfl, hw⟩; subst w1)
    | (go_at_call 65; refine (isDigit_any _ _).mono ?_; rintro e w1 ⟨rfl, hw⟩; subst w1)
    | (go_at_call 67; refine (SG _ L1).mono ?_; rintro e w1 ⟨rfl, B1⟩; have G1 := G.later B1; have f0 := G1.free 0; have f1 := G1.free 1; have f2 := G1.free 2; have f3 := G1.free 3; obtain ⟨y0, y1, y2, y3⟩ := G1.at))
  refine bodyPost_ret (v := .tuple #[tokV 0 ⟨#[]⟩ 0 0, .int .i64 0, .int .i64 20]) (by simp [results, Tryd.results34, go_sem, tokV, y0, y1, y2, y3]) rfl ⟨by rw [HX.out], ?_⟩
  exact ((((far1 B1).setCell (by simp) _).setCell (by simp) _).setCell (by simp) _).setCell (by simp) _

set_option maxHeartbeats 2000000 in
theorem read_hash_e_f (s : ByteArray) (a : Nat) (h : a < s.size) (hs : s.size ≤ 281474976710656) (w : World) (L : Laid w) (h2 : ¬ a + 1 < s.size) (hc : ((s[a]'h).toNat : Int) = 35) (hg : ¬ signL (s.data.toList.drop a) = []) :
    Calls Tryd.prog 34 #[.string s, .int .i64 a] w fun e w' => e = .returned (readV (readT (s.data.toList.drop a)) a) ∧ Below w.heap.size w w' := by
  have G := Tk4.fresh w 0 ⟨#[]⟩ 0 0
  have L1 := L.later (Joins.below_alloc1 w (Obj.cells #[.int .i64 0, .string ⟨#[]⟩, .int .i64 0, .int .i64 0] 39))
  have z0 : (a : Int) < s.size := by omega
  have z4 : (a : Int) ≤ s.size := by omega
  have sm0 : sm 0 = false := by decide
  have dg0 : dg 0 = false := by decide
  have sm35 : sm 35 = false := by decide
  have gr35 : gr 35 = false := by decide
  have dg35 : dg 35 = false := by decide
  have sm45 : sm 45 = false := by decide
  have gr45 : gr 45 = false := by decide
  have dg45 : dg 45 = false := by decide
  have z1 : ¬ (a : Int) + 1 < s.size := by omega
  have hR : readT (s.data.toList.drop a) = if signL (s.data.toList.drop a) = [] then .error 20 else wordR 5 (signL (s.data.toList.drop a)) := by
    rw [get_list s a h]
    exact readT_sign (by rw [hc]; decide) (by rw [hc]; decide) (by rw [nxt_end s (a + 1) h2]; rintro ⟨_, q⟩; exact absurd q (by decide)) (by rw [hc]; rintro (q | ⟨q, _⟩); (exact absurd q (by decide)); omega)
  have SG := fun w L => signOf_any (s.extract a s.size) (by simp [ByteArray.size_extract]; omega) w L
  rw [ext_end] at SG
  rw [if_neg hg] at hR
  obtain ⟨g, hgg⟩ : ∃ g, str (signL (s.data.toList.drop a)) = g := ⟨_, rfl⟩
  have gl : g.data.toList = signL (s.data.toList.drop a) := by rw [← hgg, str_list]
  have gz : (g.toList == []) = false := by rw [ByteArray.toList_eq, gl]; simpa using hg
  rw [hgg] at SG
  obtain ⟨K, T, A, E1, E2, HV, W⟩ := worded_any 5 a g (by omega)
  simp only [tokV] at W
  have HX : Hid (readV (readT (s.data.toList.drop a)) a = Value.tuple #[tokV K T 0 A, .int .i64 E1, .int .i64 E2]) := ⟨by rw [HV.out, gl, hR]⟩
  clear HV hgg gl hR hg
  go_enter Tryd.func34, Tryd.ntmps34
  go_wp2_with (first
    | (go_at_call 59; refine (isSmall_any _ _).mono ?_; rintro e w1 ⟨rfl, hw⟩; subst w1)
    | (go_at_call 64; refine (isGreat_any _ _).mono ?_; rintro e w1 ⟨rfl, hw⟩; subst w1)
    | (go_at_call 65; refine (isDigit_any _ _).mono ?_; rintro e w1 ⟨rfl, hw⟩; subst w1)
    | (go_at_call 67; refine (SG _ L1).mono ?_; rintro e w1 ⟨rfl, B1⟩; have G1 := G.later B1)
    | (go_at_call 62; refine (W _).mono ?_; rintro e w2 ⟨rfl, B2⟩; have G2 := G1.later B2; have f0 := G2.free 0; have f1 := G2.free 1; have f2 := G2.free 2; have f3 := G2.free 3; obtain ⟨y0, y1, y2, y3⟩ := G2.at))
  refine bodyPost_ret (v := .tuple #[tokV K T 0 A, .int .i64 E1, .int .i64 E2]) (by simp [results, Tryd.results34, go_sem, tokV, y0, y1, y2, y3]) rfl ⟨by rw [HX.out], ?_⟩
  exact (((((far1 B1).trans (Joins.below_le B2 (far1 B1).size)).setCell (by simp) _).setCell (by simp) _).setCell (by simp) _).setCell (by simp) _

set_option maxHeartbeats 2000000 in
theorem read_hash_e_n (s : ByteArray) (a : Nat) (h : a < s.size) (hs : s.size ≤ 281474976710656) (w : World) (L : Laid w) (h2 : ¬ a + 1 < s.size) (hc : ((s[a]'h).toNat : Int) = 35) (hg : signL (s.data.toList.drop a) = []) :
    Calls Tryd.prog 34 #[.string s, .int .i64 a] w fun e w' => e = .returned (readV (readT (s.data.toList.drop a)) a) ∧ Below w.heap.size w w' := by
  have G := Tk4.fresh w 0 ⟨#[]⟩ 0 0
  have L1 := L.later (Joins.below_alloc1 w (Obj.cells #[.int .i64 0, .string ⟨#[]⟩, .int .i64 0, .int .i64 0] 39))
  have z0 : (a : Int) < s.size := by omega
  have z4 : (a : Int) ≤ s.size := by omega
  have sm0 : sm 0 = false := by decide
  have dg0 : dg 0 = false := by decide
  have sm35 : sm 35 = false := by decide
  have gr35 : gr 35 = false := by decide
  have dg35 : dg 35 = false := by decide
  have sm45 : sm 45 = false := by decide
  have gr45 : gr 45 = false := by decide
  have dg45 : dg 45 = false := by decide
  have z1 : ¬ (a : Int) + 1 < s.size := by omega
  have hR : readT (s.data.toList.drop a) = if signL (s.data.toList.drop a) = [] then .error 20 else wordR 5 (signL (s.data.toList.drop a)) := by
    rw [get_list s a h]
    exact readT_sign (by rw [hc]; decide) (by rw [hc]; decide) (by rw [nxt_end s (a + 1) h2]; rintro ⟨_, q⟩; exact absurd q (by decide)) (by rw [hc]; rintro (q | ⟨q, _⟩); (exact absurd q (by decide)); omega)
  have SG := fun w L => signOf_any (s.extract a s.size) (by simp [ByteArray.size_extract]; omega) w L
  rw [ext_end] at SG
  rw [if_pos hg] at hR
  rw [hg] at SG
  rw [show str [] = ⟨#[]⟩ from rfl] at SG
  have HX : Hid (readV (readT (s.data.toList.drop a)) a = Value.tuple #[tokV 0 ⟨#[]⟩ 0 0, .int .i64 0, .int .i64 20]) := ⟨by rw [hR]; rfl⟩
  clear hR hg
  go_enter Tryd.func34, Tryd.ntmps34
  go_wp2_with (first
    | (go_at_call 59; refine (isSmall_any _ _).mono ?_; rintro e w1 ⟨rfl, hw⟩; subst w1)
    | (go_at_call 64; refine (isGreat_any _ _).mono ?_; rintro e w1 ⟨rfl, hw⟩; subst w1)
    | (go_at_call 65; refine (isDigit_any _ _).mono ?_; rintro e w1 ⟨rfl, hw⟩; subst w1)
    | (go_at_call 67; refine (SG _ L1).mono ?_; rintro e w1 ⟨rfl, B1⟩; have G1 := G.later B1; have f0 := G1.free 0; have f1 := G1.free 1; have f2 := G1.free 2; have f3 := G1.free 3; obtain ⟨y0, y1, y2, y3⟩ := G1.at))
  refine bodyPost_ret (v := .tuple #[tokV 0 ⟨#[]⟩ 0 0, .int .i64 0, .int .i64 20]) (by simp [results, Tryd.results34, go_sem, tokV, y0, y1, y2, y3]) rfl ⟨by rw [HX.out], ?_⟩
  exact ((((far1 B1).setCell (by simp) _).setCell (by simp) _).setCell (by simp) _).setCell (by simp) _

set_option maxHeartbeats 2000000 in
theorem read_dash_n_f (s : ByteArray) (a : Nat) (h : a < s.size) (hs : s.size ≤ 281474976710656) (w : World) (L : Laid w) (h2 : a + 1 < s.size) (hc : ((s[a]'h).toNat : Int) = 45) (hn : dg ((s[a + 1]'h2).toNat : Int) = false) (hg : ¬ signL (s.data.toList.drop a) = []) :
    Calls Tryd.prog 34 #[.string s, .int .i64 a] w fun e w' => e = .returned (readV (readT (s.data.toList.drop a)) a) ∧ Below w.heap.size w w' := by
  have G := Tk4.fresh w 0 ⟨#[]⟩ 0 0
  have L1 := L.later (Joins.below_alloc1 w (Obj.cells #[.int .i64 0, .string ⟨#[]⟩, .int .i64 0, .int .i64 0] 39))
  have z0 : (a : Int) < s.size := by omega
  have z4 : (a : Int) ≤ s.size := by omega
  have sm0 : sm 0 = false := by decide
  have dg0 : dg 0 = false := by decide
  have sm35 : sm 35 = false := by decide
  have gr35 : gr 35 = false := by decide
  have dg35 : dg 35 = false := by decide
  have sm45 : sm 45 = false := by decide
  have gr45 : gr 45 = false := by decide
  have dg45 : dg 45 = false := by decide
  have z1 : (a : Int) + 1 < s.size := by omega
  have z2 : (0 : Int) ≤ (a : Int) + 1 := by omega
  have z3 : ((a : Int) + 1).toNat = a + 1 := by omega
  have hR : readT (s.data.toList.drop a) = if signL (s.data.toList.drop a) = [] then .error 20 else wordR 5 (signL (s.data.toList.drop a)) := by
    rw [get_list s a h]
    exact readT_sign (by rw [hc]; decide) (by rw [hc]; decide) (by omega) (by rw [nxt_of s (a + 1) h2, hc]; rintro (q | ⟨_, q⟩); (exact absurd q (by decide)); (rw [hn] at q; cases q))
  have SG := fun w L => signOf_any (s.extract a s.size) (by simp [ByteArray.size_extract]; omega) w L
  rw [ext_end] at SG
  rw [if_neg hg] at hR
  obtain ⟨g, hgg⟩ : ∃ g, str (signL (s.data.toList.drop a)) = g := ⟨_, rfl⟩
  have gl : g.data.toList = signL (s.data.toList.drop a) := by rw [← hgg, str_list]
  have gz : (g.toList == []) = false := by rw [ByteArray.toList_eq, gl]; simpa using hg
  rw [hgg] at SG
  obtain ⟨K, T, A, E1, E2, HV, W⟩ := worded_any 5 a g (by omega)
  simp only [tokV] at W
  have HX : Hid (readV (readT (s.data.toList.drop a)) a = Value.tuple #[tokV K T 0 A, .int .i64 E1, .int .i64 E2]) := ⟨by rw [HV.out, gl, hR]⟩
  clear HV hgg gl hR hg
  go_enter Tryd.func34, Tryd.ntmps34
  go_wp2_with (first
    | (go_at_call 59; refine (isSmall_any _ _).mono ?_; rintro e w1 ⟨rfl, hw⟩; subst w1)
    | (go_at_call 64; refine (isGreat_any _ _).mono ?_; rintro e w1 ⟨rfl, hw⟩; subst w1)
    | (go_at_call 65; refine (isDigit_any _ _).mono ?_; rintro e w1 ⟨rfl, hw⟩; subst w1)
    | (go_at_call 67; refine (SG _ L1).mono ?_; rintro e w1 ⟨rfl, B1⟩; have G1 := G.later B1)
    | (go_at_call 62; refine (W _).mono ?_; rintro e w2 ⟨rfl, B2⟩; have G2 := G1.later B2; have f0 := G2.free 0; have f1 := G2.free 1; have f2 := G2.free 2; have f3 := G2.free 3; obtain ⟨y0, y1, y2, y3⟩ := G2.at))
  refine bodyPost_ret (v := .tuple #[tokV K T 0 A, .int .i64 E1, .int .i64 E2]) (by simp [results, Tryd.results34, go_sem, tokV, y0, y1, y2, y3]) rfl ⟨by rw [HX.out], ?_⟩
  exact (((((far1 B1).trans (Joins.below_le B2 (far1 B1).size)).setCell (by simp) _).setCell (by simp) _).setCell (by simp) _).setCell (by simp) _

set_option maxHeartbeats 2000000 in
theorem read_dash_n_n (s : ByteArray) (a : Nat) (h : a < s.size) (hs : s.size ≤ 281474976710656) (w : World) (L : Laid w) (h2 : a + 1 < s.size) (hc : ((s[a]'h).toNat : Int) = 45) (hn : dg ((s[a + 1]'h2).toNat : Int) = false) (hg : signL (s.data.toList.drop a) = []) :
    Calls Tryd.prog 34 #[.string s, .int .i64 a] w fun e w' => e = .returned (readV (readT (s.data.toList.drop a)) a) ∧ Below w.heap.size w w' := by
  have G := Tk4.fresh w 0 ⟨#[]⟩ 0 0
  have L1 := L.later (Joins.below_alloc1 w (Obj.cells #[.int .i64 0, .string ⟨#[]⟩, .int .i64 0, .int .i64 0] 39))
  have z0 : (a : Int) < s.size := by omega
  have z4 : (a : Int) ≤ s.size := by omega
  have sm0 : sm 0 = false := by decide
  have dg0 : dg 0 = false := by decide
  have sm35 : sm 35 = false := by decide
  have gr35 : gr 35 = false := by decide
  have dg35 : dg 35 = false := by decide
  have sm45 : sm 45 = false := by decide
  have gr45 : gr 45 = false := by decide
  have dg45 : dg 45 = false := by decide
  have z1 : (a : Int) + 1 < s.size := by omega
  have z2 : (0 : Int) ≤ (a : Int) + 1 := by omega
  have z3 : ((a : Int) + 1).toNat = a + 1 := by omega
  have hR : readT (s.data.toList.drop a) = if signL (s.data.toList.drop a) = [] then .error 20 else wordR 5 (signL (s.data.toList.drop a)) := by
    rw [get_list s a h]
    exact readT_sign (by rw [hc]; decide) (by rw [hc]; decide) (by omega) (by rw [nxt_of s (a + 1) h2, hc]; rintro (q | ⟨_, q⟩); (exact absurd q (by decide)); (rw [hn] at q; cases q))
  have SG := fun w L => signOf_any (s.extract a s.size) (by simp [ByteArray.size_extract]; omega) w L
  rw [ext_end] at SG
  rw [if_pos hg] at hR
  rw [hg] at SG
  rw [show str [] = ⟨#[]⟩ from rfl] at SG
  have HX : Hid (readV (readT (s.data.toList.drop a)) a = Value.tuple #[tokV 0 ⟨#[]⟩ 0 0, .int .i64 0, .int .i64 20]) := ⟨by rw [hR]; rfl⟩
  clear hR hg
  go_enter Tryd.func34, Tryd.ntmps34
  go_wp2_with (first
    | (go_at_call 59; refine (isSmall_any _ _).mono ?_; rintro e w1 ⟨rfl, hw⟩; subst w1)
    | (go_at_call 64; refine (isGreat_any _ _).mono ?_; rintro e w1 ⟨rfl, hw⟩; subst w1)
    | (go_at_call 65; refine (isDigit_any _ _).mono ?_; rintro e w1 ⟨rfl, hw⟩; subst w1)
    | (go_at_call 67; refine (SG _ L1).mono ?_; rintro e w1 ⟨rfl, B1⟩; have G1 := G.later B1; have f0 := G1.free 0; have f1 := G1.free 1; have f2 := G1.free 2; have f3 := G1.free 3; obtain ⟨y0, y1, y2, y3⟩ := G1.at))
  refine bodyPost_ret (v := .tuple #[tokV 0 ⟨#[]⟩ 0 0, .int .i64 0, .int .i64 20]) (by simp [results, Tryd.results34, go_sem, tokV, y0, y1, y2, y3]) rfl ⟨by rw [HX.out], ?_⟩
  exact ((((far1 B1).setCell (by simp) _).setCell (by simp) _).setCell (by simp) _).setCell (by simp) _

set_option maxHeartbeats 2000000 in
theorem read_dash_e_f (s : ByteArray) (a : Nat) (h : a < s.size) (hs : s.size ≤ 281474976710656) (w : World) (L : Laid w) (h2 : ¬ a + 1 < s.size) (hc : ((s[a]'h).toNat : Int) = 45) (hg : ¬ signL (s.data.toList.drop a) = []) :
    Calls Tryd.prog 34 #[.string s, .int .i64 a] w fun e w' => e = .returned (readV (readT (s.data.toList.drop a)) a) ∧ Below w.heap.size w w' := by
  have G := Tk4.fresh w 0 ⟨#[]⟩ 0 0
  have L1 := L.later (Joins.below_alloc1 w (Obj.cells #[.int .i64 0, .string ⟨#[]⟩, .int .i64 0, .int .i64 0] 39))
  have z0 : (a : Int) < s.size := by omega
  have z4 : (a : Int) ≤ s.size := by omega
  have sm0 : sm 0 = false := by decide
  have dg0 : dg 0 = false := by decide
  have sm35 : sm 35 = false := by decide
  have gr35 : gr 35 = false := by decide
  have dg35 : dg 35 = false := by decide
  have sm45 : sm 45 = false := by decide
  have gr45 : gr 45 = false := by decide
  have dg45 : dg 45 = false := by decide
  have z1 : ¬ (a : Int) + 1 < s.size := by omega
  have hR : readT (s.data.toList.drop a) = if signL (s.data.toList.drop a) = [] then .error 20 else wordR 5 (signL (s.data.toList.drop a)) := by
    rw [get_list s a h]
    exact readT_sign (by rw [hc]; decide) (by rw [hc]; decide) (by omega) (by rw [nxt_end s (a + 1) h2, hc]; rintro (q | ⟨_, q⟩); (exact absurd q (by decide)); (exact absurd q (by decide)))
  have SG := fun w L => signOf_any (s.extract a s.size) (by simp [ByteArray.size_extract]; omega) w L
  rw [ext_end] at SG
  rw [if_neg hg] at hR
  obtain ⟨g, hgg⟩ : ∃ g, str (signL (s.data.toList.drop a)) = g := ⟨_, rfl⟩
  have gl : g.data.toList = signL (s.data.toList.drop a) := by rw [← hgg, str_list]
  have gz : (g.toList == []) = false := by rw [ByteArray.toList_eq, gl]; simpa using hg
  rw [hgg] at SG
  obtain ⟨K, T, A, E1, E2, HV, W⟩ := worded_any 5 a g (by omega)
  simp only [tokV] at W
  have HX : Hid (readV (readT (s.data.toList.drop a)) a = Value.tuple #[tokV K T 0 A, .int .i64 E1, .int .i64 E2]) := ⟨by rw [HV.out, gl, hR]⟩
  clear HV hgg gl hR hg
  go_enter Tryd.func34, Tryd.ntmps34
  go_wp2_with (first
    | (go_at_call 59; refine (isSmall_any _ _).mono ?_; rintro e w1 ⟨rfl, hw⟩; subst w1)
    | (go_at_call 64; refine (isGreat_any _ _).mono ?_; rintro e w1 ⟨rfl, hw⟩; subst w1)
    | (go_at_call 65; refine (isDigit_any _ _).mono ?_; rintro e w1 ⟨rfl, hw⟩; subst w1)
    | (go_at_call 67; refine (SG _ L1).mono ?_; rintro e w1 ⟨rfl, B1⟩; have G1 := G.later B1)
    | (go_at_call 62; refine (W _).mono ?_; rintro e w2 ⟨rfl, B2⟩; have G2 := G1.later B2; have f0 := G2.free 0; have f1 := G2.free 1; have f2 := G2.free 2; have f3 := G2.free 3; obtain ⟨y0, y1, y2, y3⟩ := G2.at))
  refine bodyPost_ret (v := .tuple #[tokV K T 0 A, .int .i64 E1, .int .i64 E2]) (by simp [results, Tryd.results34, go_sem, tokV, y0, y1, y2, y3]) rfl ⟨by rw [HX.out], ?_⟩
  exact (((((far1 B1).trans (Joins.below_le B2 (far1 B1).size)).setCell (by simp) _).setCell (by simp) _).setCell (by simp) _).setCell (by simp) _

set_option maxHeartbeats 2000000 in
theorem read_dash_e_n (s : ByteArray) (a : Nat) (h : a < s.size) (hs : s.size ≤ 281474976710656) (w : World) (L : Laid w) (h2 : ¬ a + 1 < s.size) (hc : ((s[a]'h).toNat : Int) = 45) (hg : signL (s.data.toList.drop a) = []) :
    Calls Tryd.prog 34 #[.string s, .int .i64 a] w fun e w' => e = .returned (readV (readT (s.data.toList.drop a)) a) ∧ Below w.heap.size w w' := by
  have G := Tk4.fresh w 0 ⟨#[]⟩ 0 0
  have L1 := L.later (Joins.below_alloc1 w (Obj.cells #[.int .i64 0, .string ⟨#[]⟩, .int .i64 0, .int .i64 0] 39))
  have z0 : (a : Int) < s.size := by omega
  have z4 : (a : Int) ≤ s.size := by omega
  have sm0 : sm 0 = false := by decide
  have dg0 : dg 0 = false := by decide
  have sm35 : sm 35 = false := by decide
  have gr35 : gr 35 = false := by decide
  have dg35 : dg 35 = false := by decide
  have sm45 : sm 45 = false := by decide
  have gr45 : gr 45 = false := by decide
  have dg45 : dg 45 = false := by decide
  have z1 : ¬ (a : Int) + 1 < s.size := by omega
  have hR : readT (s.data.toList.drop a) = if signL (s.data.toList.drop a) = [] then .error 20 else wordR 5 (signL (s.data.toList.drop a)) := by
    rw [get_list s a h]
    exact readT_sign (by rw [hc]; decide) (by rw [hc]; decide) (by omega) (by rw [nxt_end s (a + 1) h2, hc]; rintro (q | ⟨_, q⟩); (exact absurd q (by decide)); (exact absurd q (by decide)))
  have SG := fun w L => signOf_any (s.extract a s.size) (by simp [ByteArray.size_extract]; omega) w L
  rw [ext_end] at SG
  rw [if_pos hg] at hR
  rw [hg] at SG
  rw [show str [] = ⟨#[]⟩ from rfl] at SG
  have HX : Hid (readV (readT (s.data.toList.drop a)) a = Value.tuple #[tokV 0 ⟨#[]⟩ 0 0, .int .i64 0, .int .i64 20]) := ⟨by rw [hR]; rfl⟩
  clear hR hg
  go_enter Tryd.func34, Tryd.ntmps34
  go_wp2_with (first
    | (go_at_call 59; refine (isSmall_any _ _).mono ?_; rintro e w1 ⟨rfl, hw⟩; subst w1)
    | (go_at_call 64; refine (isGreat_any _ _).mono ?_; rintro e w1 ⟨rfl, hw⟩; subst w1)
    | (go_at_call 65; refine (isDigit_any _ _).mono ?_; rintro e w1 ⟨rfl, hw⟩; subst w1)
    | (go_at_call 67; refine (SG _ L1).mono ?_; rintro e w1 ⟨rfl, B1⟩; have G1 := G.later B1; have f0 := G1.free 0; have f1 := G1.free 1; have f2 := G1.free 2; have f3 := G1.free 3; obtain ⟨y0, y1, y2, y3⟩ := G1.at))
  refine bodyPost_ret (v := .tuple #[tokV 0 ⟨#[]⟩ 0 0, .int .i64 0, .int .i64 20]) (by simp [results, Tryd.results34, go_sem, tokV, y0, y1, y2, y3]) rfl ⟨by rw [HX.out], ?_⟩
  exact ((((far1 B1).setCell (by simp) _).setCell (by simp) _).setCell (by simp) _).setCell (by simp) _

set_option maxHeartbeats 2000000 in
theorem read_else_n_f (s : ByteArray) (a : Nat) (h : a < s.size) (hs : s.size ≤ 281474976710656) (w : World) (L : Laid w) (h2 : a + 1 < s.size) (hsm : sm ((s[a]'h).toNat : Int) = false) (hgr : gr ((s[a]'h).toNat : Int) = false) (hc : ¬ ((s[a]'h).toNat : Int) = 35) (hdg : dg ((s[a]'h).toNat : Int) = false) (hd : ¬ ((s[a]'h).toNat : Int) = 45) (hg : ¬ signL (s.data.toList.drop a) = []) :
    Calls Tryd.prog 34 #[.string s, .int .i64 a] w fun e w' => e = .returned (readV (readT (s.data.toList.drop a)) a) ∧ Below w.heap.size w w' := by
  have G := Tk4.fresh w 0 ⟨#[]⟩ 0 0
  have L1 := L.later (Joins.below_alloc1 w (Obj.cells #[.int .i64 0, .string ⟨#[]⟩, .int .i64 0, .int .i64 0] 39))
  have z0 : (a : Int) < s.size := by omega
  have z4 : (a : Int) ≤ s.size := by omega
  have sm0 : sm 0 = false := by decide
  have dg0 : dg 0 = false := by decide
  have sm35 : sm 35 = false := by decide
  have gr35 : gr 35 = false := by decide
  have dg35 : dg 35 = false := by decide
  have sm45 : sm 45 = false := by decide
  have gr45 : gr 45 = false := by decide
  have dg45 : dg 45 = false := by decide
  have z1 : (a : Int) + 1 < s.size := by omega
  have z2 : (0 : Int) ≤ (a : Int) + 1 := by omega
  have z3 : ((a : Int) + 1).toNat = a + 1 := by omega
  have hR : readT (s.data.toList.drop a) = if signL (s.data.toList.drop a) = [] then .error 20 else wordR 5 (signL (s.data.toList.drop a)) := by
    rw [get_list s a h]
    exact readT_sign hsm hgr (by omega) (by rw [hdg]; rintro (q | ⟨q, _⟩); (cases q); omega)
  have SG := fun w L => signOf_any (s.extract a s.size) (by simp [ByteArray.size_extract]; omega) w L
  rw [ext_end] at SG
  rw [if_neg hg] at hR
  obtain ⟨g, hgg⟩ : ∃ g, str (signL (s.data.toList.drop a)) = g := ⟨_, rfl⟩
  have gl : g.data.toList = signL (s.data.toList.drop a) := by rw [← hgg, str_list]
  have gz : (g.toList == []) = false := by rw [ByteArray.toList_eq, gl]; simpa using hg
  rw [hgg] at SG
  obtain ⟨K, T, A, E1, E2, HV, W⟩ := worded_any 5 a g (by omega)
  simp only [tokV] at W
  have HX : Hid (readV (readT (s.data.toList.drop a)) a = Value.tuple #[tokV K T 0 A, .int .i64 E1, .int .i64 E2]) := ⟨by rw [HV.out, gl, hR]⟩
  clear HV hgg gl hR hg
  go_enter Tryd.func34, Tryd.ntmps34
  go_wp2_with (first
    | (go_at_call 59; refine (isSmall_any _ _).mono ?_; rintro e w1 ⟨rfl, hw⟩; subst w1)
    | (go_at_call 64; refine (isGreat_any _ _).mono ?_; rintro e w1 ⟨rfl, hw⟩; subst w1)
    | (go_at_call 65; refine (isDigit_any _ _).mono ?_; rintro e w1 ⟨rfl, hw⟩; subst w1)
    | (go_at_call 67; refine (SG _ L1).mono ?_; rintro e w1 ⟨rfl, B1⟩; have G1 := G.later B1)
    | (go_at_call 62; refine (W _).mono ?_; rintro e w2 ⟨rfl, B2⟩; have G2 := G1.later B2; have f0 := G2.free 0; have f1 := G2.free 1; have f2 := G2.free 2; have f3 := G2.free 3; obtain ⟨y0, y1, y2, y3⟩ := G2.at))
  refine bodyPost_ret (v := .tuple #[tokV K T 0 A, .int .i64 E1, .int .i64 E2]) (by simp [results, Tryd.results34, go_sem, tokV, y0, y1, y2, y3]) rfl ⟨by rw [HX.out], ?_⟩
  exact (((((far1 B1).trans (Joins.below_le B2 (far1 B1).size)).setCell (by simp) _).setCell (by simp) _).setCell (by simp) _).setCell (by simp) _

set_option maxHeartbeats 2000000 in
theorem read_else_n_n (s : ByteArray) (a : Nat) (h : a < s.size) (hs : s.size ≤ 281474976710656) (w : World) (L : Laid w) (h2 : a + 1 < s.size) (hsm : sm ((s[a]'h).toNat : Int) = false) (hgr : gr ((s[a]'h).toNat : Int) = false) (hc : ¬ ((s[a]'h).toNat : Int) = 35) (hdg : dg ((s[a]'h).toNat : Int) = false) (hd : ¬ ((s[a]'h).toNat : Int) = 45) (hg : signL (s.data.toList.drop a) = []) :
    Calls Tryd.prog 34 #[.string s, .int .i64 a] w fun e w' => e = .returned (readV (readT (s.data.toList.drop a)) a) ∧ Below w.heap.size w w' := by
  have G := Tk4.fresh w 0 ⟨#[]⟩ 0 0
  have L1 := L.later (Joins.below_alloc1 w (Obj.cells #[.int .i64 0, .string ⟨#[]⟩, .int .i64 0, .int .i64 0] 39))
  have z0 : (a : Int) < s.size := by omega
  have z4 : (a : Int) ≤ s.size := by omega
  have sm0 : sm 0 = false := by decide
  have dg0 : dg 0 = false := by decide
  have sm35 : sm 35 = false := by decide
  have gr35 : gr 35 = false := by decide
  have dg35 : dg 35 = false := by decide
  have sm45 : sm 45 = false := by decide
  have gr45 : gr 45 = false := by decide
  have dg45 : dg 45 = false := by decide
  have z1 : (a : Int) + 1 < s.size := by omega
  have z2 : (0 : Int) ≤ (a : Int) + 1 := by omega
  have z3 : ((a : Int) + 1).toNat = a + 1 := by omega
  have hR : readT (s.data.toList.drop a) = if signL (s.data.toList.drop a) = [] then .error 20 else wordR 5 (signL (s.data.toList.drop a)) := by
    rw [get_list s a h]
    exact readT_sign hsm hgr (by omega) (by rw [hdg]; rintro (q | ⟨q, _⟩); (cases q); omega)
  have SG := fun w L => signOf_any (s.extract a s.size) (by simp [ByteArray.size_extract]; omega) w L
  rw [ext_end] at SG
  rw [if_pos hg] at hR
  rw [hg] at SG
  rw [show str [] = ⟨#[]⟩ from rfl] at SG
  have HX : Hid (readV (readT (s.data.toList.drop a)) a = Value.tuple #[tokV 0 ⟨#[]⟩ 0 0, .int .i64 0, .int .i64 20]) := ⟨by rw [hR]; rfl⟩
  clear hR hg
  go_enter Tryd.func34, Tryd.ntmps34
  go_wp2_with (first
    | (go_at_call 59; refine (isSmall_any _ _).mono ?_; rintro e w1 ⟨rfl, hw⟩; subst w1)
    | (go_at_call 64; refine (isGreat_any _ _).mono ?_; rintro e w1 ⟨rfl, hw⟩; subst w1)
    | (go_at_call 65; refine (isDigit_any _ _).mono ?_; rintro e w1 ⟨rfl, hw⟩; subst w1)
    | (go_at_call 67; refine (SG _ L1).mono ?_; rintro e w1 ⟨rfl, B1⟩; have G1 := G.later B1; have f0 := G1.free 0; have f1 := G1.free 1; have f2 := G1.free 2; have f3 := G1.free 3; obtain ⟨y0, y1, y2, y3⟩ := G1.at))
  refine bodyPost_ret (v := .tuple #[tokV 0 ⟨#[]⟩ 0 0, .int .i64 0, .int .i64 20]) (by simp [results, Tryd.results34, go_sem, tokV, y0, y1, y2, y3]) rfl ⟨by rw [HX.out], ?_⟩
  exact ((((far1 B1).setCell (by simp) _).setCell (by simp) _).setCell (by simp) _).setCell (by simp) _

set_option maxHeartbeats 2000000 in
theorem read_else_e_f (s : ByteArray) (a : Nat) (h : a < s.size) (hs : s.size ≤ 281474976710656) (w : World) (L : Laid w) (h2 : ¬ a + 1 < s.size) (hsm : sm ((s[a]'h).toNat : Int) = false) (hgr : gr ((s[a]'h).toNat : Int) = false) (hc : ¬ ((s[a]'h).toNat : Int) = 35) (hdg : dg ((s[a]'h).toNat : Int) = false) (hd : ¬ ((s[a]'h).toNat : Int) = 45) (hg : ¬ signL (s.data.toList.drop a) = []) :
    Calls Tryd.prog 34 #[.string s, .int .i64 a] w fun e w' => e = .returned (readV (readT (s.data.toList.drop a)) a) ∧ Below w.heap.size w w' := by
  have G := Tk4.fresh w 0 ⟨#[]⟩ 0 0
  have L1 := L.later (Joins.below_alloc1 w (Obj.cells #[.int .i64 0, .string ⟨#[]⟩, .int .i64 0, .int .i64 0] 39))
  have z0 : (a : Int) < s.size := by omega
  have z4 : (a : Int) ≤ s.size := by omega
  have sm0 : sm 0 = false := by decide
  have dg0 : dg 0 = false := by decide
  have sm35 : sm 35 = false := by decide
  have gr35 : gr 35 = false := by decide
  have dg35 : dg 35 = false := by decide
  have sm45 : sm 45 = false := by decide
  have gr45 : gr 45 = false := by decide
  have dg45 : dg 45 = false := by decide
  have z1 : ¬ (a : Int) + 1 < s.size := by omega
  have hR : readT (s.data.toList.drop a) = if signL (s.data.toList.drop a) = [] then .error 20 else wordR 5 (signL (s.data.toList.drop a)) := by
    rw [get_list s a h]
    exact readT_sign hsm hgr (by omega) (by rw [hdg]; rintro (q | ⟨q, _⟩); (cases q); omega)
  have SG := fun w L => signOf_any (s.extract a s.size) (by simp [ByteArray.size_extract]; omega) w L
  rw [ext_end] at SG
  rw [if_neg hg] at hR
  obtain ⟨g, hgg⟩ : ∃ g, str (signL (s.data.toList.drop a)) = g := ⟨_, rfl⟩
  have gl : g.data.toList = signL (s.data.toList.drop a) := by rw [← hgg, str_list]
  have gz : (g.toList == []) = false := by rw [ByteArray.toList_eq, gl]; simpa using hg
  rw [hgg] at SG
  obtain ⟨K, T, A, E1, E2, HV, W⟩ := worded_any 5 a g (by omega)
  simp only [tokV] at W
  have HX : Hid (readV (readT (s.data.toList.drop a)) a = Value.tuple #[tokV K T 0 A, .int .i64 E1, .int .i64 E2]) := ⟨by rw [HV.out, gl, hR]⟩
  clear HV hgg gl hR hg
  go_enter Tryd.func34, Tryd.ntmps34
  go_wp2_with (first
    | (go_at_call 59; refine (isSmall_any _ _).mono ?_; rintro e w1 ⟨rfl, hw⟩; subst w1)
    | (go_at_call 64; refine (isGreat_any _ _).mono ?_; rintro e w1 ⟨rfl, hw⟩; subst w1)
    | (go_at_call 65; refine (isDigit_any _ _).mono ?_; rintro e w1 ⟨rfl, hw⟩; subst w1)
    | (go_at_call 67; refine (SG _ L1).mono ?_; rintro e w1 ⟨rfl, B1⟩; have G1 := G.later B1)
    | (go_at_call 62; refine (W _).mono ?_; rintro e w2 ⟨rfl, B2⟩; have G2 := G1.later B2; have f0 := G2.free 0; have f1 := G2.free 1; have f2 := G2.free 2; have f3 := G2.free 3; obtain ⟨y0, y1, y2, y3⟩ := G2.at))
  refine bodyPost_ret (v := .tuple #[tokV K T 0 A, .int .i64 E1, .int .i64 E2]) (by simp [results, Tryd.results34, go_sem, tokV, y0, y1, y2, y3]) rfl ⟨by rw [HX.out], ?_⟩
  exact (((((far1 B1).trans (Joins.below_le B2 (far1 B1).size)).setCell (by simp) _).setCell (by simp) _).setCell (by simp) _).setCell (by simp) _

set_option maxHeartbeats 2000000 in
theorem read_else_e_n (s : ByteArray) (a : Nat) (h : a < s.size) (hs : s.size ≤ 281474976710656) (w : World) (L : Laid w) (h2 : ¬ a + 1 < s.size) (hsm : sm ((s[a]'h).toNat : Int) = false) (hgr : gr ((s[a]'h).toNat : Int) = false) (hc : ¬ ((s[a]'h).toNat : Int) = 35) (hdg : dg ((s[a]'h).toNat : Int) = false) (hd : ¬ ((s[a]'h).toNat : Int) = 45) (hg : signL (s.data.toList.drop a) = []) :
    Calls Tryd.prog 34 #[.string s, .int .i64 a] w fun e w' => e = .returned (readV (readT (s.data.toList.drop a)) a) ∧ Below w.heap.size w w' := by
  have G := Tk4.fresh w 0 ⟨#[]⟩ 0 0
  have L1 := L.later (Joins.below_alloc1 w (Obj.cells #[.int .i64 0, .string ⟨#[]⟩, .int .i64 0, .int .i64 0] 39))
  have z0 : (a : Int) < s.size := by omega
  have z4 : (a : Int) ≤ s.size := by omega
  have sm0 : sm 0 = false := by decide
  have dg0 : dg 0 = false := by decide
  have sm35 : sm 35 = false := by decide
  have gr35 : gr 35 = false := by decide
  have dg35 : dg 35 = false := by decide
  have sm45 : sm 45 = false := by decide
  have gr45 : gr 45 = false := by decide
  have dg45 : dg 45 = false := by decide
  have z1 : ¬ (a : Int) + 1 < s.size := by omega
  have hR : readT (s.data.toList.drop a) = if signL (s.data.toList.drop a) = [] then .error 20 else wordR 5 (signL (s.data.toList.drop a)) := by
    rw [get_list s a h]
    exact readT_sign hsm hgr (by omega) (by rw [hdg]; rintro (q | ⟨q, _⟩); (cases q); omega)
  have SG := fun w L => signOf_any (s.extract a s.size) (by simp [ByteArray.size_extract]; omega) w L
  rw [ext_end] at SG
  rw [if_pos hg] at hR
  rw [hg] at SG
  rw [show str [] = ⟨#[]⟩ from rfl] at SG
  have HX : Hid (readV (readT (s.data.toList.drop a)) a = Value.tuple #[tokV 0 ⟨#[]⟩ 0 0, .int .i64 0, .int .i64 20]) := ⟨by rw [hR]; rfl⟩
  clear hR hg
  go_enter Tryd.func34, Tryd.ntmps34
  go_wp2_with (first
    | (go_at_call 59; refine (isSmall_any _ _).mono ?_; rintro e w1 ⟨rfl, hw⟩; subst w1)
    | (go_at_call 64; refine (isGreat_any _ _).mono ?_; rintro e w1 ⟨rfl, hw⟩; subst w1)
    | (go_at_call 65; refine (isDigit_any _ _).mono ?_; rintro e w1 ⟨rfl, hw⟩; subst w1)
    | (go_at_call 67; refine (SG _ L1).mono ?_; rintro e w1 ⟨rfl, B1⟩; have G1 := G.later B1; have f0 := G1.free 0; have f1 := G1.free 1; have f2 := G1.free 2; have f3 := G1.free 3; obtain ⟨y0, y1, y2, y3⟩ := G1.at))
  refine bodyPost_ret (v := .tuple #[tokV 0 ⟨#[]⟩ 0 0, .int .i64 0, .int .i64 20]) (by simp [results, Tryd.results34, go_sem, tokV, y0, y1, y2, y3]) rfl ⟨by rw [HX.out], ?_⟩
  exact ((((far1 B1).setCell (by simp) _).setCell (by simp) _).setCell (by simp) _).setCell (by simp) _

theorem read_any (s : ByteArray) (a : Nat) (h : a < s.size) (hs : s.size ≤ 281474976710656) (w : World) (L : Laid w) :
    Calls Tryd.prog 34 #[.string s, .int .i64 a] w fun e w' => e = .returned (readV (readT (s.data.toList.drop a)) a) ∧ Below w.heap.size w w' := by
  have GG := Classical.em (signL (s.data.toList.drop a) = [])
  by_cases h2 : a + 1 < s.size
  · cases hsm : sm ((s[a]'h).toNat : Int) with
    | true => exact read_small_n s a h hs w L h2 hsm
    | false =>
      cases hgr : gr ((s[a]'h).toNat : Int) with
      | true => exact read_great_n s a h hs w L h2 hsm hgr
      | false =>
        by_cases hc : ((s[a]'h).toNat : Int) = 35
        · cases hn : sm ((s[a + 1]'h2).toNat : Int) with
          | true => exact read_prim s a h hs w L h2 hc hn
          | false =>
            rcases GG with hg | hg
            · exact read_hash_n_n s a h hs w L h2 hc hn hg
            · exact read_hash_n_f s a h hs w L h2 hc hn hg
        · cases hdg : dg ((s[a]'h).toNat : Int) with
          | true => exact read_dig_n s a h hs w L h2 hsm hgr hc hdg
          | false =>
            by_cases hd : ((s[a]'h).toNat : Int) = 45
            · cases hn : dg ((s[a + 1]'h2).toNat : Int) with
              | true => exact read_minus s a h hs w L h2 hd hn
              | false =>
                rcases GG with hg | hg
                · exact read_dash_n_n s a h hs w L h2 hd hn hg
                · exact read_dash_n_f s a h hs w L h2 hd hn hg
            · rcases GG with hg | hg
              · exact read_else_n_n s a h hs w L h2 hsm hgr hc hdg hd hg
              · exact read_else_n_f s a h hs w L h2 hsm hgr hc hdg hd hg
  · cases hsm : sm ((s[a]'h).toNat : Int) with
    | true => exact read_small_e s a h hs w L h2 hsm
    | false =>
      cases hgr : gr ((s[a]'h).toNat : Int) with
      | true => exact read_great_e s a h hs w L h2 hsm hgr
      | false =>
        by_cases hc : ((s[a]'h).toNat : Int) = 35
        · rcases GG with hg | hg
          · exact read_hash_e_n s a h hs w L h2 hc hg
          · exact read_hash_e_f s a h hs w L h2 hc hg
        · cases hdg : dg ((s[a]'h).toNat : Int) with
          | true => exact read_dig_e s a h hs w L h2 hsm hgr hc hdg
          | false =>
            by_cases hd : ((s[a]'h).toNat : Int) = 45
            · rcases GG with hg | hg
              · exact read_dash_e_n s a h hs w L h2 hd hg
              · exact read_dash_e_f s a h hs w L h2 hd hg
            · rcases GG with hg | hg
              · exact read_else_e_n s a h hs w L h2 hsm hgr hc hdg hd hg
              · exact read_else_e_f s a h hs w L h2 hsm hgr hc hdg hd hg

end Go.Proofs.YtoedeedoecdajaaDoor
