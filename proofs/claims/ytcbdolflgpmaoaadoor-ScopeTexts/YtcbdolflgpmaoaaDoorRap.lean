/- The document's reader: expressions without parts of their own. -/
import Derived.Test.YtcbdolflgpmaoaaDoorRee
namespace Go.Proofs.YtcbdolflgpmaoaaDoor
open Go.RowKit
set_option linter.unusedVariables false
set_option linter.unusedSimpArgs false


theorem RdR.bad {w : World} {b : Nat} {o : Option (List Tok)} {n : Int} (h : RdR w b o n) : w.cell? ⟨b, 3, none⟩ = some (.bool o.isNone) := by
  obtain ⟨ts, k, ga, cap, e4, e5, X, _⟩ := h.ex
  exact X.cell 3
theorem ex_zero (o : Option (List Tok)) : runO (pExp 0) o = none ∧ ∀ x, Rt (pExp 0) o x := by
  rcases o with _ | (_ | ⟨t, r⟩)
  · exact ⟨rfl, fun x y hy => by cases hy⟩
  · exact ⟨rfl, fun x y hy => by cases hy⟩
  · exact ⟨rfl, fun x y hy => by cases hy⟩
/-- no token that begins an expression -/
theorem exp_other {d : Nat} {o : Option (List Tok)} {n : Int} (hn : o ≠ none) (hm : ¬ ∃ t r, o = some (t :: r) ∧ (t.kind = 4 ∨ t.kind = 1 ∨ t.kind = 2 ∨ t.kind = 3)) (h1 : isR [108, 101, 116] o = false) (h2 : isR [99, 97, 115, 101] o = false) (h3 : isR [40] o = false) :
    (runO (pExp (d + 1)) o = none ∧ ∀ x, Rt (pExp (d + 1)) o x) := by
  rcases o with _ | (_ | ⟨t, r⟩)
  · exact absurd rfl hn
  · exact ⟨rfl, fun x y hy => by cases hy⟩
  · have k4 : ¬ t.kind = 4 := fun q => hm ⟨t, r, rfl, .inl q⟩
    have k1 : ¬ t.kind = 1 := fun q => hm ⟨t, r, rfl, .inr (.inl q)⟩
    have k2 : ¬ t.kind = 2 := fun q => hm ⟨t, r, rfl, .inr (.inr (.inl q))⟩
    have k3 : ¬ t.kind = 3 := fun q => hm ⟨t, r, rfl, .inr (.inr (.inr q))⟩
    have h1 : isS [108, 101, 116] (t :: r) = false := h1
    have h2 : isS [99, 97, 115, 101] (t :: r) = false := h2
    have h3 : isS [40] (t :: r) = false := h3
    exact ⟨by simp [runO, pExp, k4, k1, k2, k3, h1, h2, h3], fun x y hy => by simp [valO, pExp, k4, k1, k2, k3, h1, h2, h3] at hy⟩
theorem hd_other {o : Option (List Tok)} {n : Int} (hm : ¬ ∃ t r, o = some (t :: r) ∧ (t.kind = 4 ∨ t.kind = 1 ∨ t.kind = 2 ∨ t.kind = 3)) : ∃ (a m p : Int) (s : ByteArray), hdO o n = .agg #[.int .i64 a, .string s, .int .i64 m, .int .i64 p] ∧ (a == 4) = false ∧ (a == 1) = false ∧ (a == 2) = false ∧ (a == 3) = false := by
  rcases o with _ | (_ | ⟨t, r⟩)
  · exact ⟨0, 0, n, ⟨#[]⟩, rfl, rfl, rfl, rfl, rfl⟩
  · exact ⟨0, 0, n, ⟨#[]⟩, rfl, rfl, rfl, rfl, rfl⟩
  · have k4 : ¬ t.kind = 4 := fun q => hm ⟨t, r, rfl, .inl q⟩
    have k1 : ¬ t.kind = 1 := fun q => hm ⟨t, r, rfl, .inr (.inl q)⟩
    have k2 : ¬ t.kind = 2 := fun q => hm ⟨t, r, rfl, .inr (.inr (.inl q))⟩
    have k3 : ¬ t.kind = 3 := fun q => hm ⟨t, r, rfl, .inr (.inr (.inr q))⟩
    exact ⟨t.kind, t.num, t.at', str t.text, rfl, by simp [k4], by simp [k1], by simp [k2], by simp [k3]⟩
/-- an expression without parts -/
theorem isE_bare {w : World} {ok : Nat → Prop} (k a m : Int) (s : List UInt8) : isE w ok (.mk k a s m [] [] [] []) [.int .i64 k, .int .i64 a, .string (str s), .int .i64 m, nil3, nil3, nil3, nil3] := by
  simp only [isE]
  exact ⟨_, _, _, _, [], [], [], rfl, isRow_nil _ _ _, isRow_nil _ _ _, by simp only [isBs], isRow_nil _ _ _, by simp only [isEs], isRow_nil _ _ _, by simp only [isAs]⟩
theorem int_rt {d : Nat} {t : Tok} {r : List Tok} (hk : t.kind = 4) : runO (pExp (d + 1)) (some (t :: r)) = some r ∧ Rt (pExp (d + 1)) (some (t :: r)) (.mk 4 t.at' [] t.num [] [] [] []) := by
  obtain ⟨h1, h2⟩ := runO_some (p := pExp (d + 1)) (l := t :: r) (r := r) (x := .mk 4 t.at' [] t.num [] [] [] []) (by simp [pExp, hk])
  exact ⟨h1, fun y hy => by rw [h2] at hy; cases hy; rfl⟩
theorem app_rt {d : Nat} {t : Tok} {r : List Tok} (hk : t.kind = 1 ∨ t.kind = 2 ∨ t.kind = 3) : runO (pExp (d + 1)) (some (t :: r)) = (atomsO (some r)).2 ∧ Rt (pExp (d + 1)) (some (t :: r)) (.mk t.kind t.at' t.text 0 (atomsO (some r)).1 [] [] []) := by
  have k4 : ¬ t.kind = 4 := by omega
  obtain ⟨h1, h2⟩ := runO_some (p := pExp (d + 1)) (l := t :: r) (r := (pAtoms r).2) (x := .mk t.kind t.at' t.text 0 (pAtoms r).1 [] [] []) (by simp only [pExp, if_neg k4, if_pos hk])
  exact ⟨h1, fun y hy => by rw [h2] at hy; cases hy; rfl⟩
theorem par_rt {d : Nat} {t : Tok} {r : List Tok} {x : E} (hm : ¬ (t.kind = 4 ∨ t.kind = 1 ∨ t.kind = 2 ∨ t.kind = 3)) (h1 : isR [108, 101, 116] (some (t :: r)) = false) (h2 : isR [99, 97, 115, 101] (some (t :: r)) = false) (h3 : isR [40] (some (t :: r)) = true) (hx : Rt (pExp d) (some r) x) :
    runO (pExp (d + 1)) (some (t :: r)) = runO (pWant [41]) (runO (pExp d) (some r)) ∧ Rt (pExp (d + 1)) (some (t :: r)) x := by
  have k4 : ¬ t.kind = 4 := fun q => hm (.inl q)
  have k1 : ¬ (t.kind = 1 ∨ t.kind = 2 ∨ t.kind = 3) := fun q => hm (.inr q)
  have h1 : isS [108, 101, 116] (t :: r) = false := h1
  have h2 : isS [99, 97, 115, 101] (t :: r) = false := h2
  have h3 : isS [40] (t :: r) = true := h3
  have e : pExp (d + 1) (t :: r) = andT (pExp d r) fun x r => andT (pWant [41] r) fun _ r => .ok (x, r) := by
    simp only [pExp, if_neg k4, if_neg k1, h1, h2, h3, if_true, Bool.false_eq_true, if_false]
  have e' : ∀ {p : List Tok → PR E} {q : List Tok → PR E}, p (t :: r) = q r → runO p (some (t :: r)) = runO q (some r) ∧ valO p (some (t :: r)) = valO q (some r) := fun h => by simp only [runO, valO, h, and_self]
  obtain ⟨r1, r2⟩ := e' (p := pExp (d + 1)) (q := fun r => andT (pExp d r) fun x r => andT (pWant [41] r) fun _ r => .ok (x, r)) e
  have s1 := (Stp.mk (p := pExp d) (f := fun x r => andT (pWant [41] r) fun _ r => Except.ok (x, r)) (q := fun r => _) (fun l => rfl)).rt hx
  have s2 := (Stp.mk (p := pWant [41]) (f := fun _ r => (Except.ok (x, r) : PR E)) (q := fun r => _) (fun l => rfl)).rt (rt_want [41] (runO (pExp d) (some r)))
  have s3 := rt_ret x (runO (pWant [41]) (runO (pExp d) (some r)))
  exact ⟨r1.trans (s1.1.trans (s2.1.trans s3.1)), fun y hy => (s1.2 _ (s2.2 _ s3.2)) y (by rw [← r2]; exact hy)⟩
section
variable {w : World} {b : Nat} {n : Int}
set_option maxRecDepth 100000 in
set_option maxHeartbeats 8000000 in
theorem exp_deep {d : Nat} {k : Int} {o : Option (List Tok)} (hk : k = 61) (R : RdR w b o n) :
    Calls Tryd.prog 42 #[ptr b, .int .i64 k] w fun e w' => Fr b w w' ∧ RdR w' b (runO (pExp 0) o) n ∧ ∃ x v, e = .returned v ∧ isEV w' (new w w') x v ∧ Rt (pExp 0) o x := by
  have lt := R.lt
  have T := token_any (R.alloc (.cells zero46 45))
  have M0 := Blk.fresh w zero46 45
  have HR : Hid (RdR _ _ _ _) := ⟨R⟩
  obtain ⟨ta, tm, tp, tx, eT⟩ := hdO_form o n
  rw [eT] at T
  obtain ⟨hq1, hq2⟩ := ex_zero o
  rw [hq1]
  have HQ : Hid (∀ x, Rt (pExp 0) o x) := ⟨hq2⟩
  have hk60 : (60 : Int) < k := by omega
  clear hq1 hq2 R eT hk
  go_enter Tryd.func42, Tryd.ntmps42
  go_wp2_with (first
    | (go_at_call 39; refine T.mono ?_; rintro e w1 ⟨rfl, B1⟩; have M1 : Blk w1 w.heap.size zero46 45 := (B1.block _ M0.lt).trans M0; have lt1 := M1.lt; have O1 : Ob w ((w1.alloc (.cells #[.int .i64 ta, .string tx, .int .i64 tm, .int .i64 tp] 70)).alloc (.cells #[.int .i64 0, .int .i64 tp, .string ⟨#[]⟩, .int .i64 0, nil3, nil3, nil3, nil3] 45)) b w.heap.size (w1.heap.size + 1) n o zero46 45 #[.int .i64 0, .int .i64 tp, .string ⟨#[]⟩, .int .i64 0, nil3, nil3, nil3, nil3] 45 := ⟨(((HR.out.alloc _).below B1).alloc _).alloc _, (((Fr.refl b w).alloc _).trans (Fr.of_below B1)).alloc _ |>.alloc _, (M1.alloc _).alloc _, (by have := Blk.fresh (w1.alloc (.cells #[.int .i64 ta, .string tx, .int .i64 tm, .int .i64 tp] 70)) #[.int .i64 0, .int .i64 tp, .string ⟨#[]⟩, .int .i64 0, nil3, nil3, nil3, nil3] 45; simpa using this), ⟨lt, Nat.le_refl _, by omega⟩⟩; have L1 := (Blk.fresh w1 #[.int .i64 ta, .string tx, .int .i64 tm, .int .i64 tp] 70).alloc (.cells #[.int .i64 0, .int .i64 tp, .string ⟨#[]⟩, .int .i64 0, nil3, nil3, nil3, nil3] 45); have c3 := O1.rd.bad; have c3b : w1.cell? ⟨b, 3, none⟩ = some (.bool _) := ((HR.out.alloc _).below B1).bad; have nb1 : ¬ b = w1.heap.size := Nat.ne_of_lt (Nat.lt_trans lt lt1); have nb2 : ¬ b = w1.heap.size + 1 := Nat.ne_of_lt (Nat.lt_add_right 1 (Nat.lt_trans lt lt1)); clear B1 M1 T M0)
    | (go_at_call 40; refine (rfail_any O1.rd 24 (by decide)).mono ?_; rintro e w2 ⟨rfl, F2, R2⟩; have OE := O1.call F2 R2; clear F2 R2 O1 L1)
    | (refine wpList_load_row rfl 45 _ rfl (w1.heap.size + 1) rfl 45 _ (0, 0) _ OE.x Tryd.underlying45 rfl size46 ?_)
    | (refine wpList_store_row rfl 45 _ _ rfl w.heap.size _ rfl rfl 45 _ OE.m size46 rfl (by simp [Value.oneCell']) ?_))
  have oo := OE.out #[.int .i64 0, .int .i64 tp, .string ⟨#[]⟩, .int .i64 0, nil3, nil3, nil3, nil3]
  refine bodyPost_ret (results_cell_row Tryd.results42 _ _ w.heap.size 45 #[.int .i64 0, .int .i64 tp, .string ⟨#[]⟩, .int .i64 0, nil3, nil3, nil3, nil3] (0, 0) _ rfl OE.m.set Tryd.underlying45 rfl size46) rfl ⟨oo.1, oo.2, .mk 0 tp [] 0 [] [] [] [], _, rfl, ⟨_, rfl, isE_bare 0 tp 0 []⟩, HQ.out _⟩
set_option maxRecDepth 100000 in
set_option maxHeartbeats 8000000 in
theorem exp_bad {d : Nat} {k : Int} (hk : k ≤ 60) (R : RdR w b none n) :
    Calls Tryd.prog 42 #[ptr b, .int .i64 k] w fun e w' => Fr b w w' ∧ RdR w' b (runO (pExp (d + 1)) none) n ∧ ∃ x v, e = .returned v ∧ isEV w' (new w w') x v ∧ Rt (pExp (d + 1)) none x := by
  have lt := R.lt
  have T := token_any (R.alloc (.cells zero46 45))
  have M0 := Blk.fresh w zero46 45
  have HR : Hid (RdR _ _ _ _) := ⟨R⟩
  obtain ⟨ta, tm, tp, tx, eT⟩ := hdO_form none n
  rw [eT] at T
  have hk60 : ¬ (60 : Int) < k := by omega
  clear R eT hk
  go_enter Tryd.func42, Tryd.ntmps42
  go_wp2_with (first
    | (go_at_call 39; refine T.mono ?_; rintro e w1 ⟨rfl, B1⟩; have M1 : Blk w1 w.heap.size zero46 45 := (B1.block _ M0.lt).trans M0; have lt1 := M1.lt; have O1 : Ob w ((w1.alloc (.cells #[.int .i64 ta, .string tx, .int .i64 tm, .int .i64 tp] 70)).alloc (.cells #[.int .i64 0, .int .i64 tp, .string ⟨#[]⟩, .int .i64 0, nil3, nil3, nil3, nil3] 45)) b w.heap.size (w1.heap.size + 1) n none zero46 45 #[.int .i64 0, .int .i64 tp, .string ⟨#[]⟩, .int .i64 0, nil3, nil3, nil3, nil3] 45 := ⟨(((HR.out.alloc _).below B1).alloc _).alloc _, (((Fr.refl b w).alloc _).trans (Fr.of_below B1)).alloc _ |>.alloc _, (M1.alloc _).alloc _, (by have := Blk.fresh (w1.alloc (.cells #[.int .i64 ta, .string tx, .int .i64 tm, .int .i64 tp] 70)) #[.int .i64 0, .int .i64 tp, .string ⟨#[]⟩, .int .i64 0, nil3, nil3, nil3, nil3] 45; simpa using this), ⟨lt, Nat.le_refl _, by omega⟩⟩; have L1 := (Blk.fresh w1 #[.int .i64 ta, .string tx, .int .i64 tm, .int .i64 tp] 70).alloc (.cells #[.int .i64 0, .int .i64 tp, .string ⟨#[]⟩, .int .i64 0, nil3, nil3, nil3, nil3] 45); have c3 := O1.rd.bad; have c3b : w1.cell? ⟨b, 3, none⟩ = some (.bool _) := ((HR.out.alloc _).below B1).bad; have nb1 : ¬ b = w1.heap.size := Nat.ne_of_lt (Nat.lt_trans lt lt1); have nb2 : ¬ b = w1.heap.size + 1 := Nat.ne_of_lt (Nat.lt_add_right 1 (Nat.lt_trans lt lt1)); simp only [Option.isNone_none] at c3 c3b; have OE := O1; clear B1 M1 T M0)
    | (refine wpList_load_row rfl 45 _ rfl (w1.heap.size + 1) rfl 45 _ (0, 0) _ OE.x Tryd.underlying45 rfl size46 ?_)
    | (refine wpList_store_row rfl 45 _ _ rfl w.heap.size _ rfl rfl 45 _ OE.m size46 rfl (by simp [Value.oneCell']) ?_))
  have oo := OE.out #[.int .i64 0, .int .i64 tp, .string ⟨#[]⟩, .int .i64 0, nil3, nil3, nil3, nil3]
  refine bodyPost_ret (results_cell_row Tryd.results42 _ _ w.heap.size 45 #[.int .i64 0, .int .i64 tp, .string ⟨#[]⟩, .int .i64 0, nil3, nil3, nil3, nil3] (0, 0) _ rfl OE.m.set Tryd.underlying45 rfl size46) rfl ⟨oo.1, oo.2, .mk 0 tp [] 0 [] [] [] [], _, rfl, ⟨_, rfl, isE_bare 0 tp 0 []⟩, fun y hy => by cases hy⟩
set_option maxRecDepth 100000 in
set_option maxHeartbeats 8000000 in
theorem ex_none {d : Nat} {k : Int} {o : Option (List Tok)} (hk : k ≤ 60) (R : RdR w b o n) (hn : o ≠ none) (hm : ¬ ∃ t r, o = some (t :: r) ∧ (t.kind = 4 ∨ t.kind = 1 ∨ t.kind = 2 ∨ t.kind = 3)) (ia : isR [108, 101, 116] o = false) (ib : isR [99, 97, 115, 101] o = false) (ic : isR [40] o = false) :
    Calls Tryd.prog 42 #[ptr b, .int .i64 k] w fun e w' => Fr b w w' ∧ RdR w' b (runO (pExp (d + 1)) o) n ∧ ∃ x v, e = .returned v ∧ isEV w' (new w w') x v ∧ Rt (pExp (d + 1)) o x := by
  have lt := R.lt
  have T := token_any (R.alloc (.cells zero46 45))
  have M0 := Blk.fresh w zero46 45
  have HR : Hid (RdR _ _ _ _) := ⟨R⟩
  obtain ⟨ta, tm, tp, tx, eT, n4, n1, n2, n3⟩ := hd_other (n := n) hm
  rw [eT] at T
  obtain ⟨hq1, hq2⟩ := exp_other (d := d) (n := n) hn hm ia ib ic
  rw [hq1]
  have HQ : Hid (∀ x, Rt (pExp (d + 1)) o x) := ⟨hq2⟩
  have hb : o.isNone = false := by cases o with
    | none => exact absurd rfl hn
    | some l => rfl
  have HB : Hid (o.isNone = false) := ⟨hb⟩
  have hk60 : ¬ (60 : Int) < k := by omega
  have ISa := fun (W : World) (RW : RdR W b o n) => is_any RW [108, 101, 116]
  rw [ia, show str [108, 101, 116] = ⟨#[108, 101, 116]⟩ from rfl] at ISa
  have ISb := fun (W : World) (RW : RdR W b o n) => is_any RW [99, 97, 115, 101]
  rw [ib, show str [99, 97, 115, 101] = ⟨#[99, 97, 115, 101]⟩ from rfl] at ISb
  have ISc := fun (W : World) (RW : RdR W b o n) => is_any RW [40]
  rw [ic, show str [40] = ⟨#[40]⟩ from rfl] at ISc
  clear hq1 hq2 R eT hk hn hm ia ib ic hb
  go_enter Tryd.func42, Tryd.ntmps42
  go_wp2_with (first
    | (go_at_call 39; refine T.mono ?_; rintro e w1 ⟨rfl, B1⟩; have M1 : Blk w1 w.heap.size zero46 45 := (B1.block _ M0.lt).trans M0; have lt1 := M1.lt; have O1 : Ob w ((w1.alloc (.cells #[.int .i64 ta, .string tx, .int .i64 tm, .int .i64 tp] 70)).alloc (.cells #[.int .i64 0, .int .i64 tp, .string ⟨#[]⟩, .int .i64 0, nil3, nil3, nil3, nil3] 45)) b w.heap.size (w1.heap.size + 1) n o zero46 45 #[.int .i64 0, .int .i64 tp, .string ⟨#[]⟩, .int .i64 0, nil3, nil3, nil3, nil3] 45 := ⟨(((HR.out.alloc _).below B1).alloc _).alloc _, (((Fr.refl b w).alloc _).trans (Fr.of_below B1)).alloc _ |>.alloc _, (M1.alloc _).alloc _, (by have := Blk.fresh (w1.alloc (.cells #[.int .i64 ta, .string tx, .int .i64 tm, .int .i64 tp] 70)) #[.int .i64 0, .int .i64 tp, .string ⟨#[]⟩, .int .i64 0, nil3, nil3, nil3, nil3] 45; simpa using this), ⟨lt, Nat.le_refl _, by omega⟩⟩; have L1 := (Blk.fresh w1 #[.int .i64 ta, .string tx, .int .i64 tm, .int .i64 tp] 70).alloc (.cells #[.int .i64 0, .int .i64 tp, .string ⟨#[]⟩, .int .i64 0, nil3, nil3, nil3, nil3] 45); have c3 := O1.rd.bad; have c3b : w1.cell? ⟨b, 3, none⟩ = some (.bool _) := ((HR.out.alloc _).below B1).bad; have nb1 : ¬ b = w1.heap.size := Nat.ne_of_lt (Nat.lt_trans lt lt1); have nb2 : ¬ b = w1.heap.size + 1 := Nat.ne_of_lt (Nat.lt_add_right 1 (Nat.lt_trans lt lt1)); rw [HB.out] at c3 c3b; clear B1 M1 T M0)
    | (go_at_call_of 22 (Value.string { data := #[108, 101, 116] }); refine (ISa _ O1.rd).mono ?_; rintro e wa ⟨rfl, Ba⟩; have Oa := O1.below Ba; clear Ba)
    | (go_at_call_of 22 (Value.string { data := #[99, 97, 115, 101] }); refine (ISb _ Oa.rd).mono ?_; rintro e wb ⟨rfl, Bb⟩; have Obb := Oa.below Bb; clear Bb)
    | (go_at_call_of 22 (Value.string { data := #[40] }); refine (ISc _ Obb.rd).mono ?_; rintro e wc ⟨rfl, Bc⟩; have Oc := Obb.below Bc; clear Bc)
    | (go_at_call 40; refine (rfail_any Oc.rd 23 (by decide)).mono ?_; rintro e w2 ⟨rfl, F2, R2⟩; have OE := Oc.call F2 R2; clear F2 R2 O1 L1 Oa Oc)
    | (refine wpList_load_row rfl 45 _ rfl (w1.heap.size + 1) rfl 45 _ (0, 0) _ OE.x Tryd.underlying45 rfl size46 ?_)
    | (refine wpList_store_row rfl 45 _ _ rfl w.heap.size _ rfl rfl 45 _ OE.m size46 rfl (by simp [Value.oneCell']) ?_))
  have oo := OE.out #[.int .i64 0, .int .i64 tp, .string ⟨#[]⟩, .int .i64 0, nil3, nil3, nil3, nil3]
  refine bodyPost_ret (results_cell_row Tryd.results42 _ _ w.heap.size 45 #[.int .i64 0, .int .i64 tp, .string ⟨#[]⟩, .int .i64 0, nil3, nil3, nil3, nil3] (0, 0) _ rfl OE.m.set Tryd.underlying45 rfl size46) rfl ⟨oo.1, oo.2, .mk 0 tp [] 0 [] [] [] [], _, rfl, ⟨_, rfl, isE_bare 0 tp 0 []⟩, HQ.out _⟩
set_option maxRecDepth 100000 in
set_option maxHeartbeats 8000000 in
theorem z_exp_int {d : Nat} {k : Int} {t : Tok} {r : List Tok} (hk : k ≤ 60) (R : RdR w b (some (t :: r)) n) (hk9 : t.kind = 4) :
    Calls Tryd.prog 42 #[ptr b, .int .i64 k] w fun e w' => Fr b w w' ∧ RdR w' b (runO (pExp (d + 1)) (some (t :: r))) n ∧ ∃ x v, e = .returned v ∧ isEV w' (new w w') x v ∧ Rt (pExp (d + 1)) (some (t :: r)) x := by
  have lt := R.lt
  have T := token_any (R.alloc (.cells zero46 45))
  have M0 := Blk.fresh w zero46 45
  have HR : Hid (RdR _ _ _ _) := ⟨R⟩
  simp only [hdO] at T
  rw [hk9] at T
  obtain ⟨hq1, hq2⟩ := int_rt (d := d) (r := r) hk9
  rw [hq1]
  have HQ : Hid _ := ⟨hq2⟩
  have hk60 : ¬ (60 : Int) < k := by omega
  clear hq1 hq2 R hk hk9
  go_enter Tryd.func42, Tryd.ntmps42
  go_wp2_with (first
    | (go_at_call 39; refine T.mono ?_; rintro e w1 ⟨rfl, B1⟩; have M1 : Blk w1 w.heap.size zero46 45 := (B1.block _ M0.lt).trans M0; have lt1 := M1.lt; have O1 : Ob w ((w1.alloc (.cells #[.int .i64 4, .string (str t.text), .int .i64 t.num, .int .i64 t.at'] 70)).alloc (.cells #[.int .i64 0, .int .i64 t.at', .string ⟨#[]⟩, .int .i64 0, nil3, nil3, nil3, nil3] 45)) b w.heap.size (w1.heap.size + 1) n (some (t :: r)) zero46 45 #[.int .i64 0, .int .i64 t.at', .string ⟨#[]⟩, .int .i64 0, nil3, nil3, nil3, nil3] 45 := ⟨(((HR.out.alloc _).below B1).alloc _).alloc _, (((Fr.refl b w).alloc _).trans (Fr.of_below B1)).alloc _ |>.alloc _, (M1.alloc _).alloc _, (by have := Blk.fresh (w1.alloc (.cells #[.int .i64 4, .string (str t.text), .int .i64 t.num, .int .i64 t.at'] 70)) #[.int .i64 0, .int .i64 t.at', .string ⟨#[]⟩, .int .i64 0, nil3, nil3, nil3, nil3] 45; simpa using this), ⟨lt, Nat.le_refl _, by omega⟩⟩; have L1 := (Blk.fresh w1 #[.int .i64 4, .string (str t.text), .int .i64 t.num, .int .i64 t.at'] 70).alloc (.cells #[.int .i64 0, .int .i64 t.at', .string ⟨#[]⟩, .int .i64 0, nil3, nil3, nil3, nil3] 45); have c3 := O1.rd.bad; have c3b : w1.cell? ⟨b, 3, none⟩ = some (.bool _) := ((HR.out.alloc _).below B1).bad; have nb1 : ¬ b = w1.heap.size := Nat.ne_of_lt (Nat.lt_trans lt lt1); have nb2 : ¬ b = w1.heap.size + 1 := Nat.ne_of_lt (Nat.lt_add_right 1 (Nat.lt_trans lt lt1)); simp only [Option.isNone_some] at c3 c3b; clear B1 M1 T M0)
    | (go_at_call 23; refine (on_any O1.rd (fun l e z => by cases e; cases z)).mono ?_; rintro e w2 ⟨rfl, F2, R2⟩; simp only [Option.map_some, List.tail_cons] at R2; have O2 := O1.call F2 R2; have L2 := L1.kept F2 (fun q => by cases q; omega); have y1 : w2.cell? ⟨w1.heap.size, 1, none⟩ = some (.string (str t.text)) := L2.cell 1; have y2 : w2.cell? ⟨w1.heap.size, 2, none⟩ = some (.int .i64 t.num) := L2.cell 2; have y3 : w2.cell? ⟨w1.heap.size, 3, none⟩ = some (.int .i64 t.at') := L2.cell 3; have ltX := O2.lts.2.2; have x0 : w2.cell? ⟨w1.heap.size + 1, 0, none⟩ = some (.int .i64 0) := O2.x.cell 0; have xz0 := O2.x.z 0; have x1 : w2.cell? ⟨w1.heap.size + 1, 1, none⟩ = some (.int .i64 t.at') := O2.x.cell 1; have xz1 := O2.x.z 1; have x2 : w2.cell? ⟨w1.heap.size + 1, 2, none⟩ = some (.string ⟨#[]⟩) := O2.x.cell 2; have xz2 := O2.x.z 2; have x3 : w2.cell? ⟨w1.heap.size + 1, 3, none⟩ = some (.int .i64 0) := O2.x.cell 3; have xz3 := O2.x.z 3; have x4 : w2.cell? ⟨w1.heap.size + 1, 4, none⟩ = some (nil3) := O2.x.cell 4; have xz4 := O2.x.z 4; have x5 : w2.cell? ⟨w1.heap.size + 1, 5, none⟩ = some (nil3) := O2.x.cell 5; have xz5 := O2.x.z 5; have x6 : w2.cell? ⟨w1.heap.size + 1, 6, none⟩ = some (nil3) := O2.x.cell 6; have xz6 := O2.x.z 6; have x7 : w2.cell? ⟨w1.heap.size + 1, 7, none⟩ = some (nil3) := O2.x.cell 7; have xz7 := O2.x.z 7; have OE : Ob w _ b w.heap.size (w1.heap.size + 1) n _ zero46 45 #[.int .i64 4, .int .i64 t.at', .string ⟨#[]⟩, .int .i64 t.num, nil3, nil3, nil3, nil3] 45 := (O2.store 0 (.int .i64 4)).store 3 (.int .i64 t.num); clear F2 R2 O1 L1 c3 c3b)
    | (refine wpList_load_row rfl 45 _ rfl (w1.heap.size + 1) rfl 45 _ (0, 0) _ OE.x Tryd.underlying45 rfl size46 ?_)
    | (refine wpList_store_row rfl 45 _ _ rfl w.heap.size _ rfl rfl 45 _ OE.m size46 rfl (by simp [Value.oneCell']) ?_))
  have oo := OE.out #[.int .i64 4, .int .i64 t.at', .string ⟨#[]⟩, .int .i64 t.num, nil3, nil3, nil3, nil3]
  refine bodyPost_ret (results_cell_row Tryd.results42 _ _ w.heap.size 45 #[.int .i64 4, .int .i64 t.at', .string ⟨#[]⟩, .int .i64 t.num, nil3, nil3, nil3, nil3] (0, 0) _ rfl OE.m.set Tryd.underlying45 rfl size46) rfl ⟨oo.1, oo.2, .mk 4 t.at' [] t.num [] [] [] [], _, rfl, ⟨_, rfl, isE_bare 4 t.at' t.num []⟩, HQ.out⟩
set_option maxRecDepth 100000 in
set_option maxHeartbeats 8000000 in
theorem exp_par {d : Nat} {k : Int} (h0 : 0 ≤ k) (hE : ExpR d) {t : Tok} {r : List Tok} (hk : k = 60 - d) (R : RdR w b (some (t :: r)) n) (hm : ¬ (t.kind = 4 ∨ t.kind = 1 ∨ t.kind = 2 ∨ t.kind = 3)) (ia : isR [108, 101, 116] (some (t :: r)) = false) (ib : isR [99, 97, 115, 101] (some (t :: r)) = false) (ic : isR [40] (some (t :: r)) = true) :
    Calls Tryd.prog 42 #[ptr b, .int .i64 k] w fun e w' => Fr b w w' ∧ RdR w' b (runO (pExp (d + 1)) (some (t :: r))) n ∧ ∃ x v, e = .returned v ∧ isEV w' (new w w') x v ∧ Rt (pExp (d + 1)) (some (t :: r)) x := by
  have lt := R.lt
  have T := token_any (R.alloc (.cells zero46 45))
  have M0 := Blk.fresh w zero46 45
  have HR : Hid (RdR _ _ _ _) := ⟨R⟩
  obtain ⟨ta, tm, tp, tx, eT, n4, n1, n2, n3⟩ := hd_other (o := some (t :: r)) (n := n) (fun ⟨t', r', e, q⟩ => hm (by cases e; exact q))
  rw [eT] at T
  have HQ : Hid (∀ x, Rt (pExp d) (some r) x → runO (pExp (d + 1)) (some (t :: r)) = runO (pWant [41]) (runO (pExp d) (some r)) ∧ Rt (pExp (d + 1)) (some (t :: r)) x) := ⟨fun x hx => par_rt hm ia ib ic hx⟩
  have hk60 : ¬ (60 : Int) < k := by omega
  have HEX : Hid (ExpR d ∧ k + 1 = 61 - d) := ⟨hE, by omega⟩
  have kw : IntKind.i64.wrap (k + 1) = k + 1 := by rw [IntKind.wrap_i64]; omega
  have ISa := fun (W : World) (RW : RdR W b (some (t :: r)) n) => is_any RW [108, 101, 116]
  rw [ia, show str [108, 101, 116] = ⟨#[108, 101, 116]⟩ from rfl] at ISa
  have ISb := fun (W : World) (RW : RdR W b (some (t :: r)) n) => is_any RW [99, 97, 115, 101]
  rw [ib, show str [99, 97, 115, 101] = ⟨#[99, 97, 115, 101]⟩ from rfl] at ISb
  have ISc := fun (W : World) (RW : RdR W b (some (t :: r)) n) => is_any RW [40]
  rw [ic, show str [40] = ⟨#[40]⟩ from rfl] at ISc
  clear R eT hk hm ia ib ic hE
  go_enter Tryd.func42, Tryd.ntmps42
  go_wp2_with (first
    | (go_at_call 39; refine T.mono ?_; rintro e w1 ⟨rfl, B1⟩; have M1 : Blk w1 w.heap.size zero46 45 := (B1.block _ M0.lt).trans M0; have lt1 := M1.lt; have O1 : Ob w ((w1.alloc (.cells #[.int .i64 ta, .string tx, .int .i64 tm, .int .i64 tp] 70)).alloc (.cells #[.int .i64 0, .int .i64 tp, .string ⟨#[]⟩, .int .i64 0, nil3, nil3, nil3, nil3] 45)) b w.heap.size (w1.heap.size + 1) n (some (t :: r)) zero46 45 #[.int .i64 0, .int .i64 tp, .string ⟨#[]⟩, .int .i64 0, nil3, nil3, nil3, nil3] 45 := ⟨(((HR.out.alloc _).below B1).alloc _).alloc _, (((Fr.refl b w).alloc _).trans (Fr.of_below B1)).alloc _ |>.alloc _, (M1.alloc _).alloc _, (by have := Blk.fresh (w1.alloc (.cells #[.int .i64 ta, .string tx, .int .i64 tm, .int .i64 tp] 70)) #[.int .i64 0, .int .i64 tp, .string ⟨#[]⟩, .int .i64 0, nil3, nil3, nil3, nil3] 45; simpa using this), ⟨lt, Nat.le_refl _, by omega⟩⟩; have L1 := (Blk.fresh w1 #[.int .i64 ta, .string tx, .int .i64 tm, .int .i64 tp] 70).alloc (.cells #[.int .i64 0, .int .i64 tp, .string ⟨#[]⟩, .int .i64 0, nil3, nil3, nil3, nil3] 45); have c3 := O1.rd.bad; have c3b : w1.cell? ⟨b, 3, none⟩ = some (.bool _) := ((HR.out.alloc _).below B1).bad; have nb1 : ¬ b = w1.heap.size := Nat.ne_of_lt (Nat.lt_trans lt lt1); have nb2 : ¬ b = w1.heap.size + 1 := Nat.ne_of_lt (Nat.lt_add_right 1 (Nat.lt_trans lt lt1)); simp only [Option.isNone_some] at c3 c3b; clear B1 M1 T M0)
    | (go_at_call_of 22 (Value.string { data := #[108, 101, 116] }); refine (ISa _ O1.rd).mono ?_; rintro e wa ⟨rfl, Ba⟩; have Oa := O1.below Ba; clear Ba)
    | (go_at_call_of 22 (Value.string { data := #[99, 97, 115, 101] }); refine (ISb _ Oa.rd).mono ?_; rintro e wb ⟨rfl, Bb⟩; have Obb := Oa.below Bb; clear Bb)
    | (go_at_call_of 22 (Value.string { data := #[40] }); refine (ISc _ Obb.rd).mono ?_; rintro e wc ⟨rfl, Bc⟩; have Oc := Obb.below Bc; clear Bc)
    | (go_at_call 23; refine (on_any Oc.rd (fun l e z => by cases e; cases z)).mono ?_; rintro e w2 ⟨rfl, F2, R2⟩; simp only [Option.map_some, List.tail_cons] at R2; have O2 := Oc.call F2 R2; have ltX := O2.lts.2.2; have XP := HEX.out.1 (k + 1) HEX.out.2 _ b (some r) n O2.rd; clear F2 R2 O1 L1 c3 c3b Oa Oc)
    | (go_at_call 42; refine XP.mono ?_; rintro e w7 ⟨F7, R7, x, v7, rfl, ⟨c, rfl, E7⟩, hx⟩; obtain ⟨k', a', m', s', g4, g5, g6, g7, n4', n5, n6, n7, c4, c5, c6, c7, rfl⟩ := isE_eight E7; have HE7 : Hid (isE _ _ _ _) := ⟨E7⟩; have HX7 : Hid (Rt (pExp d) (some r) x) := ⟨hx⟩; have O7 := O2.call F7 R7; have s7 := F7.size; have u0 : w7.cell? ⟨w1.heap.size + 1, 0, none⟩ = some (.int .i64 0) := O7.x.cell 0; have uz0 := O7.x.z 0; have u1 : w7.cell? ⟨w1.heap.size + 1, 1, none⟩ = some (.int .i64 tp) := O7.x.cell 1; have uz1 := O7.x.z 1; have u2 : w7.cell? ⟨w1.heap.size + 1, 2, none⟩ = some (.string ⟨#[]⟩) := O7.x.cell 2; have uz2 := O7.x.z 2; have u3 : w7.cell? ⟨w1.heap.size + 1, 3, none⟩ = some (.int .i64 0) := O7.x.cell 3; have uz3 := O7.x.z 3; have u4 : w7.cell? ⟨w1.heap.size + 1, 4, none⟩ = some (nil3) := O7.x.cell 4; have uz4 := O7.x.z 4; have u5 : w7.cell? ⟨w1.heap.size + 1, 5, none⟩ = some (nil3) := O7.x.cell 5; have uz5 := O7.x.z 5; have u6 : w7.cell? ⟨w1.heap.size + 1, 6, none⟩ = some (nil3) := O7.x.cell 6; have uz6 := O7.x.z 6; have u7 : w7.cell? ⟨w1.heap.size + 1, 7, none⟩ = some (nil3) := O7.x.cell 7; have uz7 := O7.x.z 7; clear E7 hx F7 R7 XP)
    | (go_at_call_of 25 (Value.string { data := #[41] }); have O8 := O7.store8 (.int .i64 k') (.int .i64 a') (.string s') (.int .i64 m') (.slice g4 n4' c4) (.slice g5 n5 c5) (.slice g6 n6 c6) (.slice g7 n7 c7); refine (want_any O8.rd [41]).mono ?_; rintro e w9 ⟨rfl, F9, R9⟩; have OE := O8.call F9 R9; have HF9 : Hid (Fr b _ w9) := ⟨F9⟩; clear F9 R9)
    | (refine wpList_load_row rfl 45 _ rfl (w1.heap.size + 1) rfl 45 _ (0, 0) _ OE.x Tryd.underlying45 rfl size46 ?_)
    | (refine wpList_store_row rfl 45 _ _ rfl w.heap.size _ rfl rfl 45 _ OE.m size46 rfl (by simp [Value.oneCell']) ?_))
  have oo := OE.out #[.int .i64 k', .int .i64 a', .string s', .int .i64 m', .slice g4 n4' c4, .slice g5 n5 c5, .slice g6 n6 c6, .slice g7 n7 c7]
  refine bodyPost_ret (results_cell_row Tryd.results42 _ _ w.heap.size 45 #[.int .i64 k', .int .i64 a', .string s', .int .i64 m', .slice g4 n4' c4, .slice g5 n5 c5, .slice g6 n6 c6, .slice g7 n7 c7] (0, 0) _ rfl OE.m.set Tryd.underlying45 rfl size46) rfl ⟨oo.1, by rw [(HQ.out x HX7.out).1]; exact oo.2, x, _, rfl, ⟨_, rfl, ?_⟩, (HQ.out x HX7.out).2⟩
  have A := ((Abv.refl w2.heap.size w7).set8 ltX 0 (.int .i64 k') (.int .i64 a') (.string s') (.int .i64 m') (.slice g4 n4' c4) (.slice g5 n5 c5) (.slice g6 n6 c6) (.slice g7 n7 c7)).fr HF9.out (by omega)
  have K := fun cs => (A.setRow (X := w.heap.size) (by omega) cs).keeps (wv := w2) (w0 := w) (Nat.le_refl _) (by omega)
  exact isE_keeps (K _) x _ HE7.out
end

end Go.Proofs.YtcbdolflgpmaoaaDoor


/- The document's reader: a head and its atoms. -/
namespace Go.Proofs.YtcbdolflgpmaoaaDoor
open Go.RowKit
set_option linter.unusedVariables false
set_option linter.unusedSimpArgs false

section
variable {w : World} {b : Nat} {n : Int}
set_option maxRecDepth 100000 in
set_option maxHeartbeats 8000000 in
theorem exp_name {d : Nat} {k : Int} {t : Tok} {r : List Tok} (hk : k ≤ 60) (R : RdR w b (some (t :: r)) n) (hk9 : t.kind = 1) :
    Calls Tryd.prog 42 #[ptr b, .int .i64 k] w fun e w' => Fr b w w' ∧ RdR w' b (runO (pExp (d + 1)) (some (t :: r))) n ∧ ∃ x v, e = .returned v ∧ isEV w' (new w w') x v ∧ Rt (pExp (d + 1)) (some (t :: r)) x := by
  have lt := R.lt
  have T := token_any (R.alloc (.cells zero46 45))
  have M0 := Blk.fresh w zero46 45
  have HR : Hid (RdR _ _ _ _) := ⟨R⟩
  simp only [hdO] at T
  rw [hk9] at T
  obtain ⟨hq1, hq2⟩ := app_rt (d := d) (t := t) (r := r) (by omega)
  rw [hq1]
  rw [hk9] at hq2
  obtain ⟨N, eN⟩ : ∃ N, N = atomsO (some r) := ⟨_, rfl⟩
  rw [← eN] at hq2 ⊢
  have HN : Hid (N = atomsO (some r)) := ⟨eN⟩
  have HQ : Hid _ := ⟨hq2⟩
  have hk60 : ¬ (60 : Int) < k := by omega
  clear hq1 hq2 R hk hk9 eN
  go_enter Tryd.func42, Tryd.ntmps42
  go_wp2_with (first
    | (go_at_call 39; refine T.mono ?_; rintro e w1 ⟨rfl, B1⟩; have M1 : Blk w1 w.heap.size zero46 45 := (B1.block _ M0.lt).trans M0; have lt1 := M1.lt; have O1 : Ob w ((w1.alloc (.cells #[.int .i64 1, .string (str t.text), .int .i64 t.num, .int .i64 t.at'] 70)).alloc (.cells #[.int .i64 0, .int .i64 t.at', .string ⟨#[]⟩, .int .i64 0, nil3, nil3, nil3, nil3] 45)) b w.heap.size (w1.heap.size + 1) n (some (t :: r)) zero46 45 #[.int .i64 0, .int .i64 t.at', .string ⟨#[]⟩, .int .i64 0, nil3, nil3, nil3, nil3] 45 := ⟨(((HR.out.alloc _).below B1).alloc _).alloc _, (((Fr.refl b w).alloc _).trans (Fr.of_below B1)).alloc _ |>.alloc _, (M1.alloc _).alloc _, (by have := Blk.fresh (w1.alloc (.cells #[.int .i64 1, .string (str t.text), .int .i64 t.num, .int .i64 t.at'] 70)) #[.int .i64 0, .int .i64 t.at', .string ⟨#[]⟩, .int .i64 0, nil3, nil3, nil3, nil3] 45; simpa using this), ⟨lt, Nat.le_refl _, by omega⟩⟩; have L1 := (Blk.fresh w1 #[.int .i64 1, .string (str t.text), .int .i64 t.num, .int .i64 t.at'] 70).alloc (.cells #[.int .i64 0, .int .i64 t.at', .string ⟨#[]⟩, .int .i64 0, nil3, nil3, nil3, nil3] 45); have c3 := O1.rd.bad; have c3b : w1.cell? ⟨b, 3, none⟩ = some (.bool _) := ((HR.out.alloc _).below B1).bad; have nb1 : ¬ b = w1.heap.size := Nat.ne_of_lt (Nat.lt_trans lt lt1); have nb2 : ¬ b = w1.heap.size + 1 := Nat.ne_of_lt (Nat.lt_add_right 1 (Nat.lt_trans lt lt1)); simp only [Option.isNone_some] at c3 c3b; clear B1 M1 T M0)
    | (go_at_call 23; refine (on_any O1.rd (fun l e z => by cases e; cases z)).mono ?_; rintro e w2 ⟨rfl, F2, R2⟩; simp only [Option.map_some, List.tail_cons] at R2; have O2 := O1.call F2 R2; have L2 := L1.kept F2 (fun q => by cases q; omega); have y1 : w2.cell? ⟨w1.heap.size, 1, none⟩ = some (.string (str t.text)) := L2.cell 1; have y2 : w2.cell? ⟨w1.heap.size, 2, none⟩ = some (.int .i64 t.num) := L2.cell 2; have y3 : w2.cell? ⟨w1.heap.size, 3, none⟩ = some (.int .i64 t.at') := L2.cell 3; have ltX := O2.lts.2.2; clear F2 R2 O1 L1 c3 c3b))
  have HO2 : Hid (Ob _ _ _ _ _ _ _ _ _ _ _) := ⟨O2⟩
  have AT := ratoms_any O2.rd.drew
  rw [← HN.out] at AT
  have HL2 : Hid (Blk _ _ _ _) := ⟨L2⟩
  clear O2 L2
  go_region_held3 (fun w' => w'.cell? ⟨w1.heap.size, 1, none⟩ = some (.string (str t.text)) ∧ w'.cell? ⟨w1.heap.size, 3, none⟩ = some (.int .i64 t.at')) (go_keep) (first | (go_at_call 63; refine AT.mono ?_; rintro e w3 ⟨v3, rfl, F3, R3, NR3, nl3⟩; obtain ⟨gv, cv, rfl⟩ := own_form NR3; have s3 := F3.size; simp only [World.size_drew] at s3; have O3 := HO2.out.drew.call F3 R3; have L3 := (HL2.out.kept (grown_drew _) (fun q => by cases q)).kept F3 (fun q => by cases q; omega); have p1 : w3.cell? ⟨w1.heap.size, 1, none⟩ = some (.string (str t.text)) := L3.cell 1; have p3 : w3.cell? ⟨w1.heap.size, 3, none⟩ = some (.int .i64 t.at') := L3.cell 3; have u0 : w3.cell? ⟨w1.heap.size + 1, 0, none⟩ = some (.int .i64 0) := O3.x.cell 0; have uz0 := O3.x.z 0; have u1 : w3.cell? ⟨w1.heap.size + 1, 1, none⟩ = some (.int .i64 t.at') := O3.x.cell 1; have uz1 := O3.x.z 1; have u2 : w3.cell? ⟨w1.heap.size + 1, 2, none⟩ = some (.string ⟨#[]⟩) := O3.x.cell 2; have uz2 := O3.x.z 2; have u3 : w3.cell? ⟨w1.heap.size + 1, 3, none⟩ = some (.int .i64 0) := O3.x.cell 3; have uz3 := O3.x.z 3; have u4 : w3.cell? ⟨w1.heap.size + 1, 4, none⟩ = some (nil3) := O3.x.cell 4; have uz4 := O3.x.z 4; have u5 : w3.cell? ⟨w1.heap.size + 1, 5, none⟩ = some (nil3) := O3.x.cell 5; have uz5 := O3.x.z 5; have u6 : w3.cell? ⟨w1.heap.size + 1, 6, none⟩ = some (nil3) := O3.x.cell 6; have uz6 := O3.x.z 6; have u7 : w3.cell? ⟨w1.heap.size + 1, 7, none⟩ = some (nil3) := O3.x.cell 7; have uz7 := O3.x.z 7; have hXb : w1.heap.size + 1 < w2.drew.heap.size := (by simpa using ltX); have OE := O3.store8 (.int .i64 1) (.int .i64 t.at') (.string (str t.text)) (.int .i64 0) (.slice gv N.1.length cv) (.slice none 0 0) (.slice none 0 0) (.slice none 0 0); have NRE := (own_fr (own_fr (own_fr (own_fr (own_fr (own_fr (own_fr (own_fr NR3 (z_grown_set _ (w1.heap.size + 1) 0 (.int .i64 1)) hXb) (z_grown_set _ (w1.heap.size + 1) 1 (.int .i64 t.at')) hXb) (z_grown_set _ (w1.heap.size + 1) 2 (.string (str t.text))) hXb) (z_grown_set _ (w1.heap.size + 1) 3 (.int .i64 0)) hXb) (z_grown_set _ (w1.heap.size + 1) 4 (.slice gv N.1.length cv)) hXb) (z_grown_set _ (w1.heap.size + 1) 5 (.slice none 0 0)) hXb) (z_grown_set _ (w1.heap.size + 1) 6 (.slice none 0 0)) hXb) (z_grown_set _ (w1.heap.size + 1) 7 (.slice none 0 0)) hXb); clear F3 R3))
  all_goals rename_i hHeld
  all_goals clear hHeld
  all_goals generalize ((((((((w3.setCell ⟨w1.heap.size + 1, 0, none⟩ (.int .i64 1)).setCell ⟨w1.heap.size + 1, 1, none⟩ (.int .i64 t.at')).setCell ⟨w1.heap.size + 1, 2, none⟩ (.string (str t.text))).setCell ⟨w1.heap.size + 1, 3, none⟩ (.int .i64 0)).setCell ⟨w1.heap.size + 1, 4, none⟩ (.slice gv N.1.length cv)).setCell ⟨w1.heap.size + 1, 5, none⟩ (.slice none 0 0)).setCell ⟨w1.heap.size + 1, 6, none⟩ (.slice none 0 0)).setCell ⟨w1.heap.size + 1, 7, none⟩ (.slice none 0 0)) = WE at OE NRE ⊢
  all_goals go_wp2_with (first
    | (refine wpList_load_row rfl 45 _ rfl (w1.heap.size + 1) rfl 45 _ (0, 0) _ OE.x Tryd.underlying45 rfl size46 ?_)
    | (refine wpList_store_row rfl 45 _ _ rfl w.heap.size _ rfl rfl 45 _ OE.m size46 rfl (by simp [Value.oneCell']) ?_))
  all_goals have oo := OE.out #[.int .i64 1, .int .i64 t.at', .string (str t.text), .int .i64 0, .slice gv N.1.length cv, nil3, nil3, nil3]
  all_goals refine bodyPost_ret (results_cell_row Tryd.results42 _ _ w.heap.size 45 #[.int .i64 1, .int .i64 t.at', .string (str t.text), .int .i64 0, .slice gv N.1.length cv, nil3, nil3, nil3] (0, 0) _ rfl OE.m.set Tryd.underlying45 rfl size46) rfl ⟨oo.1, oo.2, .mk 1 t.at' t.text 0 N.1 [] [] [], _, rfl, ⟨_, rfl, ?_⟩, HQ.out⟩
  all_goals
    have NF := own_fr NRE (grown_setRow _ w.heap.size #[.int .i64 1, .int .i64 t.at', .string (str t.text), .int .i64 0, .slice gv N.1.length cv, nil3, nil3, nil3]) (by omega)
    simp only [isE]
    exact ⟨_, _, _, _, [], [], [], rfl, row_of_owns NF (fun g hg => ⟨by have := (NF.lt g hg).1; omega, (NF.lt g hg).2⟩) (by omega), isRow_nil _ _ _, by simp only [isBs], isRow_nil _ _ _, by simp only [isEs], isRow_nil _ _ _, by simp only [isAs]⟩
set_option maxRecDepth 100000 in
set_option maxHeartbeats 8000000 in
theorem z_exp_con {d : Nat} {k : Int} {t : Tok} {r : List Tok} (hk : k ≤ 60) (R : RdR w b (some (t :: r)) n) (hk9 : t.kind = 2) :
    Calls Tryd.prog 42 #[ptr b, .int .i64 k] w fun e w' => Fr b w w' ∧ RdR w' b (runO (pExp (d + 1)) (some (t :: r))) n ∧ ∃ x v, e = .returned v ∧ isEV w' (new w w') x v ∧ Rt (pExp (d + 1)) (some (t :: r)) x := by
  have lt := R.lt
  have T := token_any (R.alloc (.cells zero46 45))
  have M0 := Blk.fresh w zero46 45
  have HR : Hid (RdR _ _ _ _) := ⟨R⟩
  simp only [hdO] at T
  rw [hk9] at T
  obtain ⟨hq1, hq2⟩ := app_rt (d := d) (t := t) (r := r) (by omega)
  rw [hq1]
  rw [hk9] at hq2
  obtain ⟨N, eN⟩ : ∃ N, N = atomsO (some r) := ⟨_, rfl⟩
  rw [← eN] at hq2 ⊢
  have HN : Hid (N = atomsO (some r)) := ⟨eN⟩
  have HQ : Hid _ := ⟨hq2⟩
  have hk60 : ¬ (60 : Int) < k := by omega
  clear hq1 hq2 R hk hk9 eN
  go_enter Tryd.func42, Tryd.ntmps42
  go_wp2_with (first
    | (go_at_call 39; refine T.mono ?_; rintro e w1 ⟨rfl, B1⟩; have M1 : Blk w1 w.heap.size zero46 45 := (B1.block _ M0.lt).trans M0; have lt1 := M1.lt; have O1 : Ob w ((w1.alloc (.cells #[.int .i64 2, .string (str t.text), .int .i64 t.num, .int .i64 t.at'] 70)).alloc (.cells #[.int .i64 0, .int .i64 t.at', .string ⟨#[]⟩, .int .i64 0, nil3, nil3, nil3, nil3] 45)) b w.heap.size (w1.heap.size + 1) n (some (t :: r)) zero46 45 #[.int .i64 0, .int .i64 t.at', .string ⟨#[]⟩, .int .i64 0, nil3, nil3, nil3, nil3] 45 := ⟨(((HR.out.alloc _).below B1).alloc _).alloc _, (((Fr.refl b w).alloc _).trans (Fr.of_below B1)).alloc _ |>.alloc _, (M1.alloc _).alloc _, (by have := Blk.fresh (w1.alloc (.cells #[.int .i64 2, .string (str t.text), .int .i64 t.num, .int .i64 t.at'] 70)) #[.int .i64 0, .int .i64 t.at', .string ⟨#[]⟩, .int .i64 0, nil3, nil3, nil3, nil3] 45; simpa using this), ⟨lt, Nat.le_refl _, by omega⟩⟩; have L1 := (Blk.fresh w1 #[.int .i64 2, .string (str t.text), .int .i64 t.num, .int .i64 t.at'] 70).alloc (.cells #[.int .i64 0, .int .i64 t.at', .string ⟨#[]⟩, .int .i64 0, nil3, nil3, nil3, nil3] 45); have c3 := O1.rd.bad; have c3b : w1.cell? ⟨b, 3, none⟩ = some (.bool _) := ((HR.out.alloc _).below B1).bad; have nb1 : ¬ b = w1.heap.size := Nat.ne_of_lt (Nat.lt_trans lt lt1); have nb2 : ¬ b = w1.heap.size + 1 := Nat.ne_of_lt (Nat.lt_add_right 1 (Nat.lt_trans lt lt1)); simp only [Option.isNone_some] at c3 c3b; clear B1 M1 T M0)
    | (go_at_call 23; refine (on_any O1.rd (fun l e z => by cases e; cases z)).mono ?_; rintro e w2 ⟨rfl, F2, R2⟩; simp only [Option.map_some, List.tail_cons] at R2; have O2 := O1.call F2 R2; have L2 := L1.kept F2 (fun q => by cases q; omega); have y1 : w2.cell? ⟨w1.heap.size, 1, none⟩ = some (.string (str t.text)) := L2.cell 1; have y2 : w2.cell? ⟨w1.heap.size, 2, none⟩ = some (.int .i64 t.num) := L2.cell 2; have y3 : w2.cell? ⟨w1.heap.size, 3, none⟩ = some (.int .i64 t.at') := L2.cell 3; have ltX := O2.lts.2.2; clear F2 R2 O1 L1 c3 c3b))
  have HO2 : Hid (Ob _ _ _ _ _ _ _ _ _ _ _) := ⟨O2⟩
  have AT := ratoms_any O2.rd.drew
  rw [← HN.out] at AT
  have HL2 : Hid (Blk _ _ _ _) := ⟨L2⟩
  clear O2 L2
  go_region_held3 (fun w' => w'.cell? ⟨w1.heap.size, 1, none⟩ = some (.string (str t.text)) ∧ w'.cell? ⟨w1.heap.size, 3, none⟩ = some (.int .i64 t.at')) (go_keep) (first | (go_at_call 63; refine AT.mono ?_; rintro e w3 ⟨v3, rfl, F3, R3, NR3, nl3⟩; obtain ⟨gv, cv, rfl⟩ := own_form NR3; have s3 := F3.size; simp only [World.size_drew] at s3; have O3 := HO2.out.drew.call F3 R3; have L3 := (HL2.out.kept (grown_drew _) (fun q => by cases q)).kept F3 (fun q => by cases q; omega); have p1 : w3.cell? ⟨w1.heap.size, 1, none⟩ = some (.string (str t.text)) := L3.cell 1; have p3 : w3.cell? ⟨w1.heap.size, 3, none⟩ = some (.int .i64 t.at') := L3.cell 3; have u0 : w3.cell? ⟨w1.heap.size + 1, 0, none⟩ = some (.int .i64 0) := O3.x.cell 0; have uz0 := O3.x.z 0; have u1 : w3.cell? ⟨w1.heap.size + 1, 1, none⟩ = some (.int .i64 t.at') := O3.x.cell 1; have uz1 := O3.x.z 1; have u2 : w3.cell? ⟨w1.heap.size + 1, 2, none⟩ = some (.string ⟨#[]⟩) := O3.x.cell 2; have uz2 := O3.x.z 2; have u3 : w3.cell? ⟨w1.heap.size + 1, 3, none⟩ = some (.int .i64 0) := O3.x.cell 3; have uz3 := O3.x.z 3; have u4 : w3.cell? ⟨w1.heap.size + 1, 4, none⟩ = some (nil3) := O3.x.cell 4; have uz4 := O3.x.z 4; have u5 : w3.cell? ⟨w1.heap.size + 1, 5, none⟩ = some (nil3) := O3.x.cell 5; have uz5 := O3.x.z 5; have u6 : w3.cell? ⟨w1.heap.size + 1, 6, none⟩ = some (nil3) := O3.x.cell 6; have uz6 := O3.x.z 6; have u7 : w3.cell? ⟨w1.heap.size + 1, 7, none⟩ = some (nil3) := O3.x.cell 7; have uz7 := O3.x.z 7; have hXb : w1.heap.size + 1 < w2.drew.heap.size := (by simpa using ltX); have OE := O3.store8 (.int .i64 2) (.int .i64 t.at') (.string (str t.text)) (.int .i64 0) (.slice gv N.1.length cv) (.slice none 0 0) (.slice none 0 0) (.slice none 0 0); have NRE := (own_fr (own_fr (own_fr (own_fr (own_fr (own_fr (own_fr (own_fr NR3 (z_grown_set _ (w1.heap.size + 1) 0 (.int .i64 2)) hXb) (z_grown_set _ (w1.heap.size + 1) 1 (.int .i64 t.at')) hXb) (z_grown_set _ (w1.heap.size + 1) 2 (.string (str t.text))) hXb) (z_grown_set _ (w1.heap.size + 1) 3 (.int .i64 0)) hXb) (z_grown_set _ (w1.heap.size + 1) 4 (.slice gv N.1.length cv)) hXb) (z_grown_set _ (w1.heap.size + 1) 5 (.slice none 0 0)) hXb) (z_grown_set _ (w1.heap.size + 1) 6 (.slice none 0 0)) hXb) (z_grown_set _ (w1.heap.size + 1) 7 (.slice none 0 0)) hXb); clear F3 R3))
  all_goals rename_i hHeld
  all_goals clear hHeld
  all_goals generalize ((((((((w3.setCell ⟨w1.heap.size + 1, 0, none⟩ (.int .i64 2)).setCell ⟨w1.heap.size + 1, 1, none⟩ (.int .i64 t.at')).setCell ⟨w1.heap.size + 1, 2, none⟩ (.string (str t.text))).setCell ⟨w1.heap.size + 1, 3, none⟩ (.int .i64 0)).setCell ⟨w1.heap.size + 1, 4, none⟩ (.slice gv N.1.length cv)).setCell ⟨w1.heap.size + 1, 5, none⟩ (.slice none 0 0)).setCell ⟨w1.heap.size + 1, 6, none⟩ (.slice none 0 0)).setCell ⟨w1.heap.size + 1, 7, none⟩ (.slice none 0 0)) = WE at OE NRE ⊢
  all_goals go_wp2_with (first
    | (refine wpList_load_row rfl 45 _ rfl (w1.heap.size + 1) rfl 45 _ (0, 0) _ OE.x Tryd.underlying45 rfl size46 ?_)
    | (refine wpList_store_row rfl 45 _ _ rfl w.heap.size _ rfl rfl 45 _ OE.m size46 rfl (by simp [Value.oneCell']) ?_))
  all_goals have oo := OE.out #[.int .i64 2, .int .i64 t.at', .string (str t.text), .int .i64 0, .slice gv N.1.length cv, nil3, nil3, nil3]
  all_goals refine bodyPost_ret (results_cell_row Tryd.results42 _ _ w.heap.size 45 #[.int .i64 2, .int .i64 t.at', .string (str t.text), .int .i64 0, .slice gv N.1.length cv, nil3, nil3, nil3] (0, 0) _ rfl OE.m.set Tryd.underlying45 rfl size46) rfl ⟨oo.1, oo.2, .mk 2 t.at' t.text 0 N.1 [] [] [], _, rfl, ⟨_, rfl, ?_⟩, HQ.out⟩
  all_goals
    have NF := own_fr NRE (grown_setRow _ w.heap.size #[.int .i64 2, .int .i64 t.at', .string (str t.text), .int .i64 0, .slice gv N.1.length cv, nil3, nil3, nil3]) (by omega)
    simp only [isE]
    exact ⟨_, _, _, _, [], [], [], rfl, row_of_owns NF (fun g hg => ⟨by have := (NF.lt g hg).1; omega, (NF.lt g hg).2⟩) (by omega), isRow_nil _ _ _, by simp only [isBs], isRow_nil _ _ _, by simp only [isEs], isRow_nil _ _ _, by simp only [isAs]⟩
set_option maxRecDepth 100000 in
set_option maxHeartbeats 8000000 in
theorem z_exp_prim {d : Nat} {k : Int} {t : Tok} {r : List Tok} (hk : k ≤ 60) (R : RdR w b (some (t :: r)) n) (hk9 : t.kind = 3) :
    Calls Tryd.prog 42 #[ptr b, .int .i64 k] w fun e w' => Fr b w w' ∧ RdR w' b (runO (pExp (d + 1)) (some (t :: r))) n ∧ ∃ x v, e = .returned v ∧ isEV w' (new w w') x v ∧ Rt (pExp (d + 1)) (some (t :: r)) x := by
  have lt := R.lt
  have T := token_any (R.alloc (.cells zero46 45))
  have M0 := Blk.fresh w zero46 45
  have HR : Hid (RdR _ _ _ _) := ⟨R⟩
  simp only [hdO] at T
  rw [hk9] at T
  obtain ⟨hq1, hq2⟩ := app_rt (d := d) (t := t) (r := r) (by omega)
  rw [hq1]
  rw [hk9] at hq2
  obtain ⟨N, eN⟩ : ∃ N, N = atomsO (some r) := ⟨_, rfl⟩
  rw [← eN] at hq2 ⊢
  have HN : Hid (N = atomsO (some r)) := ⟨eN⟩
  have HQ : Hid _ := ⟨hq2⟩
  have hk60 : ¬ (60 : Int) < k := by omega
  clear hq1 hq2 R hk hk9 eN
  go_enter Tryd.func42, Tryd.ntmps42
  go_wp2_with (first
    | (go_at_call 39; refine T.mono ?_; rintro e w1 ⟨rfl, B1⟩; have M1 : Blk w1 w.heap.size zero46 45 := (B1.block _ M0.lt).trans M0; have lt1 := M1.lt; have O1 : Ob w ((w1.alloc (.cells #[.int .i64 3, .string (str t.text), .int .i64 t.num, .int .i64 t.at'] 70)).alloc (.cells #[.int .i64 0, .int .i64 t.at', .string ⟨#[]⟩, .int .i64 0, nil3, nil3, nil3, nil3] 45)) b w.heap.size (w1.heap.size + 1) n (some (t :: r)) zero46 45 #[.int .i64 0, .int .i64 t.at', .string ⟨#[]⟩, .int .i64 0, nil3, nil3, nil3, nil3] 45 := ⟨(((HR.out.alloc _).below B1).alloc _).alloc _, (((Fr.refl b w).alloc _).trans (Fr.of_below B1)).alloc _ |>.alloc _, (M1.alloc _).alloc _, (by have := Blk.fresh (w1.alloc (.cells #[.int .i64 3, .string (str t.text), .int .i64 t.num, .int .i64 t.at'] 70)) #[.int .i64 0, .int .i64 t.at', .string ⟨#[]⟩, .int .i64 0, nil3, nil3, nil3, nil3] 45; simpa using this), ⟨lt, Nat.le_refl _, by omega⟩⟩; have L1 := (Blk.fresh w1 #[.int .i64 3, .string (str t.text), .int .i64 t.num, .int .i64 t.at'] 70).alloc (.cells #[.int .i64 0, .int .i64 t.at', .string ⟨#[]⟩, .int .i64 0, nil3, nil3, nil3, nil3] 45); have c3 := O1.rd.bad; have c3b : w1.cell? ⟨b, 3, none⟩ = some (.bool _) := ((HR.out.alloc _).below B1).bad; have nb1 : ¬ b = w1.heap.size := Nat.ne_of_lt (Nat.lt_trans lt lt1); have nb2 : ¬ b = w1.heap.size + 1 := Nat.ne_of_lt (Nat.lt_add_right 1 (Nat.lt_trans lt lt1)); simp only [Option.isNone_some] at c3 c3b; clear B1 M1 T M0)
    | (go_at_call 23; refine (on_any O1.rd (fun l e z => by cases e; cases z)).mono ?_; rintro e w2 ⟨rfl, F2, R2⟩; simp only [Option.map_some, List.tail_cons] at R2; have O2 := O1.call F2 R2; have L2 := L1.kept F2 (fun q => by cases q; omega); have y1 : w2.cell? ⟨w1.heap.size, 1, none⟩ = some (.string (str t.text)) := L2.cell 1; have y2 : w2.cell? ⟨w1.heap.size, 2, none⟩ = some (.int .i64 t.num) := L2.cell 2; have y3 : w2.cell? ⟨w1.heap.size, 3, none⟩ = some (.int .i64 t.at') := L2.cell 3; have ltX := O2.lts.2.2; clear F2 R2 O1 L1 c3 c3b))
  have HO2 : Hid (Ob _ _ _ _ _ _ _ _ _ _ _) := ⟨O2⟩
  have AT := ratoms_any O2.rd.drew
  rw [← HN.out] at AT
  have HL2 : Hid (Blk _ _ _ _) := ⟨L2⟩
  clear O2 L2
  go_region_held3 (fun w' => w'.cell? ⟨w1.heap.size, 1, none⟩ = some (.string (str t.text)) ∧ w'.cell? ⟨w1.heap.size, 3, none⟩ = some (.int .i64 t.at')) (go_keep) (first | (go_at_call 63; refine AT.mono ?_; rintro e w3 ⟨v3, rfl, F3, R3, NR3, nl3⟩; obtain ⟨gv, cv, rfl⟩ := own_form NR3; have s3 := F3.size; simp only [World.size_drew] at s3; have O3 := HO2.out.drew.call F3 R3; have L3 := (HL2.out.kept (grown_drew _) (fun q => by cases q)).kept F3 (fun q => by cases q; omega); have p1 : w3.cell? ⟨w1.heap.size, 1, none⟩ = some (.string (str t.text)) := L3.cell 1; have p3 : w3.cell? ⟨w1.heap.size, 3, none⟩ = some (.int .i64 t.at') := L3.cell 3; have u0 : w3.cell? ⟨w1.heap.size + 1, 0, none⟩ = some (.int .i64 0) := O3.x.cell 0; have uz0 := O3.x.z 0; have u1 : w3.cell? ⟨w1.heap.size + 1, 1, none⟩ = some (.int .i64 t.at') := O3.x.cell 1; have uz1 := O3.x.z 1; have u2 : w3.cell? ⟨w1.heap.size + 1, 2, none⟩ = some (.string ⟨#[]⟩) := O3.x.cell 2; have uz2 := O3.x.z 2; have u3 : w3.cell? ⟨w1.heap.size + 1, 3, none⟩ = some (.int .i64 0) := O3.x.cell 3; have uz3 := O3.x.z 3; have u4 : w3.cell? ⟨w1.heap.size + 1, 4, none⟩ = some (nil3) := O3.x.cell 4; have uz4 := O3.x.z 4; have u5 : w3.cell? ⟨w1.heap.size + 1, 5, none⟩ = some (nil3) := O3.x.cell 5; have uz5 := O3.x.z 5; have u6 : w3.cell? ⟨w1.heap.size + 1, 6, none⟩ = some (nil3) := O3.x.cell 6; have uz6 := O3.x.z 6; have u7 : w3.cell? ⟨w1.heap.size + 1, 7, none⟩ = some (nil3) := O3.x.cell 7; have uz7 := O3.x.z 7; have hXb : w1.heap.size + 1 < w2.drew.heap.size := (by simpa using ltX); have OE := O3.store8 (.int .i64 3) (.int .i64 t.at') (.string (str t.text)) (.int .i64 0) (.slice gv N.1.length cv) (.slice none 0 0) (.slice none 0 0) (.slice none 0 0); have NRE := (own_fr (own_fr (own_fr (own_fr (own_fr (own_fr (own_fr (own_fr NR3 (z_grown_set _ (w1.heap.size + 1) 0 (.int .i64 3)) hXb) (z_grown_set _ (w1.heap.size + 1) 1 (.int .i64 t.at')) hXb) (z_grown_set _ (w1.heap.size + 1) 2 (.string (str t.text))) hXb) (z_grown_set _ (w1.heap.size + 1) 3 (.int .i64 0)) hXb) (z_grown_set _ (w1.heap.size + 1) 4 (.slice gv N.1.length cv)) hXb) (z_grown_set _ (w1.heap.size + 1) 5 (.slice none 0 0)) hXb) (z_grown_set _ (w1.heap.size + 1) 6 (.slice none 0 0)) hXb) (z_grown_set _ (w1.heap.size + 1) 7 (.slice none 0 0)) hXb); clear F3 R3))
  all_goals rename_i hHeld
  all_goals clear hHeld
  all_goals generalize ((((((((w3.setCell ⟨w1.heap.size + 1, 0, none⟩ (.int .i64 3)).setCell ⟨w1.heap.size + 1, 1, none⟩ (.int .i64 t.at')).setCell ⟨w1.heap.size + 1, 2, none⟩ (.string (str t.text))).setCell ⟨w1.heap.size + 1, 3, none⟩ (.int .i64 0)).setCell ⟨w1.heap.size + 1, 4, none⟩ (.slice gv N.1.length cv)).setCell ⟨w1.heap.size + 1, 5, none⟩ (.slice none 0 0)).setCell ⟨w1.heap.size + 1, 6, none⟩ (.slice none 0 0)).setCell ⟨w1.heap.size + 1, 7, none⟩ (.slice none 0 0)) = WE at OE NRE ⊢
  all_goals go_wp2_with (first
    | (refine wpList_load_row rfl 45 _ rfl (w1.heap.size + 1) rfl 45 _ (0, 0) _ OE.x Tryd.underlying45 rfl size46 ?_)
    | (refine wpList_store_row rfl 45 _ _ rfl w.heap.size _ rfl rfl 45 _ OE.m size46 rfl (by simp [Value.oneCell']) ?_))
  all_goals have oo := OE.out #[.int .i64 3, .int .i64 t.at', .string (str t.text), .int .i64 0, .slice gv N.1.length cv, nil3, nil3, nil3]
  all_goals refine bodyPost_ret (results_cell_row Tryd.results42 _ _ w.heap.size 45 #[.int .i64 3, .int .i64 t.at', .string (str t.text), .int .i64 0, .slice gv N.1.length cv, nil3, nil3, nil3] (0, 0) _ rfl OE.m.set Tryd.underlying45 rfl size46) rfl ⟨oo.1, oo.2, .mk 3 t.at' t.text 0 N.1 [] [] [], _, rfl, ⟨_, rfl, ?_⟩, HQ.out⟩
  all_goals
    have NF := own_fr NRE (grown_setRow _ w.heap.size #[.int .i64 3, .int .i64 t.at', .string (str t.text), .int .i64 0, .slice gv N.1.length cv, nil3, nil3, nil3]) (by omega)
    simp only [isE]
    exact ⟨_, _, _, _, [], [], [], rfl, row_of_owns NF (fun g hg => ⟨by have := (NF.lt g hg).1; omega, (NF.lt g hg).2⟩) (by omega), isRow_nil _ _ _, by simp only [isBs], isRow_nil _ _ _, by simp only [isEs], isRow_nil _ _ _, by simp only [isAs]⟩
end

end Go.Proofs.YtcbdolflgpmaoaaDoor

