/- The document's reader: lists of parts; let and case, the plain side. -/
import Derived.Test.YtcbdolflgpmaoaaDoorRap
import Derived.Test.YtcbdolflgpmaoaaDoorRbi
import Derived.Test.YtcbdolflgpmaoaaDoorRal
namespace Go.Proofs.YtcbdolflgpmaoaaDoor
open Go.RowKit
set_option linter.unusedVariables false
set_option linter.unusedSimpArgs false


/-- some are there already: the brace, or more -/
def manyK {α : Type} (one : List Tok → PR α) (xs : List α) (l : List Tok) : PR (List α) :=
  if isS [125] l then .ok (xs, l.tail) else andT (many one l) fun ys r => .ok (xs ++ ys, r)
theorem andT_assoc {α β γ : Type} (p : PR α) (f : α → List Tok → PR β) (g : β → List Tok → PR γ) : andT (andT p f) g = andT p fun a r => andT (f a r) g := by
  rcases p with e | ⟨a, r⟩ <;> rfl
theorem many_first {α : Type} {one : List Tok → PR α} (ho : Eats one) (l : List Tok) : many one l = andT (one l) fun x r => manyK one [x] r := many_step ho l
theorem manyK_more {α : Type} {one : List Tok → PR α} (ho : Eats one) (xs : List α) (l : List Tok) (h : isS [125] l = false) : manyK one xs l = andT (one l) fun x r => manyK one (xs ++ [x]) r := by
  unfold manyK
  rw [h, many_first ho]
  simp only [Bool.false_eq_true, if_false, andT_assoc]
  congr 1
  funext x r
  unfold manyK
  split
  · rfl
  · simp only [andT_assoc]
    congr 1
    funext ys r
    simp [andT]
/-- what is there of a list whose reading began at oS -/
def ManyJ {α : Type} (one : List Tok → PR α) (oS : Option (List Tok)) (xs : List α) (o : Option (List Tok)) : Prop := runO (many one) oS = runO (manyK one xs) o ∧ ∀ ys, Rt (manyK one xs) o ys → Rt (many one) oS ys
theorem at_eq {α : Type} {p q : List Tok → PR α} {l : List Tok} (h : p l = q l) : runO p (some l) = runO q (some l) ∧ valO p (some l) = valO q (some l) := by simp only [runO, valO, h, and_self]
section
variable {α : Type} {one : List Tok → PR α} {oS : Option (List Tok)}
theorem ManyJ.first (ho : Eats one) {x : α} (hx : Rt one oS x) : ManyJ one oS [x] (runO one oS) := (Stp.mk (p := one) (f := fun x r => manyK one [x] r) (q := many one) (many_first ho)).rt hx
theorem ManyJ.more (ho : Eats one) {xs : List α} {l : List Tok} {x : α} (h : ManyJ one oS xs (some l)) (hs : isS [125] l = false) (hx : Rt one (some l) x) : ManyJ one oS (xs ++ [x]) (runO one (some l)) := by
  obtain ⟨e1, e2⟩ := at_eq (p := manyK one xs) (q := fun l => andT (one l) fun x r => manyK one (xs ++ [x]) r) (manyK_more ho xs l hs)
  have s := (Stp.mk (p := one) (f := fun x r => manyK one (xs ++ [x]) r) (q := fun l => andT (one l) fun x r => manyK one (xs ++ [x]) r) (fun l => rfl)).rt hx
  exact ⟨h.1.trans (e1.trans s.1), fun ys hy => h.2 ys (fun y q => s.2 ys hy y (by rw [← e2]; exact q))⟩
theorem ManyJ.close {xs : List α} {l : List Tok} (h : ManyJ one oS xs (some l)) (hs : isS [125] l = true) : runO (many one) oS = runO (pWant [125]) (some l) ∧ Rt (many one) oS xs := by
  have e : manyK one xs l = .ok (xs, l.tail) := by simp only [manyK, hs, if_true]
  have e2 : pWant [125] l = .ok ((), l.tail) := by simp only [pWant, hs, if_true]
  obtain ⟨a1, a2⟩ := runO_some (p := manyK one xs) e
  obtain ⟨b1, b2⟩ := runO_some (p := pWant [125]) e2
  exact ⟨by rw [h.1, a1, b1], h.2 xs (fun y q => by rw [a2] at q; cases q; rfl)⟩
theorem ManyJ.lost {xs : List α} (h : ManyJ one oS xs none) : runO (many one) oS = runO (pWant [125]) none ∧ Rt (many one) oS xs := ⟨h.1, h.2 xs (fun y q => by cases q)⟩
theorem left_lt (ho : Eats one) (l : List Tok) : leftO (runO one (some l)) < leftO (some l) := by
  simp only [runO]
  split
  · rename_i x r e
    have := ho _ _ _ e
    simp only [leftO]
    omega
  · simp only [leftO]
    omega
theorem left_le (ho : Eats one) (o : Option (List Tok)) (m : Nat) (h : leftO o ≤ m) (hm : 1 ≤ m) : 1 + leftO (runO one o) ≤ m := by
  cases o with
  | none => simp only [runO, leftO]; omega
  | some l => have := left_lt ho l; omega
end
theorem let_rt {d : Nat} {t : Tok} {r : List Tok} {bs : List B} {x : E} {oB : Option (List Tok)} (hm : ¬ (t.kind = 4 ∨ t.kind = 1 ∨ t.kind = 2 ∨ t.kind = 3)) (h1 : isR [108, 101, 116] (some (t :: r)) = true) (hb : Rt (many (pBind (pExp d))) (runO (pWant [123]) (some r)) bs) (eB : runO (many (pBind (pExp d))) (runO (pWant [123]) (some r)) = oB) (hx : Rt (pExp d) (runO (pWant [105, 110]) oB) x) :
    runO (pExp (d + 1)) (some (t :: r)) = runO (pExp d) (runO (pWant [105, 110]) oB) ∧ Rt (pExp (d + 1)) (some (t :: r)) (.mk 5 t.at' [] 0 [] bs [x] []) := by
  subst eB
  have k4 : ¬ t.kind = 4 := fun q => hm (.inl q)
  have k1 : ¬ (t.kind = 1 ∨ t.kind = 2 ∨ t.kind = 3) := fun q => hm (.inr q)
  have h1 : isS [108, 101, 116] (t :: r) = true := h1
  have e : pExp (d + 1) (t :: r) = andT (pWant [123] r) fun _ r => andT (many (pBind (pExp d)) r) fun bs r => andT (pWant [105, 110] r) fun _ r => andT (pExp d r) fun x r => .ok (.mk 5 t.at' [] 0 [] bs [x] [], r) := by
    simp only [pExp, if_neg k4, if_neg k1, h1, if_true]
  have e' : ∀ {p : List Tok → PR E} {q : List Tok → PR E}, p (t :: r) = q r → runO p (some (t :: r)) = runO q (some r) ∧ valO p (some (t :: r)) = valO q (some r) := fun h => by simp only [runO, valO, h, and_self]
  obtain ⟨r1, r2⟩ := e' (p := pExp (d + 1)) (q := fun r => andT (pWant [123] r) fun _ r => andT (many (pBind (pExp d)) r) fun bs r => andT (pWant [105, 110] r) fun _ r => andT (pExp d r) fun x r => .ok (.mk 5 t.at' [] 0 [] bs [x] [], r)) e
  have s1 := (Stp.mk (p := pWant [123]) (f := fun _ r => andT (many (pBind (pExp d)) r) fun bs r => andT (pWant [105, 110] r) fun _ r => andT (pExp d r) fun x r => Except.ok (E.mk 5 t.at' [] 0 [] bs [x] [], r)) (q := fun r => _) (fun l => rfl)).rt (rt_want [123] (some r))
  have s2 := (Stp.mk (p := many (pBind (pExp d))) (f := fun bs r => andT (pWant [105, 110] r) fun _ r => andT (pExp d r) fun x r => Except.ok (E.mk 5 t.at' [] 0 [] bs [x] [], r)) (q := fun r => _) (fun l => rfl)).rt hb
  have s3 := (Stp.mk (p := pWant [105, 110]) (f := fun _ r => andT (pExp d r) fun x r => Except.ok (E.mk 5 t.at' [] 0 [] bs [x] [], r)) (q := fun r => _) (fun l => rfl)).rt (rt_want [105, 110] (runO (many (pBind (pExp d))) (runO (pWant [123]) (some r))))
  have s4 := (Stp.mk (p := pExp d) (f := fun x r => (Except.ok (E.mk 5 t.at' [] 0 [] bs [x] [], r) : PR E)) (q := fun r => _) (fun l => rfl)).rt hx
  have s5 := rt_ret (E.mk 5 t.at' [] 0 [] bs [x] []) (runO (pExp d) (runO (pWant [105, 110]) (runO (many (pBind (pExp d))) (runO (pWant [123]) (some r)))))
  exact ⟨r1.trans (s1.1.trans (s2.1.trans (s3.1.trans (s4.1.trans s5.1)))), fun y hy => (s1.2 _ (s2.2 _ (s3.2 _ (s4.2 _ s5.2)))) y (by rw [← r2]; exact hy)⟩
theorem case_rt {d : Nat} {t : Tok} {r : List Tok} {al : List A} {x : E} (hm : ¬ (t.kind = 4 ∨ t.kind = 1 ∨ t.kind = 2 ∨ t.kind = 3)) (h1 : isR [108, 101, 116] (some (t :: r)) = false) (h2 : isR [99, 97, 115, 101] (some (t :: r)) = true) (hx : Rt (pExp d) (some r) x)
    (ha : Rt (many (pAlt (pExp d))) (runO (pWant [123]) (runO (pWant [111, 102]) (runO (pExp d) (some r)))) al) :
    runO (pExp (d + 1)) (some (t :: r)) = runO (many (pAlt (pExp d))) (runO (pWant [123]) (runO (pWant [111, 102]) (runO (pExp d) (some r)))) ∧ Rt (pExp (d + 1)) (some (t :: r)) (.mk 6 t.at' [] 0 [] [] [x] al) := by
  have k4 : ¬ t.kind = 4 := fun q => hm (.inl q)
  have k1 : ¬ (t.kind = 1 ∨ t.kind = 2 ∨ t.kind = 3) := fun q => hm (.inr q)
  have h1 : isS [108, 101, 116] (t :: r) = false := h1
  have h2 : isS [99, 97, 115, 101] (t :: r) = true := h2
  have e : pExp (d + 1) (t :: r) = andT (pExp d r) fun x r => andT (pWant [111, 102] r) fun _ r => andT (pWant [123] r) fun _ r => andT (many (pAlt (pExp d)) r) fun al r => .ok (.mk 6 t.at' [] 0 [] [] [x] al, r) := by
    simp only [pExp, if_neg k4, if_neg k1, h1, h2, if_true, Bool.false_eq_true, if_false]
  have e' : ∀ {p : List Tok → PR E} {q : List Tok → PR E}, p (t :: r) = q r → runO p (some (t :: r)) = runO q (some r) ∧ valO p (some (t :: r)) = valO q (some r) := fun h => by simp only [runO, valO, h, and_self]
  obtain ⟨r1, r2⟩ := e' (p := pExp (d + 1)) (q := fun r => andT (pExp d r) fun x r => andT (pWant [111, 102] r) fun _ r => andT (pWant [123] r) fun _ r => andT (many (pAlt (pExp d)) r) fun al r => .ok (.mk 6 t.at' [] 0 [] [] [x] al, r)) e
  have s1 := (Stp.mk (p := pExp d) (f := fun x r => andT (pWant [111, 102] r) fun _ r => andT (pWant [123] r) fun _ r => andT (many (pAlt (pExp d)) r) fun al r => Except.ok (E.mk 6 t.at' [] 0 [] [] [x] al, r)) (q := fun r => _) (fun l => rfl)).rt hx
  have s2 := (Stp.mk (p := pWant [111, 102]) (f := fun _ r => andT (pWant [123] r) fun _ r => andT (many (pAlt (pExp d)) r) fun al r => Except.ok (E.mk 6 t.at' [] 0 [] [] [x] al, r)) (q := fun r => _) (fun l => rfl)).rt (rt_want [111, 102] (runO (pExp d) (some r)))
  have s3 := (Stp.mk (p := pWant [123]) (f := fun _ r => andT (many (pAlt (pExp d)) r) fun al r => Except.ok (E.mk 6 t.at' [] 0 [] [] [x] al, r)) (q := fun r => _) (fun l => rfl)).rt (rt_want [123] (runO (pWant [111, 102]) (runO (pExp d) (some r))))
  have s4 := (Stp.mk (p := many (pAlt (pExp d))) (f := fun al r => (Except.ok (E.mk 6 t.at' [] 0 [] [] [x] al, r) : PR E)) (q := fun r => _) (fun l => rfl)).rt ha
  have s5 := rt_ret (E.mk 6 t.at' [] 0 [] [] [x] al) (runO (many (pAlt (pExp d))) (runO (pWant [123]) (runO (pWant [111, 102]) (runO (pExp d) (some r)))))
  exact ⟨r1.trans (s1.1.trans (s2.1.trans (s3.1.trans (s4.1.trans s5.1)))), fun y hy => (s1.2 _ (s2.2 _ (s3.2 _ (s4.2 _ s5.2)))) y (by rw [← r2]; exact hy)⟩
theorem info51 : (Tryd.prog.info? 49).map (fun i => (i.zero, i.size, i.bytes)) = some (some (.agg #[.string ⟨#[]⟩, .int .i64 0, nil3, .int .i64 0, .int .i64 0, .string ⟨#[]⟩, .int .i64 0, nil3, nil3, nil3, nil3]), 11, 184) := by kernel_rfl
theorem info47 : (Tryd.prog.info? 45).map (fun i => (i.zero, i.size, i.bytes)) = some (some (.agg #[.int .i64 0, .int .i64 0, .string ⟨#[]⟩, .int .i64 0, nil3, nil3, nil3, nil3]), 8, 136) := by kernel_rfl
theorem info102 : (Tryd.prog.info? 92).map (fun i => (i.zero, i.size, i.bytes)) = some (some (.agg #[.int .i64 0, .int .i64 0, .string ⟨#[]⟩, .int .i64 0, nil3, .int .i64 0, .int .i64 0, .string ⟨#[]⟩, .int .i64 0, nil3, nil3, nil3, nil3]), 13, 200) := by kernel_rfl
theorem kinds_no {t : Tok} (hm : ¬ (t.kind = 4 ∨ t.kind = 1 ∨ t.kind = 2 ∨ t.kind = 3)) : (t.kind == 4) = false ∧ (t.kind == 1) = false ∧ (t.kind == 2) = false ∧ (t.kind == 3) = false := by
  refine ⟨?_, ?_, ?_, ?_⟩ <;> simp only [beq_eq_false_iff_ne] <;> intro q <;> exact hm (by omega)
theorem RdR.left {w : World} {b : Nat} {o : Option (List Tok)} {n : Int} (h : RdR w b o n) : leftO o ≤ 16385 := by
  cases o with
  | none => simp [leftO]
  | some l => have := h.len; simp only [leftO]; omega

end Go.Proofs.YtcbdolflgpmaoaaDoor


/- The document's reader: let. -/
namespace Go.Proofs.YtcbdolflgpmaoaaDoor
open Go.RowKit
set_option linter.unusedVariables false
set_option linter.unusedSimpArgs false

section
variable {w : World} {b : Nat} {n : Int}
/-- at the loop's head -/
def LetI (d : Nat) (w wr : World) (b X : Nat) (n : Int) (t : Tok) (o1 : Option (List Tok)) : Prop :=
  ∃ bs o' vb xb, Ob w wr b w.heap.size X n o' zero46 45 #[.int .i64 5, .int .i64 t.at', .string ⟨#[]⟩, .int .i64 0, nil3, vb, nil3, nil3] 45 ∧ Hid (ManyJ (pBind (pExp d)) o1 bs o') ∧ bs.length + leftO o' ≤ 16385 ∧ wr.ownsRow (X + 1) 49 11 vb bs.length xb ∧ Hid (isBs wr (inn X wr vb) bs xb)
set_option maxRecDepth 100000 in
set_option maxHeartbeats 8000000 in
theorem exp_let {d : Nat} {k : Int} (h0 : 0 ≤ k) (hE : ExpR d) {t : Tok} {r : List Tok} (hk : k = 60 - d) (R : RdR w b (some (t :: r)) n) (hm : ¬ (t.kind = 4 ∨ t.kind = 1 ∨ t.kind = 2 ∨ t.kind = 3)) (ia : isR [108, 101, 116] (some (t :: r)) = true) :
    Calls Tryd.prog 42 #[ptr b, .int .i64 k] w fun e w' => Fr b w w' ∧ RdR w' b (runO (pExp (d + 1)) (some (t :: r))) n ∧ ∃ x v, e = .returned v ∧ isEV w' (new w w') x v ∧ Rt (pExp (d + 1)) (some (t :: r)) x := by
  have lt := R.lt
  have T := token_any (R.alloc (.cells zero46 45))
  have M0 := Blk.fresh w zero46 45
  have HR : Hid (RdR _ _ _ _) := ⟨R⟩
  simp only [hdO] at T
  obtain ⟨n4, n1, n2, n3⟩ := kinds_no hm
  obtain ⟨o1, e1⟩ : ∃ o1, o1 = runO (pWant [123]) (some r) := ⟨_, rfl⟩
  obtain ⟨Q, hQ⟩ : ∃ Q : Option (List Tok) → E → Prop, ∀ q x, Q q x ↔ (runO (pExp (d + 1)) (some (t :: r)) = q ∧ Rt (pExp (d + 1)) (some (t :: r)) x) := ⟨_, fun _ _ => Iff.rfl⟩
  have HQ : Hid (∀ (bs : List B) (x : E) (oB : Option (List Tok)), Rt (many (pBind (pExp d))) o1 bs → runO (many (pBind (pExp d))) o1 = oB → Rt (pExp d) (runO (pWant [105, 110]) oB) x → Q (runO (pExp d) (runO (pWant [105, 110]) oB)) (.mk 5 t.at' [] 0 [] bs [x] [])) := ⟨fun bs x oB h1 h2 h3 => (hQ _ _).2 (let_rt hm ia (by rw [← e1]; exact h1) (by rw [← e1]; exact h2) h3)⟩
  suffices Calls Tryd.prog 42 #[ptr b, .int .i64 k] w fun e w' => Fr b w w' ∧ ∃ q x v, RdR w' b q n ∧ e = .returned v ∧ isEV w' (new w w') x v ∧ Q q x by
    refine this.mono ?_
    rintro e w' ⟨h1, q, x, v, h2, h3, h4, h5⟩
    obtain ⟨h5, h6⟩ := (hQ _ _).1 h5
    rw [h5]
    exact ⟨h1, h2, x, v, h3, h4, h6⟩
  have hk60 : ¬ (60 : Int) < k := by omega
  have HEX : Hid (ExpR d ∧ k + 1 = 61 - d) := ⟨hE, by omega⟩
  have kw : IntKind.i64.wrap (k + 1) = k + 1 := by rw [IntKind.wrap_i64]; omega
  have HE1 : Hid (o1 = runO (pWant [123]) (some r)) := ⟨e1⟩
  have ISa := fun (W : World) (RW : RdR W b (some (t :: r)) n) => is_any RW [108, 101, 116]
  rw [ia, show str [108, 101, 116] = ⟨#[108, 101, 116]⟩ from rfl] at ISa
  clear R hk hm ia hE e1 hQ
  go_enter Tryd.func42, Tryd.ntmps42
  go_wp2_with (first
    | (go_at_call 39; refine T.mono ?_; rintro e w1 ⟨rfl, B1⟩; have M1 : Blk w1 w.heap.size zero46 45 := (B1.block _ M0.lt).trans M0; have lt1 := M1.lt; have O1 : Ob w ((w1.alloc (.cells #[.int .i64 t.kind, .string (str t.text), .int .i64 t.num, .int .i64 t.at'] 70)).alloc (.cells #[.int .i64 0, .int .i64 t.at', .string ⟨#[]⟩, .int .i64 0, nil3, nil3, nil3, nil3] 45)) b w.heap.size (w1.heap.size + 1) n (some (t :: r)) zero46 45 #[.int .i64 0, .int .i64 t.at', .string ⟨#[]⟩, .int .i64 0, nil3, nil3, nil3, nil3] 45 := ⟨(((HR.out.alloc _).below B1).alloc _).alloc _, (((Fr.refl b w).alloc _).trans (Fr.of_below B1)).alloc _ |>.alloc _, (M1.alloc _).alloc _, (by have := Blk.fresh (w1.alloc (.cells #[.int .i64 t.kind, .string (str t.text), .int .i64 t.num, .int .i64 t.at'] 70)) #[.int .i64 0, .int .i64 t.at', .string ⟨#[]⟩, .int .i64 0, nil3, nil3, nil3, nil3] 45; simpa using this), ⟨lt, Nat.le_refl _, by omega⟩⟩; have L1 := (Blk.fresh w1 #[.int .i64 t.kind, .string (str t.text), .int .i64 t.num, .int .i64 t.at'] 70).alloc (.cells #[.int .i64 0, .int .i64 t.at', .string ⟨#[]⟩, .int .i64 0, nil3, nil3, nil3, nil3] 45); have c3 := O1.rd.bad; have c3b : w1.cell? ⟨b, 3, none⟩ = some (.bool _) := ((HR.out.alloc _).below B1).bad; have nb1 : ¬ b = w1.heap.size := Nat.ne_of_lt (Nat.lt_trans lt lt1); have nb2 : ¬ b = w1.heap.size + 1 := Nat.ne_of_lt (Nat.lt_add_right 1 (Nat.lt_trans lt lt1)); simp only [Option.isNone_some] at c3 c3b; clear B1 M1 T M0)
    | (go_at_call_of 22 (Value.string { data := #[108, 101, 116] }); refine (ISa _ O1.rd).mono ?_; rintro e wa ⟨rfl, Ba⟩; have Oa := O1.below Ba; clear Ba)
    | (go_at_call 23; refine (on_any Oa.rd (fun l e z => by cases e; cases z)).mono ?_; rintro e w2 ⟨rfl, F2, R2⟩; simp only [Option.map_some, List.tail_cons] at R2; have O2 := Oa.call F2 R2; have ltX := O2.lts.2.2; have x0 : w2.cell? ⟨w1.heap.size + 1, 0, none⟩ = some (.int .i64 0) := O2.x.cell 0; have xz0 := O2.x.z 0; clear F2 R2 O1 L1 c3 c3b Oa)
    | (go_at_call_of 25 (Value.string { data := #[123] }); have O2' : Ob w _ b w.heap.size (w1.heap.size + 1) n _ zero46 45 #[.int .i64 5, .int .i64 t.at', .string ⟨#[]⟩, .int .i64 0, nil3, nil3, nil3, nil3] 45 := O2.store 0 (.int .i64 5); have WA := want_any O2'.rd [123]; rw [← HE1.out] at WA; refine WA.mono ?_; rintro e w3 ⟨rfl, F3, R3⟩; have O3 := O2'.call F3 R3; clear F3 R3 O2 O2' WA x0 xz0))
  generalize hX : w1.heap.size + 1 = X at *
  have hbX : b ≤ X := by omega
  have O := O3
  have OW : w3.ownsRow (X + 1) 49 11 nil3 0 [] := World.ownsRow_nil _ _ _ _
  have BI := rbind_any HEX.out.1 (k := k + 1) HEX.out.2 O.rd.drew
  have x5 : w3.cell? ⟨X, 5, none⟩ = some nil3 := O.x.cell 5
  have HO : Hid (Ob _ _ _ _ _ _ _ _ _ _ _) := ⟨O⟩
  have hvb : ∀ i, (nil3 : Value).ownBlock = some i → i < w3.drew.heap.size := fun i hi => (OW.lt i hi).2
  have hXs : X < w3.heap.size := O.lts.2.2
  have hl1 : leftO o1 ≤ 16385 := O.rd.left
  have HL1 : Hid (leftO o1 ≤ 16385) := ⟨hl1⟩
  obtain ⟨i0, hi, hz0, hz1, hz2⟩ := info_parts info51
  clear O O3 hX hl1
  go_cut [] from 81 to 89 (fun wx => LetI d w wx b X n t o1)
  case first =>
    go_region_law (first
        | (refine step_append_lies _ (by rfl) _ _ _ (by rfl) (X + 1) 49 i0 _ 11 184 Tryd.underlying23 hi hz0 hz1 hz2 rfl (by decide) nil3 0 ([] : List Value) (by rfl) (own_alloc OW4 _) ⟨_, 0, none⟩ 1 1 [.string s0, .int .i64 a0, .slice g3 n3 c3, .int .i64 k0, .int .i64 a1, .string s1, .int .i64 m1, .slice g4 n4 c4, .slice g5 n5 c5, .slice g6 n6 c6, .slice g7 n7 c7] (by rfl) rfl (World.news_of_block (heap_alloc_new _ _)) (by simp [Value.oneCell']) (by decide) (by unfold maxLen; omega) (by omega) (by simp; omega) _ rfl ?_; intro q5 cap5 w5 ho hg hat hlt; have O5 := (O4.alloc _).row (own_alloc OW4 _) hg; have y5 : w5.cell? ⟨X, 5, none⟩ = some nil3 := O5.x.cell 5; have z5 : w5.frozen? ⟨X, 5, none⟩ = false := O5.x.z 5; have KO := keeps_old (j := 5) (u := .slice (some ⟨q5, 0, none⟩) (0 + 1) cap5) (m := 0 + 1) (cap := cap5) ((Fr.refl b w3).drew.trans HF4.out) hbX hg hat; have KN := keeps_new (j := 5) (u := .slice (some ⟨q5, 0, none⟩) (0 + 1) cap5) (m := 0 + 1) (cap := cap5) (X := X) hvb hXs HF4.out.size hg hat; clear hg hat hlt)
        | (go_simp; go_at_call 26; refine BI.mono ?_; rintro e w4 ⟨F4, R4, x4, v4, rfl, ⟨c, rfl, I4⟩, hx4⟩; obtain ⟨k0, a1, m1, a0, s1, s0, g3, g4, g5, g6, g7, n3, n4, n5, n6, n7, c3, c4, c5, c6, c7, rfl⟩ := isB_eleven I4; have HI4 : Hid (isB _ _ _ _) := ⟨I4⟩; have HX4 : Hid (Rt _ _ _) := ⟨hx4⟩; have O4 := (HO.out.drew).call F4 R4; have OW4 := own_call (OW.drew) F4 hbX; have HF4 : Hid (Fr b w3.drew w4) := ⟨F4⟩; have y4 : w4.cell? ⟨X, 5, none⟩ = some nil3 := O4.x.cell 5; have lt4 := O4.lts.2.2; clear F4 R4 I4 hx4))
    all_goals go_wp2
    all_goals go_meet
    all_goals exact ⟨[x4], _, .slice (some ⟨q5, 0, none⟩) 1 cap5, [.string s0, .int .i64 a0, .slice g3 n3 c3, .int .i64 k0, .int .i64 a1, .string s1, .int .i64 m1, .slice g4 n4 c4, .slice g5 n5 c5, .slice g6 n6 c6, .slice g7 n7 c7], O5.store 5 _, ⟨ManyJ.first (bind_eats d) HX4.out⟩, left_le (bind_eats d) o1 _ HL1.out (by omega), own_store ho 5 _, ⟨by have := isB_keeps KN x4 _ HI4.out; exact isBs_snoc [] x4 [] _ (by simp only [isBs]) this⟩⟩
  case rest =>
    obtain ⟨bs0, l0, vb0, xb0, O0, HQ0, hl0, OW0, HIB0⟩ := hcut
    clear HO BI OW
    go_wp2
    go_loopw [] (fun wr => LetI d w wr b X n t o1) (fun wr => mz wr b)
    case atStart => exact ⟨bs0, l0, vb0, xb0, O0, HQ0, hl0, OW0, HIB0⟩
    case round =>
      clear O0 HQ0 hl0 OW0 HIB0 hi hz0 hz1 hz2
      obtain ⟨bs, o', vb, xb, O, HJ, hl, OW, HIB⟩ := hrel
      have HM : Hid (mz wr b = leftO o') := ⟨O.rd.mz⟩
      cases o' with
      | none =>
        have c3 : wr.cell? ⟨b, 3, none⟩ = some (.bool true) := O.rd.bad
        simp only [leftO] at hl
        · clear c3
          have HF0 : Hid (runO (many (pBind (pExp d))) o1 = runO (pWant [125]) none ∧ Rt (many (pBind (pExp d))) o1 bs) := ⟨HJ.out.lost⟩
          have HO : Hid (Ob _ _ _ _ _ _ _ _ _ _ _) := ⟨O⟩
          clear O HJ HM
          obtain ⟨w5, ew5⟩ : ∃ w5, w5 = wr := ⟨_, rfl⟩
          have O5 : Ob w w5 b w.heap.size X n none zero46 45 #[.int .i64 5, .int .i64 t.at', .string ⟨#[]⟩, .int .i64 0, nil3, vb, nil3, nil3] 45 := by rw [ew5]; exact HO.out
          have F5 : Fr b wr w5 := by rw [ew5]; exact Fr.refl b wr
          have c3 : w5.cell? ⟨b, 3, none⟩ = some (.bool true) := O5.rd.bad
          rw [← ew5]
          clear ew5
          go_wp2_with (first
            | (go_at_call_of 25 (Value.string { data := #[125] }); refine (want_any O5.rd [125]).mono ?_; rintro e w6 ⟨rfl, F6, R6⟩; have O6 := O5.call F6 R6; clear O5)
            | (go_at_call_of 25 (Value.string { data := #[105, 110] }); refine (want_any O6.rd [105, 110]).mono ?_; rintro e w7 ⟨rfl, F7, R7⟩; have O7 := O6.call F7 R7; clear O6))
          have F07 : Fr b wr w7 := F5.trans (F6.trans F7)
          have OW7 := own_fr OW F07 (by omega)
          obtain ⟨gb, cb, rfl⟩ := own_form OW7
          have HI7 : Hid (isBs w7 (inn X w7 (.slice gb bs.length cb)) bs xb) := ⟨isBs_keeps (keeps_inn F07 hbX) bs xb HIB.out⟩
          have XP := HEX.out.1 (k + 1) HEX.out.2 _ b _ n O7.rd.drew
          have HO7 : Hid (Ob _ _ _ _ _ _ _ _ _ _ _) := ⟨O7⟩
          have x6 : w7.cell? ⟨X, 6, none⟩ = some nil3 := O7.x.cell 6
          have hXs : X < w7.heap.size := O7.lts.2.2
          obtain ⟨i0, hi, hz0, hz1, hz2⟩ := info_parts info47
          clear F5 F6 F7 R6 R7 F07 O7 HO
          go_region_law (first
            | (refine step_append_lies _ (by rfl) _ _ _ (by rfl) (X + 1) 45 i0 _ 8 136 Tryd.underlying42 hi hz0 hz1 hz2 rfl (by decide) nil3 0 [] (by rfl) (World.ownsRow_nil _ _ _ _) ⟨_, 0, none⟩ 1 1 [.int .i64 k0, .int .i64 a0, .string s0, .int .i64 m0, .slice g4 n4 c4, .slice g5 n5 c5, .slice g6 n6 c6, .slice g7 n7 c7] (by rfl) rfl (World.news_of_block (heap_alloc_new _ _)) (by simp [Value.oneCell']) (by decide) (by unfold maxLen; omega) (by omega) (by simp; omega) _ rfl ?_; intro q9 cap9 w9 ho hg hat hlt; have O9 := (O8.alloc _).kept hg (fun i e => by cases e); have y9 : w9.cell? ⟨X, 6, none⟩ = some nil3 := O9.x.cell 6; have z9 : w9.frozen? ⟨X, 6, none⟩ = false := O9.x.z 6; have HK1 := isBs_keeps (keeps_other (j := 6) (v := .slice gb bs.length cb) (u := .slice (some ⟨q9, 0, none⟩) 1 cap9) ((Fr.refl b w7).drew.trans HF8.out) hbX hg) bs xb HI7.out; have HK2 := isE_keeps (keeps_new (j := 6) (v := nil3) (u := .slice (some ⟨q9, 0, none⟩) 1 cap9) (m := 1) (cap := cap9) (X := X) (fun i e => by cases e) hXs HF8.out.size hg hat) x8 _ HE8.out; have OW9 := own_store (own_none (own_alloc (own_fr OW7.drew HF8.out (by omega)) _) hg) 6 (.slice (some ⟨q9, 0, none⟩) 1 cap9); have OK9 := own_store ho 6 (.slice (some ⟨q9, 0, none⟩) 1 cap9); have OE : Ob w _ b w.heap.size X n _ zero46 45 #[.int .i64 5, .int .i64 t.at', .string ⟨#[]⟩, .int .i64 0, nil3, (.slice gb bs.length cb), (.slice (some ⟨q9, 0, none⟩) 1 cap9), nil3] 45 := O9.store 6 (.slice (some ⟨q9, 0, none⟩) 1 cap9); clear hg hat hlt ho)
            | (go_simp; go_at_call 42; refine XP.mono ?_; rintro e w8 ⟨F8, R8, x8, v8, rfl, ⟨c, rfl, E8⟩, hx8⟩; obtain ⟨k0, a0, m0, s0, g4, g5, g6, g7, n4, n5, n6, n7, c4, c5, c6, c7, rfl⟩ := isE_eight E8; have HE8 : Hid (isE _ _ _ _) := ⟨E8⟩; have HX8 : Hid (Rt _ _ _) := ⟨hx8⟩; have O8 := (HO7.out.drew).call F8 R8; have y8 : w8.cell? ⟨X, 6, none⟩ = some nil3 := O8.x.cell 6; have lt8 := O8.lts.2.2; have HF8 : Hid (Fr b w7.drew w8) := ⟨F8⟩; clear F8 R8 E8 hx8))
          all_goals generalize (w9.setCell ⟨X, 6, none⟩ (.slice (some ⟨q9, 0, none⟩) 1 cap9)) = WE at OE OW9 OK9 HK1 HK2 ⊢
          all_goals go_wp2_with (first
            | (refine wpList_load_row rfl 45 _ rfl X rfl 45 _ (0, 0) _ OE.x Tryd.underlying45 rfl size46 ?_)
            | (refine wpList_store_row rfl 45 _ _ rfl w.heap.size _ rfl rfl 45 _ OE.m size46 rfl (by simp [Value.oneCell']) ?_))
          all_goals
            have oo := OE.out #[.int .i64 5, .int .i64 t.at', .string ⟨#[]⟩, .int .i64 0, nil3, (.slice gb bs.length cb), (.slice (some ⟨q9, 0, none⟩) 1 cap9), nil3]
            have lo := OE.lo
            have OWF := z_own_kept OW9 (grown_setRow WE w.heap.size #[.int .i64 5, .int .i64 t.at', .string ⟨#[]⟩, .int .i64 0, nil3, (.slice gb bs.length cb), (.slice (some ⟨q9, 0, none⟩) 1 cap9), nil3]) (by omega)
            have OKF := z_own_kept OK9 (grown_setRow WE w.heap.size #[.int .i64 5, .int .i64 t.at', .string ⟨#[]⟩, .int .i64 0, nil3, (.slice gb bs.length cb), (.slice (some ⟨q9, 0, none⟩) 1 cap9), nil3]) (by omega)
            refine bodyPost_ret (results_cell_row Tryd.results42 _ _ w.heap.size 45 #[.int .i64 5, .int .i64 t.at', .string ⟨#[]⟩, .int .i64 0, nil3, (.slice gb bs.length cb), (.slice (some ⟨q9, 0, none⟩) 1 cap9), nil3] (0, 0) _ rfl OE.m.set Tryd.underlying45 rfl size46) rfl ⟨oo.1, _, _, _, oo.2, rfl, ⟨_, rfl, ?_⟩, HQ.out bs x8 _ HF0.out.2 HF0.out.1 HX8.out⟩
            simp only [isE]
            exact ⟨_, _, _, _, xb, [.int .i64 k0, .int .i64 a0, .string s0, .int .i64 m0, .slice g4 n4 c4, .slice g5 n5 c5, .slice g6 n6 c6, .slice g7 n7 c7], [], rfl, isRow_nil _ _ _, own_new OWF (by omega) (by omega), isBs_keeps (keeps_hand (by omega) (by omega)) bs xb HK1, own_new OKF (by omega) (by simp), by simp only [isEs]; exact ⟨[.int .i64 k0, .int .i64 a0, .string s0, .int .i64 m0, .slice g4 n4 c4, .slice g5 n5 c5, .slice g6 n6 c6, .slice g7 n7 c7], [], by simp, isE_keeps (keeps_hand (by omega) (by omega)) x8 _ HK2, rfl⟩, isRow_nil _ _ _, by simp only [isAs]⟩
      | some l =>
        have c3 : wr.cell? ⟨b, 3, none⟩ = some (.bool false) := O.rd.bad
        have ST := is_any O.rd [125]
        cases hst : isS [125] l with
        | true =>
          rw [show isR [125] (some l) = true from hst, show str [125] = ⟨#[125]⟩ from rfl] at ST
          have HF0 : Hid (runO (many (pBind (pExp d))) o1 = runO (pWant [125]) (some l) ∧ Rt (many (pBind (pExp d))) o1 bs) := ⟨HJ.out.close hst⟩
          have HO : Hid (Ob _ _ _ _ _ _ _ _ _ _ _) := ⟨O⟩
          clear O HJ HM hst
          go_wp2_with (first
            | (go_at_call_of 22 (Value.string { data := #[125] }); refine ST.mono ?_; rintro e w5 ⟨rfl, B5⟩; have O5 := HO.out.below B5; have F5 : Fr b wr w5 := Fr.of_below B5; clear B5)
            | (go_at_call_of 25 (Value.string { data := #[125] }); refine (want_any O5.rd [125]).mono ?_; rintro e w6 ⟨rfl, F6, R6⟩; have O6 := O5.call F6 R6; clear O5)
            | (go_at_call_of 25 (Value.string { data := #[105, 110] }); refine (want_any O6.rd [105, 110]).mono ?_; rintro e w7 ⟨rfl, F7, R7⟩; have O7 := O6.call F7 R7; clear O6))
          have F07 : Fr b wr w7 := F5.trans (F6.trans F7)
          have OW7 := own_fr OW F07 (by omega)
          obtain ⟨gb, cb, rfl⟩ := own_form OW7
          have HI7 : Hid (isBs w7 (inn X w7 (.slice gb bs.length cb)) bs xb) := ⟨isBs_keeps (keeps_inn F07 hbX) bs xb HIB.out⟩
          have XP := HEX.out.1 (k + 1) HEX.out.2 _ b _ n O7.rd.drew
          have HO7 : Hid (Ob _ _ _ _ _ _ _ _ _ _ _) := ⟨O7⟩
          have x6 : w7.cell? ⟨X, 6, none⟩ = some nil3 := O7.x.cell 6
          have hXs : X < w7.heap.size := O7.lts.2.2
          obtain ⟨i0, hi, hz0, hz1, hz2⟩ := info_parts info47
          clear F5 F6 F7 R6 R7 F07 O7 HO
          go_region_law (first
            | (refine step_append_lies _ (by rfl) _ _ _ (by rfl) (X + 1) 45 i0 _ 8 136 Tryd.underlying42 hi hz0 hz1 hz2 rfl (by decide) nil3 0 [] (by rfl) (World.ownsRow_nil _ _ _ _) ⟨_, 0, none⟩ 1 1 [.int .i64 k0, .int .i64 a0, .string s0, .int .i64 m0, .slice g4 n4 c4, .slice g5 n5 c5, .slice g6 n6 c6, .slice g7 n7 c7] (by rfl) rfl (World.news_of_block (heap_alloc_new _ _)) (by simp [Value.oneCell']) (by decide) (by unfold maxLen; omega) (by omega) (by simp; omega) _ rfl ?_; intro q9 cap9 w9 ho hg hat hlt; have O9 := (O8.alloc _).kept hg (fun i e => by cases e); have y9 : w9.cell? ⟨X, 6, none⟩ = some nil3 := O9.x.cell 6; have z9 : w9.frozen? ⟨X, 6, none⟩ = false := O9.x.z 6; have HK1 := isBs_keeps (keeps_other (j := 6) (v := .slice gb bs.length cb) (u := .slice (some ⟨q9, 0, none⟩) 1 cap9) ((Fr.refl b w7).drew.trans HF8.out) hbX hg) bs xb HI7.out; have HK2 := isE_keeps (keeps_new (j := 6) (v := nil3) (u := .slice (some ⟨q9, 0, none⟩) 1 cap9) (m := 1) (cap := cap9) (X := X) (fun i e => by cases e) hXs HF8.out.size hg hat) x8 _ HE8.out; have OW9 := own_store (own_none (own_alloc (own_fr OW7.drew HF8.out (by omega)) _) hg) 6 (.slice (some ⟨q9, 0, none⟩) 1 cap9); have OK9 := own_store ho 6 (.slice (some ⟨q9, 0, none⟩) 1 cap9); have OE : Ob w _ b w.heap.size X n _ zero46 45 #[.int .i64 5, .int .i64 t.at', .string ⟨#[]⟩, .int .i64 0, nil3, (.slice gb bs.length cb), (.slice (some ⟨q9, 0, none⟩) 1 cap9), nil3] 45 := O9.store 6 (.slice (some ⟨q9, 0, none⟩) 1 cap9); clear hg hat hlt ho)
            | (go_simp; go_at_call 42; refine XP.mono ?_; rintro e w8 ⟨F8, R8, x8, v8, rfl, ⟨c, rfl, E8⟩, hx8⟩; obtain ⟨k0, a0, m0, s0, g4, g5, g6, g7, n4, n5, n6, n7, c4, c5, c6, c7, rfl⟩ := isE_eight E8; have HE8 : Hid (isE _ _ _ _) := ⟨E8⟩; have HX8 : Hid (Rt _ _ _) := ⟨hx8⟩; have O8 := (HO7.out.drew).call F8 R8; have y8 : w8.cell? ⟨X, 6, none⟩ = some nil3 := O8.x.cell 6; have lt8 := O8.lts.2.2; have HF8 : Hid (Fr b w7.drew w8) := ⟨F8⟩; clear F8 R8 E8 hx8))
          all_goals generalize (w9.setCell ⟨X, 6, none⟩ (.slice (some ⟨q9, 0, none⟩) 1 cap9)) = WE at OE OW9 OK9 HK1 HK2 ⊢
          all_goals go_wp2_with (first
            | (refine wpList_load_row rfl 45 _ rfl X rfl 45 _ (0, 0) _ OE.x Tryd.underlying45 rfl size46 ?_)
            | (refine wpList_store_row rfl 45 _ _ rfl w.heap.size _ rfl rfl 45 _ OE.m size46 rfl (by simp [Value.oneCell']) ?_))
          all_goals
            have oo := OE.out #[.int .i64 5, .int .i64 t.at', .string ⟨#[]⟩, .int .i64 0, nil3, (.slice gb bs.length cb), (.slice (some ⟨q9, 0, none⟩) 1 cap9), nil3]
            have lo := OE.lo
            have OWF := z_own_kept OW9 (grown_setRow WE w.heap.size #[.int .i64 5, .int .i64 t.at', .string ⟨#[]⟩, .int .i64 0, nil3, (.slice gb bs.length cb), (.slice (some ⟨q9, 0, none⟩) 1 cap9), nil3]) (by omega)
            have OKF := z_own_kept OK9 (grown_setRow WE w.heap.size #[.int .i64 5, .int .i64 t.at', .string ⟨#[]⟩, .int .i64 0, nil3, (.slice gb bs.length cb), (.slice (some ⟨q9, 0, none⟩) 1 cap9), nil3]) (by omega)
            refine bodyPost_ret (results_cell_row Tryd.results42 _ _ w.heap.size 45 #[.int .i64 5, .int .i64 t.at', .string ⟨#[]⟩, .int .i64 0, nil3, (.slice gb bs.length cb), (.slice (some ⟨q9, 0, none⟩) 1 cap9), nil3] (0, 0) _ rfl OE.m.set Tryd.underlying45 rfl size46) rfl ⟨oo.1, _, _, _, oo.2, rfl, ⟨_, rfl, ?_⟩, HQ.out bs x8 _ HF0.out.2 HF0.out.1 HX8.out⟩
            simp only [isE]
            exact ⟨_, _, _, _, xb, [.int .i64 k0, .int .i64 a0, .string s0, .int .i64 m0, .slice g4 n4 c4, .slice g5 n5 c5, .slice g6 n6 c6, .slice g7 n7 c7], [], rfl, isRow_nil _ _ _, own_new OWF (by omega) (by omega), isBs_keeps (keeps_hand (by omega) (by omega)) bs xb HK1, own_new OKF (by omega) (by simp), by simp only [isEs]; exact ⟨[.int .i64 k0, .int .i64 a0, .string s0, .int .i64 m0, .slice g4 n4 c4, .slice g5 n5 c5, .slice g6 n6 c6, .slice g7 n7 c7], [], by simp, isE_keeps (keeps_hand (by omega) (by omega)) x8 _ HK2, rfl⟩, isRow_nil _ _ _, by simp only [isAs]⟩
        | false =>
          rw [show isR [125] (some l) = false from hst, show str [125] = ⟨#[125]⟩ from rfl] at ST
          have HO0 : Hid (Ob _ _ _ _ _ _ _ _ _ _ _) := ⟨O⟩
          have HST : Hid (isS [125] l = false) := ⟨hst⟩
          clear O hst
          go_wp2_with (first
            | (go_at_call_of 22 (Value.string { data := #[125] }); refine ST.mono ?_; rintro e W ⟨rfl, B5⟩))
          have O := HO0.out.below B5
          have F5 : Fr b wr W := Fr.of_below B5
          have OW := own_fr OW F5 (by omega)
          have HIB : Hid (isBs W (inn X W vb) bs xb) := ⟨isBs_keeps (keeps_inn F5 hbX) bs xb HIB.out⟩
          clear HO0 ST B5 F5
          have BI := rbind_any HEX.out.1 (k := k + 1) HEX.out.2 O.rd.drew
          have x5 : W.cell? ⟨X, 5, none⟩ = some vb := O.x.cell 5
          have HO : Hid (Ob _ _ _ _ _ _ _ _ _ _ _) := ⟨O⟩
          have hvb : ∀ i, (vb : Value).ownBlock = some i → i < W.drew.heap.size := fun i hi => (OW.lt i hi).2
          have hXs : X < W.heap.size := O.lts.2.2
          obtain ⟨i0, hi, hz0, hz1, hz2⟩ := info_parts info51
          have hlb : bs.length ≤ 16385 := by omega
          have HL : Hid (bs.length + leftO (some l) ≤ 16385) := ⟨hl⟩
          clear O hl
          go_region_law (first
        | (refine step_append_lies _ (by rfl) _ _ _ (by rfl) (X + 1) 49 i0 _ 11 184 Tryd.underlying23 hi hz0 hz1 hz2 rfl (by decide) vb bs.length xb (by rfl) (own_alloc OW4 _) ⟨_, 0, none⟩ 1 1 [.string s0, .int .i64 a0, .slice g3 n3 c3, .int .i64 k0, .int .i64 a1, .string s1, .int .i64 m1, .slice g4 n4 c4, .slice g5 n5 c5, .slice g6 n6 c6, .slice g7 n7 c7] (by rfl) rfl (World.news_of_block (heap_alloc_new _ _)) (by simp [Value.oneCell']) (by decide) (by unfold maxLen; omega) (by omega) (by simp; omega) _ rfl ?_; intro q5 cap5 w5 ho hg hat hlt; have O5 := (O4.alloc _).row (own_alloc OW4 _) hg; have y5 : w5.cell? ⟨X, 5, none⟩ = some vb := O5.x.cell 5; have z5 : w5.frozen? ⟨X, 5, none⟩ = false := O5.x.z 5; have KO := keeps_old (j := 5) (u := .slice (some ⟨q5, 0, none⟩) (bs.length + 1) cap5) (m := bs.length + 1) (cap := cap5) ((Fr.refl b W).drew.trans HF4.out) hbX hg hat; have KN := keeps_new (j := 5) (u := .slice (some ⟨q5, 0, none⟩) (bs.length + 1) cap5) (m := bs.length + 1) (cap := cap5) (X := X) hvb hXs HF4.out.size hg hat; clear hg hat hlt)
        | (go_simp; go_at_call 26; refine BI.mono ?_; rintro e w4 ⟨F4, R4, x4, v4, rfl, ⟨c, rfl, I4⟩, hx4⟩; obtain ⟨k0, a1, m1, a0, s1, s0, g3, g4, g5, g6, g7, n3, n4, n5, n6, n7, c3, c4, c5, c6, c7, rfl⟩ := isB_eleven I4; have HI4 : Hid (isB _ _ _ _) := ⟨I4⟩; have HX4 : Hid (Rt _ _ _) := ⟨hx4⟩; have O4 := (HO.out.drew).call F4 R4; have OW4 := own_call (OW.drew) F4 hbX; have HF4 : Hid (Fr b W.drew w4) := ⟨F4⟩; have y4 : w4.cell? ⟨X, 5, none⟩ = some vb := O4.x.cell 5; have lt4 := O4.lts.2.2; clear F4 R4 I4 hx4))
          all_goals go_wp2
          all_goals
            have hlt := left_lt (bind_eats d) l
            refine ⟨⟨bs ++ [x4], _, .slice (some ⟨q5, 0, none⟩) (bs.length + 1) cap5, xb ++ [.string s0, .int .i64 a0, .slice g3 n3 c3, .int .i64 k0, .int .i64 a1, .string s1, .int .i64 m1, .slice g4 n4 c4, .slice g5 n5 c5, .slice g6 n6 c6, .slice g7 n7 c7], O5.store 5 _, ⟨ManyJ.more (bind_eats d) HJ.out HST.out HX4.out⟩, by have := HL.out; rw [List.length_append]; simp only [List.length_cons, List.length_nil]; omega, by rw [List.length_append]; exact own_store ho 5 _, ⟨isBs_snoc bs x4 xb _ (isBs_keeps KO bs xb HIB.out) (isB_keeps KN x4 _ HI4.out)⟩⟩, ?_⟩
            rw [(O5.store 5 _).rd.mz, HM.out]
            exact hlt
end

end Go.Proofs.YtcbdolflgpmaoaaDoor

