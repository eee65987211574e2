/- Package tree's parser: let. -/
import Derived.Test.YtoedeedoecdajaaDoorBinds
import Derived.Test.YtoedeedoecdajaaDoorLists
import Derived.Deep.CutRange
namespace Go.Proofs.YtoedeedoecdajaaDoor
open Go.RowKit
set_option linter.unusedVariables false
set_option linter.unusedSimpArgs false

theorem Ans.cases {α : Type} {b : Nat} {n : Int} {w w' : World} {is : World → (Nat → Prop) → α → Value → Prop} {p : PR α} {e : Ending} (h : Ans b n w is p e w') :
    (∃ x r v, p = .ok (x, r) ∧ e = .returned v ∧ Fr b w w' ∧ is w' (new w w') x v ∧ Rd w' b r n 0) ∨ (∃ c r, p = .error (c, r) ∧ e = pan c ∧ Fr b w w' ∧ Rd w' b r n c) := by
  obtain ⟨hf, h⟩ := h
  rcases p with ⟨c, r⟩ | ⟨x, r⟩
  · exact .inr ⟨c, r, rfl, h.1, hf, h.2⟩
  · obtain ⟨v, e, a, b⟩ := h
    exact .inl ⟨x, r, v, rfl, e, hf, a, b⟩
theorem Ans.of_err {α : Type} {b : Nat} {n c : Int} {w w' : World} {is : World → (Nat → Prop) → α → Value → Prop} {p : PR α} {r : List Tok} (hf : Fr b w w') (hr : Rd w' b r n c) (hp : p = .error (c, r)) : Ans b n w is p (pan c) w' := by
  subst hp
  exact Ans.err hf hr
/-- some are there already: the brace, or more -/
def manyK {α : Type} (one : List Tok → PR α) (xs : List α) (l : List Tok) : PR (List α) :=
  if isS [125] l then .ok (xs, l.tail) else andT (many one l) fun ys r => .ok (xs ++ ys, r)
theorem many_first {α : Type} {one : List Tok → PR α} (ho : Eats one) (l : List Tok) : many one l = andT (one l) fun x r => manyK one [x] r := many_step ho l
theorem manyK_more {α : Type} {one : List Tok → PR α} (ho : Eats one) (xs : List α) (l : List Tok) (h : isS [125] l = false) : manyK one xs l = andT (one l) fun x r => manyK one (xs ++ [x]) r := by
  unfold manyK
  rw [h, many_first ho]
  simp only [Bool.false_eq_true, if_false, andT_assoc]
  congr 1
  funext x r
  unfold manyK
  split
  · rfl
  · simp only [andT_assoc]
    congr 1
    funext ys r
    simp [andT]
def pLet (d : Nat) (t : Tok) (r : List Tok) : PR E :=
  andT (pWant [123] r) fun _ r => andT (many (pBind (pExp d)) r) fun bs r => andT (pWant [105, 110] r) fun _ r => andT (pExp d r) fun x r => .ok (.mk 5 t.at' [] 0 [] bs [x] [], r)
/-- eleven cells, written out -/
theorem isB_eleven {w : World} {ok : Nat → Prop} {x : B} {c : List Value} (h : isB w ok x c) : ∃ (k a m a0 : Int) (s s0 : ByteArray) (g3 g4 g5 g6 g7 : Option Addr) (n3 n4 n5 n6 n7 c3 c4 c5 c6 c7 : Nat),
    c = [.string s0, .int .i64 a0, .slice g3 n3 c3, .int .i64 k, .int .i64 a, .string s, .int .i64 m, .slice g4 n4 c4, .slice g5 n5 c5, .slice g6 n6 c6, .slice g7 n7 c7] := by
  obtain ⟨n, a, al, x⟩ := x
  simp only [isB] at h
  obtain ⟨va, d, rfl, ⟨_, _, rfl, _⟩, h⟩ := h
  obtain ⟨k, a, m, s, g4, g5, g6, g7, n4, n5, n6, n7, c4, c5, c6, c7, rfl⟩ := isE_eight h
  exact ⟨_, _, _, _, _, _, _, _, _, _, _, _, _, _, _, _, _, _, _, _, _, rfl⟩
theorem info51 : (Tryd.prog.info? 51).map (fun i => (i.zero, i.size, i.bytes)) = some (some (.agg #[.string ⟨#[]⟩, .int .i64 0, nil3, .int .i64 0, .int .i64 0, .string ⟨#[]⟩, .int .i64 0, nil3, nil3, nil3, nil3]), 11, 184) := by kernel_rfl

/-! let -/
theorem info46 : (Tryd.prog.info? 46).map (fun i => (i.zero, i.size, i.bytes)) = some (some (.agg #[.int .i64 0, .int .i64 0, .string ⟨#[]⟩, .int .i64 0, nil3, nil3, nil3, nil3]), 8, 136) := by kernel_rfl
/-- at the loop's head -/
def LetI (d : Nat) (w wr : World) (b X : Nat) (n : Int) (t : Tok) (Q : PR (List B)) : Prop :=
  ∃ bs l' vb xb, Ob w wr b w.heap.size X n l' zero46 46 #[.int .i64 5, .int .i64 t.at', .string ⟨#[]⟩, .int .i64 0, nil3, vb, nil3, nil3] 46 ∧ Hid (manyK (pBind (pExp d)) bs l' = Q) ∧ bs.length + l'.length ≤ 16384 ∧ wr.ownsRow (X + 1) 51 11 vb bs.length xb ∧ Hid (isBs wr (inn X wr vb) bs xb)
set_option maxRecDepth 100000 in
set_option maxHeartbeats 8000000 in
theorem let_any {d : Nat} (hE : ExpOK d) {k : Int} (hk : k = 60 - d) (h0 : 0 ≤ k) {w : World} {b : Nat} {t : Tok} {r : List Tok} {n : Int} (R : Rd w b (t :: r) n 0) (hs : isS [108, 101, 116] (t :: r) = true) :
    Calls Tryd.prog 86 #[ptr b, .int .i64 k] w (Ans b n w isEV (pLet d t r)) := by
  have lt := R.lt
  have len := R.len
  have f3 := field3
  have L := fun o => look_any (R.alloc o)
  simp only [hdV] at L
  have e0 : pWant [108, 101, 116] (t :: r) = .ok ((), r) := by simp [pWant, hs]
  have P0 := fun o o' o2 => pass_any (((R.alloc o).alloc o').alloc o2) (s := [108, 101, 116]) (by decide) (by decide)
  simp only [e0] at P0
  rw [show str [108, 101, 116] = ⟨#[108, 101, 116]⟩ from rfl] at P0
  have kw : IntKind.i64.wrap (k + 1) = k + 1 := by rw [IntKind.wrap_i64]; omega
  have HEX : Hid (ExpOK d) := ⟨hE⟩
  have HK : Hid (k = 60 - d) := ⟨hk⟩
  clear hk hE e0 hs
  obtain ⟨P, hP⟩ : ∃ P, pLet d t r = P := ⟨_, rfl⟩
  rw [hP]
  have HP : Hid (pLet d t r = P) := ⟨hP⟩
  clear hP
  go_enter Tryd.func86, Tryd.ntmps86
  go_wp2_with (first
    | (go_at_call 22; refine (L _).mono ?_; rintro e w1 ⟨rfl, o, rfl⟩)
    | (go_at_call_of 68 (Value.string { data := #[108, 101, 116] }); refine (P0 _ _ _).mono ?_; rintro e w2 ⟨F2, v2, rfl, rfl, R2⟩; have PB := pass_any R2 (s := [123]) (by decide) (by decide); rw [show str [123] = ⟨#[123]⟩ from rfl] at PB; clear L P0)
    | (go_at_call_of 68 (Value.string { data := #[123] }); refine PB.mono ?_; intro e w3 h3; rcases h3.cases with ⟨x3, r3, v3, hp3, rfl, F3, rfl, R3⟩ | ⟨c3, r3, hp3, rfl, F3, R3⟩))
  case inr => exact ⟨rfl, Ans.of_err (((((Fr.refl b w).alloc _).alloc _).alloc _).trans F2 |>.trans F3) R3 (by rw [← HP.out]; simp only [pLet, hp3, andT])⟩
  case inl =>
    have O0 : Ob w (((w.alloc (.cells #[.int .i64 0, .int .i64 0, .string ⟨#[]⟩, .int .i64 0, nil3, nil3, nil3, nil3] 46)).alloc o).alloc (.cells #[.int .i64 5, .int .i64 t.at', .string ⟨#[]⟩, .int .i64 0, nil3, nil3, nil3, nil3] 46)) b w.heap.size (w.heap.size + 2) n (t :: r) zero46 46 #[.int .i64 5, .int .i64 t.at', .string ⟨#[]⟩, .int .i64 0, nil3, nil3, nil3, nil3] 46 :=
      ⟨((R.alloc _).alloc _).alloc _, (((Fr.refl b w).alloc _).alloc _).alloc _, ((Blk.fresh w _ _).alloc _).alloc _, (by have := Blk.fresh ((w.alloc (.cells #[.int .i64 0, .int .i64 0, .string ⟨#[]⟩, .int .i64 0, nil3, nil3, nil3, nil3] 46)).alloc o) #[.int .i64 5, .int .i64 t.at', .string ⟨#[]⟩, .int .i64 0, nil3, nil3, nil3, nil3] 46; simpa using this), ⟨lt, Nat.le_refl _, by omega⟩⟩
    have O3 := (O0.call F2 R2).call F3 R3
    clear O0 F2 F3 R2 R3 R PB h3
    generalize hX : w.heap.size + 2 = X at *
    have hbX : b ≤ X := by omega
    have HQ1 : Hid (P = andT (many (pBind (pExp d)) r3) fun bs r => andT (pWant [105, 110] r) fun _ r => andT (pExp d r) fun x r => .ok (.mk 5 t.at' [] 0 [] bs [x] [], r)) := ⟨by rw [← HP.out]; simp only [pLet, hp3, andT]⟩
    have len3 : r3.length ≤ 16384 := O3.rd.len
    obtain ⟨Q, hQ⟩ : ∃ Q, many (pBind (pExp d)) r3 = Q := ⟨_, rfl⟩
    have HQ2 : Hid (Q = andT (pBind (pExp d) r3) fun x r => manyK (pBind (pExp d)) ([] ++ [x]) r) := ⟨by rw [← hQ, many_first (bind_eats d)]; rfl⟩
    rw [hQ] at HQ1
    clear hp3 HP hQ hX
    go_cut [] from 14 to 22 (fun wx => LetI d w wx b X n t Q)
    case first =>
      obtain ⟨wr, ewr⟩ : ∃ wr, wr = w3 := ⟨_, rfl⟩
      rw [← ewr] at O3 ⊢
      clear ewr
      have O := O3
      have OW : wr.ownsRow (X + 1) 51 11 nil3 0 [] := World.ownsRow_nil _ _ _ _
      clear O3
      have BI := bind_any HEX.out (k := k + 1) (by have := HK.out; omega) O.rd.drew
      have x5 : wr.cell? ⟨X, 5, none⟩ = some nil3 := O.x.cell 5
      have HO : Hid (Ob w wr b w.heap.size X n r3 zero46 46 #[.int .i64 5, .int .i64 t.at', .string ⟨#[]⟩, .int .i64 0, nil3, nil3, nil3, nil3] 46) := ⟨O⟩
      have hvb : ∀ i, (nil3 : Value).ownBlock = some i → i < wr.drew.heap.size := fun i hi => (OW.lt i hi).2
      have hXs : X < wr.heap.size := O.lts.2.2
      obtain ⟨i0, hi, hz0, hz1, hz2⟩ := info_parts info51
      clear O
      go_region_law (first
        | (refine step_append_lies _ (by rfl) _ _ _ (by rfl) (X + 1) 51 i0 _ 11 184 Tryd.underlying23 hi hz0 hz1 hz2 rfl (by decide) nil3 0 ([] : List Value) (by rfl) (own_alloc OW4 _) ⟨_, 0, none⟩ 1 1 [.string s0, .int .i64 a0, .slice g3 n3 c3, .int .i64 k0, .int .i64 a1, .string s1, .int .i64 m1, .slice g4 n4 c4, .slice g5 n5 c5, .slice g6 n6 c6, .slice g7 n7 c7] (by rfl) rfl (World.news_of_block (heap_alloc_new _ _)) (by simp [Value.oneCell']) (by decide) (by unfold maxLen; omega) (by omega) (by simp; omega) _ rfl ?_; intro q5 cap5 w5 ho hg hat hlt; have O5 := (O4.alloc _).row (own_alloc OW4 _) hg; have y5 : w5.cell? ⟨X, 5, none⟩ = some nil3 := O5.x.cell 5; have z5 : w5.frozen? ⟨X, 5, none⟩ = false := O5.x.z 5; have KO := keeps_old (j := 5) (u := .slice (some ⟨q5, 0, none⟩) (0 + 1) cap5) (m := 0 + 1) (cap := cap5) ((Fr.refl b wr).drew.trans HF4.out) hbX hg hat; have KN := keeps_new (j := 5) (u := .slice (some ⟨q5, 0, none⟩) (0 + 1) cap5) (m := 0 + 1) (cap := cap5) (X := X) hvb hXs HF4.out.size hg hat; clear hg hat hlt)
        | (go_simp; go_at_call 37; refine BI.mono ?_; intro e w4 h4; rcases h4.cases.symm with ⟨c4, r4, hp4, rfl, F4, R4⟩ | ⟨x4, r4, v4, hp4, rfl, F4, ⟨c, rfl, I4⟩, R4⟩; exact ⟨rfl, Ans.of_err (HO.out.fr.drew.trans F4) R4 (by rw [HQ1.out, HQ2.out, hp4]; rfl)⟩; obtain ⟨k0, a1, m1, a0, s1, s0, g3, g4, g5, g6, g7, n3, n4, n5, n6, n7, c3, c4, c5, c6, c7, rfl⟩ := isB_eleven I4; have HI4 : Hid (isB _ _ _ _) := ⟨I4⟩; have HP4 : Hid (_ = _) := ⟨hp4⟩; have O4 := (HO.out.drew).call F4 R4; have OW4 := own_call (OW.drew) F4 hbX; have HF4 : Hid (Fr b wr.drew w4) := ⟨F4⟩; have y4 : w4.cell? ⟨X, 5, none⟩ = some nil3 := O4.x.cell 5; have lt4 := O4.lts.2.2; clear F4 R4 I4 hp4 h4))
      all_goals go_wp2
      all_goals go_meet
      all_goals exact ⟨[x4], r4, .slice (some ⟨q5, 0, none⟩) 1 cap5, [.string s0, .int .i64 a0, .slice g3 n3 c3, .int .i64 k0, .int .i64 a1, .string s1, .int .i64 m1, .slice g4 n4 c4, .slice g5 n5 c5, .slice g6 n6 c6, .slice g7 n7 c7], O5.store 5 _, ⟨by rw [HQ2.out, HP4.out]; rfl⟩, by have := bind_eats d _ _ _ HP4.out; simp; omega, own_store ho 5 _, ⟨by have := isB_keeps KN x4 _ HI4.out; exact isBs_snoc [] x4 [] _ (by simp only [isBs]) this⟩⟩
    case rest =>
      obtain ⟨bs0, l0, vb0, xb0, O0, HQ0, hl0, OW0, HIB0⟩ := hcut
      clear O3 HQ2 len3 len
      go_wp2
      go_loopw [] (fun wr => LetI d w wr b X n t Q) (fun wr => leftN wr b)
      case atStart => exact ⟨bs0, l0, vb0, xb0, O0, HQ0, hl0, OW0, HIB0⟩
      case round =>
        clear O0 HQ0 hl0 OW0 HIB0
        obtain ⟨bs, l', vb, xb, O, HQK, hl, OW, HIB⟩ := hrel
        have ST := stands_any O.rd (s := [125]) (by decide) (by decide)
        rw [show str [125] = ⟨#[125]⟩ from rfl] at ST
        have HL : Hid (leftN wr b = l'.length) := ⟨O.rd.left⟩
        by_cases hst : isS [125] l' = true
        · rw [hst] at ST
          have HQE : Hid (Q = .ok (bs, l'.tail)) := ⟨by rw [← HQK.out]; simp only [manyK, hst, if_true]⟩
          have PC := fun o => pass_any (O.rd.alloc o) (s := [125]) (by decide) (by decide)
          have e1 : pWant [125] l' = .ok ((), l'.tail) := by simp only [pWant, hst, if_true]
          simp only [e1] at PC
          rw [show str [125] = ⟨#[125]⟩ from rfl] at PC
          have HO : Hid (Ob w wr b w.heap.size X n l' zero46 46 #[.int .i64 5, .int .i64 t.at', .string ⟨#[]⟩, .int .i64 0, nil3, vb, nil3, nil3] 46) := ⟨O⟩
          clear O HQK e1 hst HL
          go_wp2_with (first
            | (go_at_call_of 35 (Value.string { data := #[125] }); refine ST.mono ?_; rintro e w5 ⟨rfl, o5, rfl⟩)
            | (go_at_call_of 68 (Value.string { data := #[125] }); refine (PC _).mono ?_; rintro e w6 ⟨F6, v6, rfl, rfl, R6⟩; have PI := pass_any R6 (s := [105, 110]) (by decide) (by decide); rw [show str [105, 110] = ⟨#[105, 110]⟩ from rfl] at PI; clear PC)
            | (go_at_call_of 68 (Value.string { data := #[105, 110] }); refine PI.mono ?_; intro e w7 h7; rcases h7.cases with ⟨x7, r7, v7, hp7, rfl, F7, rfl, R7⟩ | ⟨c7, r7, hp7, rfl, F7, R7⟩))
          case inr => exact ⟨rfl, Ans.of_err ((HO.out.fr.alloc _).trans (F6.trans F7)) R7 (by rw [HQ1.out, HQE.out]; simp only [hp7, andT])⟩
          case inl =>
            have O7 := ((HO.out.alloc o5).call F6 R6).call F7 R7
            have F07 : Fr b wr w7 := ((Fr.refl b wr).alloc o5).trans (F6.trans F7)
            have OW7 := own_fr OW F07 (by omega)
            have HQ3 : Hid (P = andT (pExp d r7) fun x r => .ok (.mk 5 t.at' [] 0 [] bs [x] [], r)) := ⟨by rw [HQ1.out, HQE.out]; simp only [hp7, andT]⟩
            have XP := HEX.out (k + 1) (by have := HK.out; omega) _ b r7 n O7.rd.drew
            have HF7 : Hid (Fr b wr w7) := ⟨F07⟩
            have HO7 : Hid (Ob w w7 b w.heap.size X n r7 zero46 46 #[.int .i64 5, .int .i64 t.at', .string ⟨#[]⟩, .int .i64 0, nil3, vb, nil3, nil3] 46) := ⟨O7⟩
            have x6 : w7.cell? ⟨X, 6, none⟩ = some nil3 := O7.x.cell 6
            have hXs : X < w7.heap.size := O7.lts.2.2
            obtain ⟨i0, hi, hz0, hz1, hz2⟩ := info_parts info46
            clear HQ1 HQE PI ST hp7 h7 F6 F7 R6 R7 F07 O7 HO
            go_cut [] from 39 to 47 (fun wx => ∃ x r9 q cp c8, Ob w wx b w.heap.size X n r9 zero46 46 #[.int .i64 5, .int .i64 t.at', .string ⟨#[]⟩, .int .i64 0, nil3, vb, (.slice (some ⟨q, 0, none⟩) 1 cp), nil3] 46 ∧ Hid (P = .ok (.mk 5 t.at' [] 0 [] bs [x] [], r9)) ∧ wx.ownsRow (X + 1) 51 11 vb bs.length xb ∧ wx.ownsRow (X + 1) 46 8 (.slice (some ⟨q, 0, none⟩) 1 cp) 1 c8 ∧ Hid (isBs wx (inn X wx vb) bs xb) ∧ Hid (isE wx (inn X wx (.slice (some ⟨q, 0, none⟩) 1 cp)) x c8))
            case first =>
              go_region_law (first
                | (refine step_append_lies _ (by rfl) _ _ _ (by rfl) (X + 1) 46 i0 _ 8 136 Tryd.underlying43 hi hz0 hz1 hz2 rfl (by decide) nil3 0 [] (by rfl) (World.ownsRow_nil _ _ _ _) ⟨_, 0, none⟩ 1 1 [.int .i64 k0, .int .i64 a0, .string s0, .int .i64 m0, .slice g4 n4 c4, .slice g5 n5 c5, .slice g6 n6 c6, .slice g7 n7 c7] (by rfl) rfl (World.news_of_block (heap_alloc_new _ _)) (by simp [Value.oneCell']) (by decide) (by unfold maxLen; omega) (by omega) (by simp; omega) _ rfl ?_; intro q9 cap9 w9 ho hg hat hlt; have O9 := (O8.alloc _).kept hg (fun i e => by cases e); have y9 : w9.cell? ⟨X, 6, none⟩ = some nil3 := O9.x.cell 6; have z9 : w9.frozen? ⟨X, 6, none⟩ = false := O9.x.z 6; have HK1 := keeps_other (j := 6) (v := vb) (u := .slice (some ⟨q9, 0, none⟩) 1 cap9) (HF7.out.drew.trans HF8.out) hbX hg; have HK2 := keeps_new (j := 6) (v := nil3) (u := .slice (some ⟨q9, 0, none⟩) 1 cap9) (m := 1) (cap := cap9) (X := X) (fun i e => by cases e) hXs HF8.out.size hg hat; have OW9 := own_store (own_none (own_alloc (own_fr OW7.drew HF8.out (by omega)) _) hg) 6 (.slice (some ⟨q9, 0, none⟩) 1 cap9); clear hg hat hlt)
                | (go_simp; go_at_call 77; refine XP.mono ?_; intro e w8 h8; rcases h8.cases.symm with ⟨c8, r8, hp8, rfl, F8, R8⟩ | ⟨x8, r8, v8, hp8, rfl, F8, ⟨c, rfl, E8⟩, R8⟩; exact ⟨rfl, Ans.of_err (HO7.out.fr.drew.trans F8) R8 (by rw [HQ3.out, hp8]; rfl)⟩; obtain ⟨k0, a0, m0, s0, g4, g5, g6, g7, n4, n5, n6, n7, c4, c5, c6, c7, rfl⟩ := isE_eight E8; have HE8 : Hid (isE _ _ _ _) := ⟨E8⟩; have HP8 : Hid (_ = _) := ⟨hp8⟩; have O8 := (HO7.out.drew).call F8 R8; have y8 : w8.cell? ⟨X, 6, none⟩ = some nil3 := O8.x.cell 6; have lt8 := O8.lts.2.2; have HF8 : Hid (Fr b w7.drew w8) := ⟨F8⟩; clear F8 R8 E8 hp8 h8))
              all_goals go_wp2
              all_goals go_meet
              all_goals exact ⟨x8, r8, q9, cap9, _, O9.store 6 _, ⟨by rw [HQ3.out, HP8.out]; rfl⟩, OW9, own_store ho 6 _, ⟨isBs_keeps HK1 bs xb HIB.out⟩, ⟨isE_keeps HK2 x8 _ HE8.out⟩⟩
            case rest =>
              obtain ⟨x, r9, q, cp, c8, O9, HP9, OW9, OK9, HB9, HE9⟩ := hcut
              obtain ⟨gb, cb, rfl⟩ := own_form OW9
              have HO9 : Hid (Ob w wc b w.heap.size X n r9 zero46 46 #[.int .i64 5, .int .i64 t.at', .string ⟨#[]⟩, .int .i64 0, nil3, (.slice gb bs.length cb), (.slice (some ⟨q, 0, none⟩) 1 cp), nil3] 46) := ⟨O9⟩
              clear O9 HF7 HO7 XP HQ3
              go_wp2_with (first
                | (refine wpList_load_row rfl 46 _ rfl X rfl 46 _ (0, 0) _ HO9.out.x Tryd.underlying46 rfl size46 ?_)
                | (refine wpList_store_row rfl 46 _ _ rfl w.heap.size _ rfl rfl 46 _ HO9.out.m size46 rfl (by simp [Value.oneCell']) ?_))
              have OO := HO9.out
              have oo := OO.out #[.int .i64 5, .int .i64 t.at', .string ⟨#[]⟩, .int .i64 0, nil3, (.slice gb bs.length cb), (.slice (some ⟨q, 0, none⟩) 1 cp), nil3]
              have lo := OO.lo
              have OWF := own_kept OW9 (grown_setRow wc w.heap.size #[.int .i64 5, .int .i64 t.at', .string ⟨#[]⟩, .int .i64 0, nil3, (.slice gb bs.length cb), (.slice (some ⟨q, 0, none⟩) 1 cp), nil3]) (by omega)
              have OKF := own_kept OK9 (grown_setRow wc w.heap.size #[.int .i64 5, .int .i64 t.at', .string ⟨#[]⟩, .int .i64 0, nil3, (.slice gb bs.length cb), (.slice (some ⟨q, 0, none⟩) 1 cp), nil3]) (by omega)
              rw [HP9.out]
              refine bodyPost_ret (results_cell_row Tryd.results86 _ _ w.heap.size 46 #[.int .i64 5, .int .i64 t.at', .string ⟨#[]⟩, .int .i64 0, nil3, (.slice gb bs.length cb), (.slice (some ⟨q, 0, none⟩) 1 cp), nil3] (0, 0) _ rfl OO.m.set Tryd.underlying46 rfl size46) rfl (Ans.ok oo.1 oo.2 ?_)
              refine ⟨[.int .i64 5, .int .i64 t.at', .string ⟨#[]⟩, .int .i64 0, nil3, .slice gb bs.length cb, .slice (some ⟨q, 0, none⟩) 1 cp, nil3], rfl, ?_⟩
              simp only [isE]
              exact ⟨_, _, _, _, xb, c8, [], rfl, isRow_nil _ _ _, own_new OWF (by omega) (by omega), isBs_keeps (keeps_hand (by omega) (by omega)) bs xb HB9.out, own_new OKF (by omega) (by simp), by simp only [isEs]; exact ⟨c8, [], by simp, isE_keeps (keeps_hand (by omega) (by omega)) x c8 HE9.out, rfl⟩, isRow_nil _ _ _, by simp only [isAs]⟩
        · have hst : isS [125] l' = false := by simpa using hst
          rw [hst] at ST
          have HQ2 : Hid (Q = andT (pBind (pExp d) l') fun x r => manyK (pBind (pExp d)) (bs ++ [x]) r) := ⟨by rw [← HQK.out]; exact manyK_more (bind_eats d) bs l' hst⟩
          clear HQK hst
          have HO0 : Hid (Ob w wr b w.heap.size X n l' zero46 46 #[.int .i64 5, .int .i64 t.at', .string ⟨#[]⟩, .int .i64 0, nil3, vb, nil3, nil3] 46) := ⟨O⟩
          clear O
          go_wp2_with (first
            | (go_at_call_of 35 (Value.string { data := #[125] }); refine ST.mono ?_; rintro e w5 ⟨rfl, o5, rfl⟩))
          have O := HO0.out.alloc o5
          have OW := OW.alloc o5
          have HIB : Hid (isBs (wr.alloc o5) (inn X (wr.alloc o5) vb) bs xb) := ⟨isBs_keeps (keeps_inn ((Fr.refl b wr).alloc o5) hbX) bs xb HIB.out⟩
          clear HO0 ST
          generalize wr.alloc o5 = W at *
          have BI := bind_any HEX.out (k := k + 1) (by have := HK.out; omega) O.rd.drew
          have x5 : W.cell? ⟨X, 5, none⟩ = some vb := O.x.cell 5
          have HO : Hid (Ob w W b w.heap.size X n l' zero46 46 #[.int .i64 5, .int .i64 t.at', .string ⟨#[]⟩, .int .i64 0, nil3, vb, nil3, nil3] 46) := ⟨O⟩
          have hvb : ∀ i, (vb : Value).ownBlock = some i → i < W.drew.heap.size := fun i hi => (OW.lt i hi).2
          have hXs : X < W.heap.size := O.lts.2.2
          obtain ⟨i0, hi, hz0, hz1, hz2⟩ := info_parts info51
          clear O
          go_region_law (first
            | (refine step_append_lies _ (by rfl) _ _ _ (by rfl) (X + 1) 51 i0 _ 11 184 Tryd.underlying23 hi hz0 hz1 hz2 rfl (by decide) vb bs.length xb (by rfl) (own_alloc OW4 _) ⟨_, 0, none⟩ 1 1 [.string s0, .int .i64 a0, .slice g3 n3 c3, .int .i64 k0, .int .i64 a1, .string s1, .int .i64 m1, .slice g4 n4 c4, .slice g5 n5 c5, .slice g6 n6 c6, .slice g7 n7 c7] (by rfl) rfl (World.news_of_block (heap_alloc_new _ _)) (by simp [Value.oneCell']) (by decide) (by unfold maxLen; omega) (by omega) (by simp; omega) _ rfl ?_; intro q5 cap5 w5 ho hg hat hlt; have O5 := (O4.alloc _).row (own_alloc OW4 _) hg; have y5 : w5.cell? ⟨X, 5, none⟩ = some vb := O5.x.cell 5; have z5 : w5.frozen? ⟨X, 5, none⟩ = false := O5.x.z 5; have KO := keeps_old (j := 5) (u := .slice (some ⟨q5, 0, none⟩) (bs.length + 1) cap5) (m := bs.length + 1) (cap := cap5) ((Fr.refl b W).drew.trans HF4.out) hbX hg hat; have KN := keeps_new (j := 5) (u := .slice (some ⟨q5, 0, none⟩) (bs.length + 1) cap5) (m := bs.length + 1) (cap := cap5) (X := X) hvb hXs HF4.out.size hg hat; clear hg hat hlt)
            | (go_simp; go_at_call 37; refine BI.mono ?_; intro e w4 h4; rcases h4.cases.symm with ⟨c4, r4, hp4, rfl, F4, R4⟩ | ⟨x4, r4, v4, hp4, rfl, F4, ⟨c, rfl, I4⟩, R4⟩; exact ⟨rfl, Ans.of_err (HO.out.fr.drew.trans F4) R4 (by rw [HQ1.out, HQ2.out, hp4]; rfl)⟩; obtain ⟨k0, a1, m1, a0, s1, s0, g3, g4, g5, g6, g7, n3, n4, n5, n6, n7, c3, c4, c5, c6, c7, rfl⟩ := isB_eleven I4; have HI4 : Hid (isB _ _ _ _) := ⟨I4⟩; have HP4 : Hid (_ = _) := ⟨hp4⟩; have O4 := (HO.out.drew).call F4 R4; have OW4 := own_call (OW.drew) F4 hbX; have HF4 : Hid (Fr b W.drew w4) := ⟨F4⟩; have y4 : w4.cell? ⟨X, 5, none⟩ = some vb := O4.x.cell 5; have lt4 := O4.lts.2.2; clear F4 R4 I4 hp4 h4))
          all_goals go_wp2
          all_goals
            refine ⟨⟨bs ++ [x4], r4, .slice (some ⟨q5, 0, none⟩) (bs.length + 1) cap5, xb ++ [.string s0, .int .i64 a0, .slice g3 n3 c3, .int .i64 k0, .int .i64 a1, .string s1, .int .i64 m1, .slice g4 n4 c4, .slice g5 n5 c5, .slice g6 n6 c6, .slice g7 n7 c7], O5.store 5 _, ⟨by rw [HQ2.out, HP4.out]; rfl⟩, by have := bind_eats d _ _ _ HP4.out; simp; omega, by rw [List.length_append]; exact own_store ho 5 _, ⟨isBs_snoc bs x4 xb _ (isBs_keeps KO bs xb HIB.out) (isB_keeps KN x4 _ HI4.out)⟩⟩, ?_⟩
            rw [(O5.store 5 _).rd.left, HL.out]
            exact bind_eats d _ _ _ HP4.out

end Go.Proofs.YtoedeedoecdajaaDoor
