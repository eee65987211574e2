/- Package tree's parser: case. -/
import Derived.Test.YtoedeedoecdajaaDoorLets
import Derived.Test.YtoedeedoecdajaaDoorAlts
namespace Go.Proofs.YtoedeedoecdajaaDoor
open Go.RowKit
set_option linter.unusedVariables false
set_option linter.unusedSimpArgs false

def pCase (d : Nat) (t : Tok) (r : List Tok) : PR E :=
  andT (pExp d r) fun x r => andT (pWant [111, 102] r) fun _ r => andT (pWant [123] r) fun _ r => andT (many (pAlt (pExp d)) r) fun al r => .ok (.mk 6 t.at' [] 0 [] [] [x] al, r)
/-- thirteen cells, written out -/
theorem isA_thirteen {w : World} {ok : Nat → Prop} {x : A} {c : List Value} (h : isA w ok x c) : ∃ (k9 a9 m9 k0 a1 m1 : Int) (s9 s1 : ByteArray) (g3 g4 g5 g6 g7 : Option Addr) (n3 n4 n5 n6 n7 c3 c4 c5 c6 c7 : Nat), c = [.int .i64 k9, .int .i64 a9, .string s9, .int .i64 m9, .slice g3 n3 c3, .int .i64 k0, .int .i64 a1, .string s1, .int .i64 m1, .slice g4 n4 c4, .slice g5 n5 c5, .slice g6 n6 c6, .slice g7 n7 c7] := by
  obtain ⟨k, a, n, m, vs, x⟩ := x
  simp only [isA] at h
  obtain ⟨va, d, rfl, ⟨_, _, rfl, _⟩, h⟩ := h
  obtain ⟨k, a, m, s, g4, g5, g6, g7, n4, n5, n6, n7, c4, c5, c6, c7, rfl⟩ := isE_eight h
  exact ⟨_, _, _, _, _, _, _, _, _, _, _, _, _, _, _, _, _, _, _, _, _, _, _, rfl⟩
theorem info90 : (Tryd.prog.info? 90).map (fun i => (i.zero, i.size, i.bytes)) = some (some (.agg #[.int .i64 0, .int .i64 0, .string ⟨#[]⟩, .int .i64 0, nil3, .int .i64 0, .int .i64 0, .string ⟨#[]⟩, .int .i64 0, nil3, nil3, nil3, nil3]), 13, 200) := by kernel_rfl
theorem keeps_weak {X : Nat} {W : World} {v v' : Value} (hv : v'.ownBlock = none) : Keeps (inn X W v) (inn X W v') W W := ⟨fun _ _ _ _ h => h, fun g h => ⟨h.1, h.2.1, by rw [hv]; simp⟩⟩
/-- at the loop's head -/
def CaseI (d : Nat) (w wr : World) (b X q cp : Nat) (n : Int) (t : Tok) (x : E) (c8 : List Value) (Q : PR (List A)) : Prop :=
  ∃ al l' va xa, Ob w wr b w.heap.size X n l' zero46 46 #[.int .i64 6, .int .i64 t.at', .string ⟨#[]⟩, .int .i64 0, nil3, nil3, (.slice (some ⟨q, 0, none⟩) 1 cp), va] 46 ∧ Hid (manyK (pAlt (pExp d)) al l' = Q) ∧ al.length + l'.length ≤ 16384 ∧ wr.ownsRow (X + 1) 90 13 va al.length xa ∧ Hid (isAs wr (inn X wr va) al xa) ∧ wr.ownsRow (X + 1) 46 8 (.slice (some ⟨q, 0, none⟩) 1 cp) 1 c8 ∧ Hid (inn X wr va q) ∧ Hid (isE wr (inn X wr va) x c8)
set_option maxRecDepth 100000 in
set_option maxHeartbeats 8000000 in
theorem case_any {d : Nat} (hE : ExpOK d) {k : Int} (hk : k = 60 - d) (h0 : 0 ≤ k) {w : World} {b : Nat} {t : Tok} {r : List Tok} {n : Int} (R : Rd w b (t :: r) n 0) (hs : isS [99, 97, 115, 101] (t :: r) = true) :
    Calls Tryd.prog 87 #[ptr b, .int .i64 k] w (Ans b n w isEV (pCase d t r)) := by
  have lt := R.lt
  have f3 := field3
  have L := fun o => look_any (R.alloc o)
  simp only [hdV] at L
  have e0 : pWant [99, 97, 115, 101] (t :: r) = .ok ((), r) := by simp [pWant, hs]
  have P0 := fun o o' o2 => pass_any (((R.alloc o).alloc o').alloc o2) (s := [99, 97, 115, 101]) (by decide) (by decide)
  simp only [e0] at P0
  rw [show str [99, 97, 115, 101] = ⟨#[99, 97, 115, 101]⟩ from rfl] at P0
  have kw : IntKind.i64.wrap (k + 1) = k + 1 := by rw [IntKind.wrap_i64]; omega
  have HEX : Hid (ExpOK d) := ⟨hE⟩
  have HK : Hid (k = 60 - d) := ⟨hk⟩
  clear hk hE e0 hs
  obtain ⟨P, hP⟩ : ∃ P, pCase d t r = P := ⟨_, rfl⟩
  rw [hP]
  have HP : Hid (P = andT (pExp d r) fun x r => andT (pWant [111, 102] r) fun _ r => andT (pWant [123] r) fun _ r => andT (many (pAlt (pExp d)) r) fun al r => .ok (.mk 6 t.at' [] 0 [] [] [x] al, r)) := ⟨by rw [← hP]; rfl⟩
  clear hP
  go_enter Tryd.func87, Tryd.ntmps87
  go_wp2_with (first
    | (go_at_call 22; refine (L _).mono ?_; rintro e w1 ⟨rfl, o, rfl⟩)
    | (go_at_call_of 68 (Value.string { data := #[99, 97, 115, 101] }); refine (P0 _ _ _).mono ?_; rintro e w2 ⟨F2, v2, rfl, rfl, R2⟩; clear L P0))
  have O0 : Ob w (((w.alloc (.cells #[.int .i64 0, .int .i64 0, .string ⟨#[]⟩, .int .i64 0, nil3, nil3, nil3, nil3] 46)).alloc o).alloc (.cells #[.int .i64 6, .int .i64 t.at', .string ⟨#[]⟩, .int .i64 0, nil3, nil3, nil3, nil3] 46)) b w.heap.size (w.heap.size + 2) n (t :: r) zero46 46 #[.int .i64 6, .int .i64 t.at', .string ⟨#[]⟩, .int .i64 0, nil3, nil3, nil3, nil3] 46 :=
    ⟨((R.alloc _).alloc _).alloc _, (((Fr.refl b w).alloc _).alloc _).alloc _, ((Blk.fresh w _ _).alloc _).alloc _, (by have := Blk.fresh ((w.alloc (.cells #[.int .i64 0, .int .i64 0, .string ⟨#[]⟩, .int .i64 0, nil3, nil3, nil3, nil3] 46)).alloc o) #[.int .i64 6, .int .i64 t.at', .string ⟨#[]⟩, .int .i64 0, nil3, nil3, nil3, nil3] 46; simpa using this), ⟨lt, Nat.le_refl _, by omega⟩⟩
  have O2 := O0.call F2 R2
  clear O0 F2 R2 R
  generalize hX : w.heap.size + 2 = X at *
  have hbX : b ≤ X := by omega
  clear hX
  have XP := HEX.out (k + 1) (by have := HK.out; omega) _ b r n O2.rd.drew
  have HO2 : Hid (Ob w w2 b w.heap.size X n r zero46 46 #[.int .i64 6, .int .i64 t.at', .string ⟨#[]⟩, .int .i64 0, nil3, nil3, nil3, nil3] 46) := ⟨O2⟩
  have x6 : w2.cell? ⟨X, 6, none⟩ = some nil3 := O2.x.cell 6
  have hXs : X < w2.heap.size := O2.lts.2.2
  obtain ⟨i0, hi, hz0, hz1, hz2⟩ := info_parts info46
  clear O2
  go_cut [] from 12 to 20 (fun wx => ∃ x r3 q cp c8, Ob w wx b w.heap.size X n r3 zero46 46 #[.int .i64 6, .int .i64 t.at', .string ⟨#[]⟩, .int .i64 0, nil3, nil3, (.slice (some ⟨q, 0, none⟩) 1 cp), nil3] 46 ∧ Hid (P = andT (pWant [111, 102] r3) fun _ r => andT (pWant [123] r) fun _ r => andT (many (pAlt (pExp d)) r) fun al r => .ok (.mk 6 t.at' [] 0 [] [] [x] al, r)) ∧ wx.ownsRow (X + 1) 46 8 (.slice (some ⟨q, 0, none⟩) 1 cp) 1 c8 ∧ Hid (isE wx (inn X wx (.slice (some ⟨q, 0, none⟩) 1 cp)) x c8))
  case first =>
    go_region_law (first
      | (refine step_append_lies _ (by rfl) _ _ _ (by rfl) (X + 1) 46 i0 _ 8 136 Tryd.underlying43 hi hz0 hz1 hz2 rfl (by decide) nil3 0 [] (by rfl) (World.ownsRow_nil _ _ _ _) ⟨_, 0, none⟩ 1 1 [.int .i64 k0, .int .i64 a0, .string s0, .int .i64 m0, .slice g4 n4 c4, .slice g5 n5 c5, .slice g6 n6 c6, .slice g7 n7 c7] (by rfl) rfl (World.news_of_block (heap_alloc_new _ _)) (by simp [Value.oneCell']) (by decide) (by unfold maxLen; omega) (by omega) (by simp; omega) _ rfl ?_; intro q9 cap9 w9 ho hg hat hlt; have O9 := (O8.alloc _).kept hg (fun i e => by cases e); have y9 : w9.cell? ⟨X, 6, none⟩ = some nil3 := O9.x.cell 6; have z9 : w9.frozen? ⟨X, 6, none⟩ = false := O9.x.z 6; have HK2 := keeps_new (j := 6) (v := nil3) (u := .slice (some ⟨q9, 0, none⟩) 1 cap9) (m := 1) (cap := cap9) (X := X) (fun i e => by cases e) hXs HF8.out.size hg hat; clear hg hat hlt)
      | (go_simp; go_at_call 77; refine XP.mono ?_; intro e w8 h8; rcases h8.cases.symm with ⟨c8, r8, hp8, rfl, F8, R8⟩ | ⟨x8, r8, v8, hp8, rfl, F8, ⟨c, rfl, E8⟩, R8⟩; exact ⟨rfl, Ans.of_err (HO2.out.fr.drew.trans F8) R8 (by rw [HP.out, hp8]; rfl)⟩; obtain ⟨k0, a0, m0, s0, g4, g5, g6, g7, n4, n5, n6, n7, c4, c5, c6, c7, rfl⟩ := isE_eight E8; have HE8 : Hid (isE _ _ _ _) := ⟨E8⟩; have HP8 : Hid (_ = _) := ⟨hp8⟩; have O8 := (HO2.out.drew).call F8 R8; have y8 : w8.cell? ⟨X, 6, none⟩ = some nil3 := O8.x.cell 6; have lt8 := O8.lts.2.2; have HF8 : Hid (Fr b w2.drew w8) := ⟨F8⟩; clear F8 R8 E8 hp8 h8))
    all_goals go_wp2
    all_goals go_meet
    all_goals exact ⟨x8, r8, q9, cap9, _, O9.store 6 _, ⟨by rw [HP.out, HP8.out]; rfl⟩, own_store ho 6 _, ⟨isE_keeps HK2 x8 _ HE8.out⟩⟩
  case rest =>
    obtain ⟨x, r3, q, cp, c8, O3, HP3, OK3, HE3⟩ := hcut
    clear HP XP HO2 x6 hXs hi hz0 hz1 hz2
    have PO := pass_any O3.rd (s := [111, 102]) (by decide) (by decide)
    rw [show str [111, 102] = ⟨#[111, 102]⟩ from rfl] at PO
    have HO3 : Hid (Ob w wc b w.heap.size X n r3 zero46 46 #[.int .i64 6, .int .i64 t.at', .string ⟨#[]⟩, .int .i64 0, nil3, nil3, (.slice (some ⟨q, 0, none⟩) 1 cp), nil3] 46) := ⟨O3⟩
    clear O3
    go_wp2_with (first
      | (go_at_call_of 68 (Value.string { data := #[111, 102] }); refine PO.mono ?_; intro e w4 h4; rcases h4.cases with ⟨x4, r4, v4, hp4, rfl, F4, rfl, R4⟩ | ⟨c4, r4, hp4, rfl, F4, R4⟩)
      | (go_at_call_of 68 (Value.string { data := #[123] }); refine (pass_any R4 (s := [123]) (by decide) (by decide)).mono ?_; intro e w5 h5; rcases h5.cases with ⟨x5, r5, v5, hp5, rfl, F5, rfl, R5⟩ | ⟨c5, r5, hp5, rfl, F5, R5⟩))
    · have O5 := (HO3.out.call F4 R4).call F5 R5
      have F35 := F4.trans F5
      have OK5 := own_call OK3 F35 hbX
      have HE5 : Hid (isE w5 (inn X w5 nil3) x c8) := ⟨isE_keeps (keeps_weak rfl) x c8 (isE_keeps (keeps_inn F35 hbX) x c8 HE3.out)⟩
      have HQ1 : Hid (P = andT (many (pAlt (pExp d)) r5) fun al r => .ok (.mk 6 t.at' [] 0 [] [] [x] al, r)) := ⟨by rw [HP3.out]; simp only [hp4, hp5, andT]⟩
      clear hp4 hp5 h4 h5 F4 F5 R4 R5 F35 HO3 PO HP3 OK3 HE3
      have len5 : r5.length ≤ 16384 := O5.rd.len
      obtain ⟨Q, hQ⟩ : ∃ Q, many (pAlt (pExp d)) r5 = Q := ⟨_, rfl⟩
      have HQ2 : Hid (Q = andT (pAlt (pExp d) r5) fun x r => manyK (pAlt (pExp d)) ([] ++ [x]) r) := ⟨by rw [← hQ, many_first (alt_eats d)]; rfl⟩
      rw [hQ] at HQ1
      clear hQ
      go_cut [] from 25 to 33 (fun wx => CaseI d w wx b X q cp n t x c8 Q)
      case first =>
        obtain ⟨wr, ewr⟩ : ∃ wr, wr = w5 := ⟨_, rfl⟩
        rw [← ewr] at O5 OK5 HE5 ⊢
        clear ewr
        have O := O5
        have OK := OK5
        have OW : wr.ownsRow (X + 1) 90 13 nil3 0 [] := World.ownsRow_nil _ _ _ _
        have HIQ : Hid (inn X wr nil3 q) := ⟨⟨by have := (OK.lt q rfl).1; omega, (OK.lt q rfl).2, by simp [Value.ownBlock]⟩⟩
        clear O5 OK5
        have BI := alt_any HEX.out (k := k + 1) (by have := HK.out; omega) O.rd.drew
        have x7 : wr.cell? ⟨X, 7, none⟩ = some nil3 := O.x.cell 7
        have HO : Hid (Ob w wr b w.heap.size X n r5 zero46 46 #[.int .i64 6, .int .i64 t.at', .string ⟨#[]⟩, .int .i64 0, nil3, nil3, (.slice (some ⟨q, 0, none⟩) 1 cp), nil3] 46) := ⟨O⟩
        have hvb : ∀ i, (nil3 : Value).ownBlock = some i → i < wr.drew.heap.size := fun i hi => (OW.lt i hi).2
        have hXs : X < wr.heap.size := O.lts.2.2
        obtain ⟨i0, hi, hz0, hz1, hz2⟩ := info_parts info90
        clear O
        go_region_law (first
          | (refine step_append_lies _ (by rfl) _ _ _ (by rfl) (X + 1) 90 i0 _ 13 200 Tryd.underlying44 hi hz0 hz1 hz2 rfl (by decide) nil3 0 ([] : List Value) (by rfl) (own_alloc OW4 _) ⟨_, 0, none⟩ 1 1 [.int .i64 k9, .int .i64 a9, .string s9, .int .i64 m9, .slice g3 n3 c3, .int .i64 k0, .int .i64 a1, .string s1, .int .i64 m1, .slice g4 n4 c4, .slice g5 n5 c5, .slice g6 n6 c6, .slice g7 n7 c7] (by rfl) rfl (World.news_of_block (heap_alloc_new _ _)) (by simp [Value.oneCell']) (by decide) (by unfold maxLen; omega) (by omega) (by simp; omega) _ rfl ?_; intro q5 cap5 w5 ho hg hat hlt; have O5 := (O4.alloc _).row (own_alloc OW4 _) hg; have y5 : w5.cell? ⟨X, 7, none⟩ = some nil3 := O5.x.cell 7; have z5 : w5.frozen? ⟨X, 7, none⟩ = false := O5.x.z 7; have KO := keeps_old (j := 7) (u := .slice (some ⟨q5, 0, none⟩) (0 + 1) cap5) (m := 0 + 1) (cap := cap5) ((Fr.refl b wr).drew.trans HF4.out) hbX hg hat; have KN := keeps_new (j := 7) (u := .slice (some ⟨q5, 0, none⟩) (0 + 1) cap5) (m := 0 + 1) (cap := cap5) (X := X) hvb hXs HF4.out.size hg hat; have OK5 := own_store ((own_alloc OK4 _).kept hg (.inr (fun e => HIQ.out.2.2 e.symm))) 7 (.slice (some ⟨q5, 0, none⟩) (0 + 1) cap5); clear hg hat hlt)
          | (go_simp; go_at_call 94; refine BI.mono ?_; intro e w4 h4; rcases h4.cases.symm with ⟨c4, r4, hp4, rfl, F4, R4⟩ | ⟨x4, r4, v4, hp4, rfl, F4, ⟨c, rfl, I4⟩, R4⟩; exact ⟨rfl, Ans.of_err (HO.out.fr.drew.trans F4) R4 (by rw [HQ1.out, HQ2.out, hp4]; rfl)⟩; obtain ⟨k9, a9, m9, k0, a1, m1, s9, s1, g3, g4, g5, g6, g7, n3, n4, n5, n6, n7, c3, c4, c5, c6, c7, rfl⟩ := isA_thirteen I4; have HI4 : Hid (isA _ _ _ _) := ⟨I4⟩; have HP4 : Hid (_ = _) := ⟨hp4⟩; have O4 := (HO.out.drew).call F4 R4; have OW4 := own_call (OW.drew) F4 hbX; have OK4 := own_call (OK.drew) F4 hbX; have HF4 : Hid (Fr b wr.drew w4) := ⟨F4⟩; have y4 : w4.cell? ⟨X, 7, none⟩ = some nil3 := O4.x.cell 7; have lt4 := O4.lts.2.2; clear F4 R4 I4 hp4 h4))
        all_goals go_wp2
        all_goals go_meet
        all_goals exact ⟨[x4], r4, .slice (some ⟨q5, 0, none⟩) 1 cap5, [.int .i64 k9, .int .i64 a9, .string s9, .int .i64 m9, .slice g3 n3 c3, .int .i64 k0, .int .i64 a1, .string s1, .int .i64 m1, .slice g4 n4 c4, .slice g5 n5 c5, .slice g6 n6 c6, .slice g7 n7 c7], O5.store 7 _, ⟨by rw [HQ2.out, HP4.out]; rfl⟩, by have := alt_eats d _ _ _ HP4.out; simp; omega, own_store ho 7 _, ⟨by have := isA_keeps KN x4 _ HI4.out; exact isAs_snoc [] x4 [] _ (by simp only [isAs]) this⟩, OK5, ⟨KO.ok q HIQ.out⟩, ⟨isE_keeps KO x c8 HE5.out⟩⟩
      case rest =>
        obtain ⟨al0, l0, va0, xa0, O0, HQ0, hl0, OW0, HIA0, OK0, HIQ0, HE0⟩ := hcut
        clear O5 OK5 HE5 HQ2 len5
        go_wp2
        go_loopw [] (fun wr => CaseI d w wr b X q cp n t x c8 Q) (fun wr => leftN wr b)
        case atStart => exact ⟨al0, l0, va0, xa0, O0, HQ0, hl0, OW0, HIA0, OK0, HIQ0, HE0⟩
        case round =>
          clear O0 HQ0 hl0 OW0 HIA0 OK0 HIQ0 HE0
          obtain ⟨al, l', va, xa, O, HQK, hl, OW, HIA, OK, HIQ, HEx⟩ := hrel
          have ST := stands_any O.rd (s := [125]) (by decide) (by decide)
          rw [show str [125] = ⟨#[125]⟩ from rfl] at ST
          have HL : Hid (leftN wr b = l'.length) := ⟨O.rd.left⟩
          by_cases hst : isS [125] l' = true
          · rw [hst] at ST
            have HQE : Hid (Q = .ok (al, l'.tail)) := ⟨by rw [← HQK.out]; simp only [manyK, hst, if_true]⟩
            have PC := fun o => pass_any (O.rd.alloc o) (s := [125]) (by decide) (by decide)
            have e1 : pWant [125] l' = .ok ((), l'.tail) := by simp only [pWant, hst, if_true]
            simp only [e1] at PC
            rw [show str [125] = ⟨#[125]⟩ from rfl] at PC
            obtain ⟨gb, cb, rfl⟩ := own_form OW
            have HO : Hid (Ob w wr b w.heap.size X n l' zero46 46 #[.int .i64 6, .int .i64 t.at', .string ⟨#[]⟩, .int .i64 0, nil3, nil3, (.slice (some ⟨q, 0, none⟩) 1 cp), (.slice gb al.length cb)] 46) := ⟨O⟩
            clear O HQK e1 hst HL
            go_wp2_with (first
              | (go_at_call_of 35 (Value.string { data := #[125] }); refine ST.mono ?_; rintro e w5 ⟨rfl, o5, rfl⟩)
              | (go_at_call_of 68 (Value.string { data := #[125] }); refine (PC _).mono ?_; rintro e w6 ⟨F6, v6, rfl, rfl, R6⟩; have HO6 : Hid (Ob w w6 b w.heap.size X n l'.tail zero46 46 #[.int .i64 6, .int .i64 t.at', .string ⟨#[]⟩, .int .i64 0, nil3, nil3, (.slice (some ⟨q, 0, none⟩) 1 cp), (.slice gb al.length cb)] 46) := ⟨(HO.out.alloc o5).call F6 R6⟩; have HF6 : Hid (Fr b wr w6) := ⟨((Fr.refl b wr).alloc o5).trans F6⟩; clear PC F6 R6)
              | (refine wpList_load_row rfl 46 _ rfl X rfl 46 _ (0, 0) _ HO6.out.x Tryd.underlying46 rfl size46 ?_)
              | (refine wpList_store_row rfl 46 _ _ rfl w.heap.size _ rfl rfl 46 _ HO6.out.m size46 rfl (by simp [Value.oneCell']) ?_))
            have OO := HO6.out
            have oo := OO.out #[.int .i64 6, .int .i64 t.at', .string ⟨#[]⟩, .int .i64 0, nil3, nil3, (.slice (some ⟨q, 0, none⟩) 1 cp), (.slice gb al.length cb)]
            have lo := OO.lo
            have OWF := own_kept (own_call OW HF6.out hbX) (grown_setRow w6 w.heap.size #[.int .i64 6, .int .i64 t.at', .string ⟨#[]⟩, .int .i64 0, nil3, nil3, (.slice (some ⟨q, 0, none⟩) 1 cp), (.slice gb al.length cb)]) (by omega)
            have OKF := own_kept (own_call OK HF6.out hbX) (grown_setRow w6 w.heap.size #[.int .i64 6, .int .i64 t.at', .string ⟨#[]⟩, .int .i64 0, nil3, nil3, (.slice (some ⟨q, 0, none⟩) 1 cp), (.slice gb al.length cb)]) (by omega)
            have HP9 : P = .ok (.mk 6 t.at' [] 0 [] [] [x] al, l'.tail) := by rw [HQ1.out, HQE.out]; rfl
            rw [HP9]
            refine bodyPost_ret (results_cell_row Tryd.results87 _ _ w.heap.size 46 #[.int .i64 6, .int .i64 t.at', .string ⟨#[]⟩, .int .i64 0, nil3, nil3, (.slice (some ⟨q, 0, none⟩) 1 cp), (.slice gb al.length cb)] (0, 0) _ rfl OO.m.set Tryd.underlying46 rfl size46) rfl (Ans.ok oo.1 oo.2 ?_)
            refine ⟨[.int .i64 6, .int .i64 t.at', .string ⟨#[]⟩, .int .i64 0, nil3, nil3, (.slice (some ⟨q, 0, none⟩) 1 cp), .slice gb al.length cb], rfl, ?_⟩
            simp only [isE]
            exact ⟨_, _, _, _, [], c8, xa, rfl, isRow_nil _ _ _, isRow_nil _ _ _, by simp only [isBs], own_new OKF (by omega) (by simp), by simp only [isEs]; exact ⟨c8, [], by simp, isE_keeps (keeps_hand (by omega) (by omega)) x c8 (isE_keeps (keeps_inn HF6.out hbX) x c8 HEx.out), rfl⟩, own_new OWF (by omega) (by omega), isAs_keeps (keeps_hand (by omega) (by omega)) al xa (isAs_keeps (keeps_inn HF6.out hbX) al xa HIA.out)⟩
          · have hst : isS [125] l' = false := by simpa using hst
            rw [hst] at ST
            have HQ2 : Hid (Q = andT (pAlt (pExp d) l') fun x r => manyK (pAlt (pExp d)) (al ++ [x]) r) := ⟨by rw [← HQK.out]; exact manyK_more (alt_eats d) al l' hst⟩
            clear HQK hst
            have HO0 : Hid (Ob w wr b w.heap.size X n l' zero46 46 #[.int .i64 6, .int .i64 t.at', .string ⟨#[]⟩, .int .i64 0, nil3, nil3, (.slice (some ⟨q, 0, none⟩) 1 cp), va] 46) := ⟨O⟩
            clear O
            go_wp2_with (first
              | (go_at_call_of 35 (Value.string { data := #[125] }); refine ST.mono ?_; rintro e w5 ⟨rfl, o5, rfl⟩))
            have O := HO0.out.alloc o5
            have OW := OW.alloc o5
            have OK := OK.alloc o5
            have KI := keeps_inn (v := va) ((Fr.refl b wr).alloc o5) hbX
            have HIA : Hid (isAs (wr.alloc o5) (inn X (wr.alloc o5) va) al xa) := ⟨isAs_keeps KI al xa HIA.out⟩
            have HEx : Hid (isE (wr.alloc o5) (inn X (wr.alloc o5) va) x c8) := ⟨isE_keeps KI x c8 HEx.out⟩
            have HIQ : Hid (inn X (wr.alloc o5) va q) := ⟨KI.ok q HIQ.out⟩
            clear HO0 ST KI
            generalize wr.alloc o5 = W at *
            have BI := alt_any HEX.out (k := k + 1) (by have := HK.out; omega) O.rd.drew
            have x7 : W.cell? ⟨X, 7, none⟩ = some va := O.x.cell 7
            have HO : Hid (Ob w W b w.heap.size X n l' zero46 46 #[.int .i64 6, .int .i64 t.at', .string ⟨#[]⟩, .int .i64 0, nil3, nil3, (.slice (some ⟨q, 0, none⟩) 1 cp), va] 46) := ⟨O⟩
            have hvb : ∀ i, (va : Value).ownBlock = some i → i < W.drew.heap.size := fun i hi => (OW.lt i hi).2
            have hXs : X < W.heap.size := O.lts.2.2
            obtain ⟨i0, hi, hz0, hz1, hz2⟩ := info_parts info90
            clear O
            go_region_law (first
              | (refine step_append_lies _ (by rfl) _ _ _ (by rfl) (X + 1) 90 i0 _ 13 200 Tryd.underlying44 hi hz0 hz1 hz2 rfl (by decide) va al.length xa (by rfl) (own_alloc OW4 _) ⟨_, 0, none⟩ 1 1 [.int .i64 k9, .int .i64 a9, .string s9, .int .i64 m9, .slice g3 n3 c3, .int .i64 k0, .int .i64 a1, .string s1, .int .i64 m1, .slice g4 n4 c4, .slice g5 n5 c5, .slice g6 n6 c6, .slice g7 n7 c7] (by rfl) rfl (World.news_of_block (heap_alloc_new _ _)) (by simp [Value.oneCell']) (by decide) (by unfold maxLen; omega) (by omega) (by simp; omega) _ rfl ?_; intro q5 cap5 w5 ho hg hat hlt; have O5 := (O4.alloc _).row (own_alloc OW4 _) hg; have y5 : w5.cell? ⟨X, 7, none⟩ = some va := O5.x.cell 7; have z5 : w5.frozen? ⟨X, 7, none⟩ = false := O5.x.z 7; have KO := keeps_old (j := 7) (u := .slice (some ⟨q5, 0, none⟩) (al.length + 1) cap5) (m := al.length + 1) (cap := cap5) ((Fr.refl b W).drew.trans HF4.out) hbX hg hat; have KN := keeps_new (j := 7) (u := .slice (some ⟨q5, 0, none⟩) (al.length + 1) cap5) (m := al.length + 1) (cap := cap5) (X := X) hvb hXs HF4.out.size hg hat; have OK5 := own_store ((own_alloc OK4 _).kept hg (.inr (fun e => HIQ.out.2.2 e.symm))) 7 (.slice (some ⟨q5, 0, none⟩) (al.length + 1) cap5); clear hg hat hlt)
              | (go_simp; go_at_call 94; refine BI.mono ?_; intro e w4 h4; rcases h4.cases.symm with ⟨c4, r4, hp4, rfl, F4, R4⟩ | ⟨x4, r4, v4, hp4, rfl, F4, ⟨c, rfl, I4⟩, R4⟩; exact ⟨rfl, Ans.of_err (HO.out.fr.drew.trans F4) R4 (by rw [HQ1.out, HQ2.out, hp4]; rfl)⟩; obtain ⟨k9, a9, m9, k0, a1, m1, s9, s1, g3, g4, g5, g6, g7, n3, n4, n5, n6, n7, c3, c4, c5, c6, c7, rfl⟩ := isA_thirteen I4; have HI4 : Hid (isA _ _ _ _) := ⟨I4⟩; have HP4 : Hid (_ = _) := ⟨hp4⟩; have O4 := (HO.out.drew).call F4 R4; have OW4 := own_call (OW.drew) F4 hbX; have OK4 := own_call (OK.drew) F4 hbX; have HF4 : Hid (Fr b W.drew w4) := ⟨F4⟩; have y4 : w4.cell? ⟨X, 7, none⟩ = some va := O4.x.cell 7; have lt4 := O4.lts.2.2; clear F4 R4 I4 hp4 h4))
            all_goals go_wp2
            all_goals
              refine ⟨⟨al ++ [x4], r4, .slice (some ⟨q5, 0, none⟩) (al.length + 1) cap5, xa ++ [.int .i64 k9, .int .i64 a9, .string s9, .int .i64 m9, .slice g3 n3 c3, .int .i64 k0, .int .i64 a1, .string s1, .int .i64 m1, .slice g4 n4 c4, .slice g5 n5 c5, .slice g6 n6 c6, .slice g7 n7 c7], O5.store 7 _, ⟨by rw [HQ2.out, HP4.out]; rfl⟩, by have := alt_eats d _ _ _ HP4.out; simp; omega, by rw [List.length_append]; exact own_store ho 7 _, ⟨isAs_snoc al x4 xa _ (isAs_keeps KO al xa HIA.out) (isA_keeps KN x4 _ HI4.out)⟩, OK5, ⟨KO.ok q HIQ.out⟩, ⟨isE_keeps KO x c8 HEx.out⟩⟩, ?_⟩
              rw [(O5.store 7 _).rd.left, HL.out]
              exact alt_eats d _ _ _ HP4.out
    · exact ⟨rfl, Ans.of_err (HO3.out.fr.trans (F4.trans F5)) R5 (by rw [HP3.out]; simp only [hp4, hp5, andT])⟩
    · exact ⟨rfl, Ans.of_err (HO3.out.fr.trans F4) R4 (by rw [HP3.out]; simp only [hp4, andT])⟩

end Go.Proofs.YtoedeedoecdajaaDoor
