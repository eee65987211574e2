/- The document's reader: case. -/
import Derived.Test.YtcbdolflgpmaoaaDoorRlt
import Derived.Test.YtcbdolflgpmaoaaDoorRap
namespace Go.Proofs.YtcbdolflgpmaoaaDoor
open Go.RowKit
set_option linter.unusedVariables false
set_option linter.unusedSimpArgs false

section
variable {w : World} {b : Nat} {n : Int}
theorem keeps_weak {X : Nat} {W : World} {v v' : Value} (hv : v'.ownBlock = none) : Keeps (inn X W v) (inn X W v') W W := ⟨fun _ _ _ _ h => h, fun g h => ⟨h.1, h.2.1, by rw [hv]; simp⟩⟩
theorem isA_thirteen {w : World} {ok : Nat → Prop} {x : A} {c : List Value} (h : isA w ok x c) : ∃ (k9 a9 m9 k0 a1 m1 : Int) (s9 s1 : ByteArray) (g3 g4 g5 g6 g7 : Option Addr) (n3 n4 n5 n6 n7 c3 c4 c5 c6 c7 : Nat), c = [.int .i64 k9, .int .i64 a9, .string s9, .int .i64 m9, .slice g3 n3 c3, .int .i64 k0, .int .i64 a1, .string s1, .int .i64 m1, .slice g4 n4 c4, .slice g5 n5 c5, .slice g6 n6 c6, .slice g7 n7 c7] := by
  obtain ⟨k, a, n, m, vs, x⟩ := x
  simp only [isA] at h
  obtain ⟨va, d, rfl, ⟨_, _, rfl, _⟩, h⟩ := h
  obtain ⟨k, a, m, s, g4, g5, g6, g7, n4, n5, n6, n7, c4, c5, c6, c7, rfl⟩ := isE_eight h
  exact ⟨_, _, _, _, _, _, _, _, _, _, _, _, _, _, _, _, _, _, _, _, _, _, _, rfl⟩
/-- at the loop's head -/
def CaseI (d : Nat) (w wr : World) (b X q cp : Nat) (n : Int) (t : Tok) (o3 : Option (List Tok)) (x : E) (c8 : List Value) : Prop :=
  ∃ al o' va xa, Ob w wr b w.heap.size X n o' zero46 45 #[.int .i64 6, .int .i64 t.at', .string ⟨#[]⟩, .int .i64 0, nil3, nil3, (.slice (some ⟨q, 0, none⟩) 1 cp), va] 45 ∧ Hid (ManyJ (pAlt (pExp d)) o3 al o') ∧ al.length + leftO o' ≤ 16385 ∧ wr.ownsRow (X + 1) 92 13 va al.length xa ∧ Hid (isAs wr (inn X wr va) al xa) ∧ Hid (IsRow wr (inn X wr va) c8 1 (.slice (some ⟨q, 0, none⟩) 1 cp) ∧ isE wr (inn X wr va) x c8)
set_option maxRecDepth 100000 in
set_option maxHeartbeats 8000000 in
theorem exp_case {d : Nat} {k : Int} (h0 : 0 ≤ k) (hE : ExpR d) {t : Tok} {r : List Tok} (hk : k = 60 - d) (R : RdR w b (some (t :: r)) n) (hm : ¬ (t.kind = 4 ∨ t.kind = 1 ∨ t.kind = 2 ∨ t.kind = 3)) (ia : isR [108, 101, 116] (some (t :: r)) = false) (ib : isR [99, 97, 115, 101] (some (t :: r)) = true) :
    Calls Tryd.prog 42 #[ptr b, .int .i64 k] w fun e w' => Fr b w w' ∧ RdR w' b (runO (pExp (d + 1)) (some (t :: r))) n ∧ ∃ x v, e = .returned v ∧ isEV w' (new w w') x v ∧ Rt (pExp (d + 1)) (some (t :: r)) x := by
  have lt := R.lt
  have T := token_any (R.alloc (.cells zero46 45))
  have M0 := Blk.fresh w zero46 45
  have HR : Hid (RdR _ _ _ _) := ⟨R⟩
  simp only [hdO] at T
  obtain ⟨n4, n1, n2, n3⟩ := kinds_no hm
  obtain ⟨o1, e1⟩ : ∃ o1, o1 = runO (pExp d) (some r) := ⟨_, rfl⟩
  obtain ⟨o2, e2⟩ : ∃ o2, o2 = runO (pWant [111, 102]) o1 := ⟨_, rfl⟩
  obtain ⟨o3, e3⟩ : ∃ o3, o3 = runO (pWant [123]) o2 := ⟨_, rfl⟩
  obtain ⟨Q, hQ⟩ : ∃ Q : Option (List Tok) → E → Prop, ∀ q x, Q q x ↔ (runO (pExp (d + 1)) (some (t :: r)) = q ∧ Rt (pExp (d + 1)) (some (t :: r)) x) := ⟨_, fun _ _ => Iff.rfl⟩
  have HQ : Hid (∀ (al : List A) (x : E) (oA : Option (List Tok)), Rt (pExp d) (some r) x → Rt (many (pAlt (pExp d))) o3 al → runO (many (pAlt (pExp d))) o3 = oA → Q oA (.mk 6 t.at' [] 0 [] [] [x] al)) := ⟨fun al x oA h1 h2 h3 => (hQ _ _).2 (by subst e1 e2 e3 h3; exact case_rt hm ia ib h1 h2)⟩
  suffices Calls Tryd.prog 42 #[ptr b, .int .i64 k] w fun e w' => Fr b w w' ∧ ∃ q x v, RdR w' b q n ∧ e = .returned v ∧ isEV w' (new w w') x v ∧ Q q x by
    refine this.mono ?_
    rintro e w' ⟨h1, q, x, v, h2, h3, h4, h5⟩
    obtain ⟨h5, h6⟩ := (hQ _ _).1 h5
    rw [h5]
    exact ⟨h1, h2, x, v, h3, h4, h6⟩
  have hk60 : ¬ (60 : Int) < k := by omega
  have HEX : Hid (ExpR d ∧ k + 1 = 61 - d) := ⟨hE, by omega⟩
  have kw : IntKind.i64.wrap (k + 1) = k + 1 := by rw [IntKind.wrap_i64]; omega
  have HE1 : Hid (o1 = runO (pExp d) (some r) ∧ o2 = runO (pWant [111, 102]) o1 ∧ o3 = runO (pWant [123]) o2) := ⟨e1, e2, e3⟩
  have ISa := fun (W : World) (RW : RdR W b (some (t :: r)) n) => is_any RW [108, 101, 116]
  rw [ia, show str [108, 101, 116] = ⟨#[108, 101, 116]⟩ from rfl] at ISa
  have ISb := fun (W : World) (RW : RdR W b (some (t :: r)) n) => is_any RW [99, 97, 115, 101]
  rw [ib, show str [99, 97, 115, 101] = ⟨#[99, 97, 115, 101]⟩ from rfl] at ISb
  clear R hk hm ia ib hE e1 e2 e3 hQ
  go_enter Tryd.func42, Tryd.ntmps42
  go_wp2_with (first
    | (go_at_call 39; refine T.mono ?_; rintro e w1 ⟨rfl, B1⟩; have M1 : Blk w1 w.heap.size zero46 45 := (B1.block _ M0.lt).trans M0; have lt1 := M1.lt; have O1 : Ob w ((w1.alloc (.cells #[.int .i64 t.kind, .string (str t.text), .int .i64 t.num, .int .i64 t.at'] 70)).alloc (.cells #[.int .i64 0, .int .i64 t.at', .string ⟨#[]⟩, .int .i64 0, nil3, nil3, nil3, nil3] 45)) b w.heap.size (w1.heap.size + 1) n (some (t :: r)) zero46 45 #[.int .i64 0, .int .i64 t.at', .string ⟨#[]⟩, .int .i64 0, nil3, nil3, nil3, nil3] 45 := ⟨(((HR.out.alloc _).below B1).alloc _).alloc _, (((Fr.refl b w).alloc _).trans (Fr.of_below B1)).alloc _ |>.alloc _, (M1.alloc _).alloc _, (by have := Blk.fresh (w1.alloc (.cells #[.int .i64 t.kind, .string (str t.text), .int .i64 t.num, .int .i64 t.at'] 70)) #[.int .i64 0, .int .i64 t.at', .string ⟨#[]⟩, .int .i64 0, nil3, nil3, nil3, nil3] 45; simpa using this), ⟨lt, Nat.le_refl _, by omega⟩⟩; have L1 := (Blk.fresh w1 #[.int .i64 t.kind, .string (str t.text), .int .i64 t.num, .int .i64 t.at'] 70).alloc (.cells #[.int .i64 0, .int .i64 t.at', .string ⟨#[]⟩, .int .i64 0, nil3, nil3, nil3, nil3] 45); have c3 := O1.rd.bad; have c3b : w1.cell? ⟨b, 3, none⟩ = some (.bool _) := ((HR.out.alloc _).below B1).bad; have nb1 : ¬ b = w1.heap.size := Nat.ne_of_lt (Nat.lt_trans lt lt1); have nb2 : ¬ b = w1.heap.size + 1 := Nat.ne_of_lt (Nat.lt_add_right 1 (Nat.lt_trans lt lt1)); simp only [Option.isNone_some] at c3 c3b; clear B1 M1 T M0)
    | (go_at_call_of 22 (Value.string { data := #[108, 101, 116] }); refine (ISa _ O1.rd).mono ?_; rintro e wa ⟨rfl, Ba⟩; have Oa := O1.below Ba; clear Ba)
    | (go_at_call_of 22 (Value.string { data := #[99, 97, 115, 101] }); refine (ISb _ Oa.rd).mono ?_; rintro e wb ⟨rfl, Bb⟩; have Obb := Oa.below Bb; clear Bb)
    | (go_at_call 23; refine (on_any Obb.rd (fun l e z => by cases e; cases z)).mono ?_; rintro e w2 ⟨rfl, F2, R2⟩; simp only [Option.map_some, List.tail_cons] at R2; have O2 := Obb.call F2 R2; have ltX := O2.lts.2.2; have x0 : w2.cell? ⟨w1.heap.size + 1, 0, none⟩ = some (.int .i64 0) := O2.x.cell 0; have xz0 := O2.x.z 0; clear F2 R2 O1 L1 c3 c3b Oa Obb))
  have O2' : Ob w (w2.setCell ⟨w1.heap.size + 1, 0, none⟩ (.int .i64 6)) b w.heap.size (w1.heap.size + 1) n (some r) zero46 45 #[.int .i64 6, .int .i64 t.at', .string ⟨#[]⟩, .int .i64 0, nil3, nil3, nil3, nil3] 45 := O2.store 0 (.int .i64 6)
  generalize (w2.setCell ⟨w1.heap.size + 1, 0, none⟩ (.int .i64 6)) = w3 at O2' ⊢
  generalize hX : w1.heap.size + 1 = X at *
  have hbX : b ≤ X := by omega
  have XP := HEX.out.1 (k + 1) HEX.out.2 _ b (some r) n O2'.rd.drew
  rw [← HE1.out.1] at XP
  have HO2 : Hid (Ob _ _ _ _ _ _ _ _ _ _ _) := ⟨O2'⟩
  have x6 : w3.cell? ⟨X, 6, none⟩ = some nil3 := O2'.x.cell 6
  have hXs : X < w3.heap.size := O2'.lts.2.2
  obtain ⟨i0, hi, hz0, hz1, hz2⟩ := info_parts info47
  clear O2 O2' x0 xz0 hX
  go_cut [] from 128 to 136 (fun wx => ∃ x q cp c8, Ob w wx b w.heap.size X n o1 zero46 45 #[.int .i64 6, .int .i64 t.at', .string ⟨#[]⟩, .int .i64 0, nil3, nil3, (.slice (some ⟨q, 0, none⟩) 1 cp), nil3] 45 ∧ Hid (Rt (pExp d) (some r) x) ∧ wx.ownsRow (X + 1) 45 8 (.slice (some ⟨q, 0, none⟩) 1 cp) 1 c8 ∧ Hid (isE wx (inn X wx (.slice (some ⟨q, 0, none⟩) 1 cp)) x c8))
  case first =>
    go_region_law (first
      | (refine step_append_lies _ (by rfl) _ _ _ (by rfl) (X + 1) 45 i0 _ 8 136 Tryd.underlying42 hi hz0 hz1 hz2 rfl (by decide) nil3 0 [] (by rfl) (World.ownsRow_nil _ _ _ _) ⟨_, 0, none⟩ 1 1 [.int .i64 k0, .int .i64 a0, .string s0, .int .i64 m0, .slice g4 n4 c4, .slice g5 n5 c5, .slice g6 n6 c6, .slice g7 n7 c7] (by rfl) rfl (World.news_of_block (heap_alloc_new _ _)) (by simp [Value.oneCell']) (by decide) (by unfold maxLen; omega) (by omega) (by simp; omega) _ rfl ?_; intro q9 cap9 w9 ho hg hat hlt; have O9 := (O8.alloc _).kept hg (fun i e => by cases e); have y9 : w9.cell? ⟨X, 6, none⟩ = some nil3 := O9.x.cell 6; have z9 : w9.frozen? ⟨X, 6, none⟩ = false := O9.x.z 6; have HK2 := isE_keeps (keeps_new (j := 6) (v := nil3) (u := .slice (some ⟨q9, 0, none⟩) 1 cap9) (m := 1) (cap := cap9) (X := X) (fun i e => by cases e) hXs HF8.out.size hg hat) x8 _ HE8.out; clear hg hat hlt)
      | (go_simp; go_at_call 42; refine XP.mono ?_; rintro e w8 ⟨F8, R8, x8, v8, rfl, ⟨c, rfl, E8⟩, hx8⟩; obtain ⟨k0, a0, m0, s0, g4, g5, g6, g7, n4, n5, n6, n7, c4, c5, c6, c7, rfl⟩ := isE_eight E8; have HE8 : Hid (isE _ _ _ _) := ⟨E8⟩; have HX8 : Hid (Rt _ _ _) := ⟨hx8⟩; have O8 := (HO2.out.drew).call F8 R8; have y8 : w8.cell? ⟨X, 6, none⟩ = some nil3 := O8.x.cell 6; have lt8 := O8.lts.2.2; have HF8 : Hid (Fr b w3.drew w8) := ⟨F8⟩; clear F8 R8 E8 hx8))
    all_goals go_wp2
    all_goals go_meet
    all_goals exact ⟨x8, q9, cap9, _, O9.store 6 _, HX8, own_store ho 6 _, ⟨HK2⟩⟩
  case rest =>
    obtain ⟨x, q, cp, c8, O3, HRX, OK3, HE3⟩ := hcut
    clear XP HO2 x6 hXs hi hz0 hz1 hz2
    go_wp2_with (first
      | (go_at_call_of 25 (Value.string { data := #[111, 102] }); have WA := want_any O3.rd [111, 102]; rw [← HE1.out.2.1] at WA; refine WA.mono ?_; rintro e w4 ⟨rfl, F4, R4⟩; have O4 := O3.call F4 R4; clear WA)
      | (go_at_call_of 25 (Value.string { data := #[123] }); have WA := want_any O4.rd [123]; rw [← HE1.out.2.2] at WA; refine WA.mono ?_; rintro e w5 ⟨rfl, F5, R5⟩; have O5 := O4.call F5 R5; clear WA))
    have F35 : Fr b wc w5 := F4.trans F5
    have OK5 := own_fr OK3 F35 (by omega)
    have KD5 : IsRow w5 (inn X w5 nil3) c8 1 (.slice (some ⟨q, 0, none⟩) 1 cp) := row_of_owns OK5 (fun g hg => ⟨by have := (OK5.lt g hg).1; omega, (OK5.lt g hg).2, by simp [Value.ownBlock]⟩) (by omega)
    have KE5 := isE_keeps (keeps_weak (v' := nil3) rfl) x c8 (isE_keeps (keeps_inn F35 hbX) x c8 HE3.out)
    have HKD : Hid (IsRow w5 (inn X w5 nil3) c8 1 (.slice (some ⟨q, 0, none⟩) 1 cp) ∧ isE w5 (inn X w5 nil3) x c8) := ⟨KD5, KE5⟩
    have OW : w5.ownsRow (X + 1) 92 13 nil3 0 [] := World.ownsRow_nil _ _ _ _
    have BI := ralt_any HEX.out.1 (k := k + 1) HEX.out.2 O5.rd.drew
    have x7 : w5.cell? ⟨X, 7, none⟩ = some nil3 := O5.x.cell 7
    have HO : Hid (Ob _ _ _ _ _ _ _ _ _ _ _) := ⟨O5⟩
    have hvb : ∀ i, (nil3 : Value).ownBlock = some i → i < w5.drew.heap.size := fun i hi => (OW.lt i hi).2
    have hXs : X < w5.heap.size := O5.lts.2.2
    have HL1 : Hid (leftO o3 ≤ 16385) := ⟨O5.rd.left⟩
    obtain ⟨i0, hi, hz0, hz1, hz2⟩ := info_parts info102
    clear O3 O4 O5 OK3 OK5 HE3 F4 F5 R4 R5 F35 KD5 KE5
    go_cut [] from 141 to 149 (fun wx => CaseI d w wx b X q cp n t o3 x c8)
    case first =>
      go_region_law (first
        | (refine step_append_lies _ (by rfl) _ _ _ (by rfl) (X + 1) 92 i0 _ 13 200 Tryd.underlying43 hi hz0 hz1 hz2 rfl (by decide) nil3 0 ([] : List Value) (by rfl) (own_alloc OW4 _) ⟨_, 0, none⟩ 1 1 [.int .i64 k9, .int .i64 a9, .string s9, .int .i64 m9, .slice g3 n3 c3, .int .i64 k0, .int .i64 a1, .string s1, .int .i64 m1, .slice g4 n4 c4, .slice g5 n5 c5, .slice g6 n6 c6, .slice g7 n7 c7] (by rfl) rfl (World.news_of_block (heap_alloc_new _ _)) (by simp [Value.oneCell']) (by decide) (by unfold maxLen; omega) (by omega) (by simp; omega) _ rfl ?_; intro q5 cap5 w5' ho hg hat hlt; have O5' := (O4.alloc _).row (own_alloc OW4 _) hg; have y5 : w5'.cell? ⟨X, 7, none⟩ = some nil3 := O5'.x.cell 7; have z5 : w5'.frozen? ⟨X, 7, none⟩ = false := O5'.x.z 7; have KO := keeps_old (j := 7) (u := .slice (some ⟨q5, 0, none⟩) (0 + 1) cap5) (m := 0 + 1) (cap := cap5) ((Fr.refl b w5).drew.trans HF4.out) hbX hg hat; have KN := keeps_new (j := 7) (u := .slice (some ⟨q5, 0, none⟩) (0 + 1) cap5) (m := 0 + 1) (cap := cap5) (X := X) hvb hXs HF4.out.size hg hat; clear hg hat hlt)
        | (go_simp; go_at_call 64; refine BI.mono ?_; rintro e w4 ⟨F4, R4, x4, v4, rfl, ⟨c, rfl, I4⟩, hx4⟩; obtain ⟨k9, a9, m9, k0, a1, m1, s9, s1, g3, g4, g5, g6, g7, n3, n4, n5, n6, n7, c3, c4, c5, c6, c7, rfl⟩ := isA_thirteen I4; have HI4 : Hid (isA _ _ _ _) := ⟨I4⟩; have HX4 : Hid (Rt _ _ _) := ⟨hx4⟩; have O4 := (HO.out.drew).call F4 R4; have OW4 := own_call (OW.drew) F4 hbX; have HF4 : Hid (Fr b w5.drew w4) := ⟨F4⟩; have y4 : w4.cell? ⟨X, 7, none⟩ = some nil3 := O4.x.cell 7; have lt4 := O4.lts.2.2; clear F4 R4 I4 hx4))
      all_goals go_wp2
      all_goals go_meet
      all_goals exact ⟨[x4], _, .slice (some ⟨q5, 0, none⟩) 1 cap5, [.int .i64 k9, .int .i64 a9, .string s9, .int .i64 m9, .slice g3 n3 c3, .int .i64 k0, .int .i64 a1, .string s1, .int .i64 m1, .slice g4 n4 c4, .slice g5 n5 c5, .slice g6 n6 c6, .slice g7 n7 c7], O5'.store 7 _, ⟨ManyJ.first (alt_eats d) HX4.out⟩, left_le (alt_eats d) o3 _ HL1.out (by omega), own_store ho 7 _, ⟨by have := isA_keeps KN x4 _ HI4.out; exact isAs_snoc [] x4 [] _ (by simp only [isAs]) this⟩, ⟨IsRow.keeps KO HKD.out.1, isE_keeps KO x c8 HKD.out.2⟩⟩
    case rest =>
      obtain ⟨bs0, l0, vb0, xb0, O0, HQ0, hl0, OW0, HIB0, HKD0⟩ := hcut
      clear HO BI OW HKD x7 hvb hXs hi hz0 hz1 hz2
      go_wp2
      go_loopw [] (fun wr => CaseI d w wr b X q cp n t o3 x c8) (fun wr => mz wr b)
      case atStart => exact ⟨bs0, l0, vb0, xb0, O0, HQ0, hl0, OW0, HIB0, HKD0⟩
      case round =>
        clear O0 HQ0 hl0 OW0 HIB0 HKD0
        obtain ⟨al, o', va, xa, O, HJ, hl, OW, HIA, HKD⟩ := hrel
        have HM : Hid (mz wr b = leftO o') := ⟨O.rd.mz⟩
        cases o' with
        | none =>
          simp only [leftO] at hl
          have HF0 : Hid (runO (many (pAlt (pExp d))) o3 = runO (pWant [125]) none ∧ Rt (many (pAlt (pExp d))) o3 al) := ⟨HJ.out.lost⟩
          obtain ⟨gb, cb, rfl⟩ := own_form OW
          have HO : Hid (Ob _ _ _ _ _ _ _ _ _ _ _) := ⟨O⟩
          clear O HJ HM
          obtain ⟨w5, ew5⟩ : ∃ w5, w5 = wr := ⟨_, rfl⟩
          have O5 : Ob w w5 b w.heap.size X n none zero46 45 #[.int .i64 6, .int .i64 t.at', .string ⟨#[]⟩, .int .i64 0, nil3, nil3, (.slice (some ⟨q, 0, none⟩) 1 cp), (.slice gb al.length cb)] 45 := by rw [ew5]; exact HO.out
          have F5 : Fr b wr w5 := by rw [ew5]; exact Fr.refl b wr
          have c3 : w5.cell? ⟨b, 3, none⟩ = some (.bool true) := O5.rd.bad
          rw [← ew5]
          clear ew5
          go_wp2_with (first
            | (go_at_call_of 25 (Value.string { data := #[125] }); refine (want_any O5.rd [125]).mono ?_; rintro e w6 ⟨rfl, F6, R6⟩; have OE := O5.call F6 R6; have F06 : Fr b wr w6 := F5.trans F6; clear O5 F5 F6 R6)
            | (refine wpList_load_row rfl 45 _ rfl X rfl 45 _ (0, 0) _ OE.x Tryd.underlying45 rfl size46 ?_)
            | (refine wpList_store_row rfl 45 _ _ rfl w.heap.size _ rfl rfl 45 _ OE.m size46 rfl (by simp [Value.oneCell']) ?_))
          have oo := OE.out #[.int .i64 6, .int .i64 t.at', .string ⟨#[]⟩, .int .i64 0, nil3, nil3, (.slice (some ⟨q, 0, none⟩) 1 cp), (.slice gb al.length cb)]
          have lo := OE.lo
          have OWF := z_own_kept (own_fr OW F06 (by omega)) (grown_setRow w6 w.heap.size #[.int .i64 6, .int .i64 t.at', .string ⟨#[]⟩, .int .i64 0, nil3, nil3, (.slice (some ⟨q, 0, none⟩) 1 cp), (.slice gb al.length cb)]) (by omega)
          refine bodyPost_ret (results_cell_row Tryd.results42 _ _ w.heap.size 45 #[.int .i64 6, .int .i64 t.at', .string ⟨#[]⟩, .int .i64 0, nil3, nil3, (.slice (some ⟨q, 0, none⟩) 1 cp), (.slice gb al.length cb)] (0, 0) _ rfl OE.m.set Tryd.underlying45 rfl size46) rfl ⟨oo.1, _, _, _, oo.2, rfl, ⟨_, rfl, ?_⟩, HQ.out al x _ HRX.out HF0.out.2 HF0.out.1⟩
          have KI := keeps_inn (v := .slice gb al.length cb) F06 hbX
          have KH := fun cs => keeps_hand (w := w) (W := w6) (M := w.heap.size) (X := X) (v := .slice gb al.length cb) (cs := cs) (by omega) (by omega)
          simp only [isE]
          exact ⟨_, _, _, _, [], c8, xa, rfl, isRow_nil _ _ _, isRow_nil _ _ _, by simp only [isBs], IsRow.keeps (KH _) (IsRow.keeps KI HKD.out.1), by simp only [isEs]; exact ⟨c8, [], by simp, isE_keeps (KH _) x c8 (isE_keeps KI x c8 HKD.out.2), rfl⟩, own_new OWF (by omega) (by omega), isAs_keeps (KH _) al xa (isAs_keeps KI al xa HIA.out)⟩
        | some l =>
         have c3 : wr.cell? ⟨b, 3, none⟩ = some (.bool false) := O.rd.bad
         have ST := is_any O.rd [125]
         cases hst : isS [125] l with
         | true =>
          rw [show isR [125] (some l) = true from hst, show str [125] = ⟨#[125]⟩ from rfl] at ST
          have HF0 : Hid (runO (many (pAlt (pExp d))) o3 = runO (pWant [125]) (some l) ∧ Rt (many (pAlt (pExp d))) o3 al) := ⟨HJ.out.close hst⟩
          obtain ⟨gb, cb, rfl⟩ := own_form OW
          have HO : Hid (Ob _ _ _ _ _ _ _ _ _ _ _) := ⟨O⟩
          clear O HJ HM hst
          go_wp2_with (first
            | (go_at_call_of 22 (Value.string { data := #[125] }); refine ST.mono ?_; rintro e w5 ⟨rfl, B5⟩; have O5 := HO.out.below B5; have F5 : Fr b wr w5 := Fr.of_below B5; clear B5)
            | (go_at_call_of 25 (Value.string { data := #[125] }); refine (want_any O5.rd [125]).mono ?_; rintro e w6 ⟨rfl, F6, R6⟩; have OE := O5.call F6 R6; have F06 : Fr b wr w6 := F5.trans F6; clear O5 F5 F6 R6)
            | (refine wpList_load_row rfl 45 _ rfl X rfl 45 _ (0, 0) _ OE.x Tryd.underlying45 rfl size46 ?_)
            | (refine wpList_store_row rfl 45 _ _ rfl w.heap.size _ rfl rfl 45 _ OE.m size46 rfl (by simp [Value.oneCell']) ?_))
          have oo := OE.out #[.int .i64 6, .int .i64 t.at', .string ⟨#[]⟩, .int .i64 0, nil3, nil3, (.slice (some ⟨q, 0, none⟩) 1 cp), (.slice gb al.length cb)]
          have lo := OE.lo
          have OWF := z_own_kept (own_fr OW F06 (by omega)) (grown_setRow w6 w.heap.size #[.int .i64 6, .int .i64 t.at', .string ⟨#[]⟩, .int .i64 0, nil3, nil3, (.slice (some ⟨q, 0, none⟩) 1 cp), (.slice gb al.length cb)]) (by omega)
          refine bodyPost_ret (results_cell_row Tryd.results42 _ _ w.heap.size 45 #[.int .i64 6, .int .i64 t.at', .string ⟨#[]⟩, .int .i64 0, nil3, nil3, (.slice (some ⟨q, 0, none⟩) 1 cp), (.slice gb al.length cb)] (0, 0) _ rfl OE.m.set Tryd.underlying45 rfl size46) rfl ⟨oo.1, _, _, _, oo.2, rfl, ⟨_, rfl, ?_⟩, HQ.out al x _ HRX.out HF0.out.2 HF0.out.1⟩
          have KI := keeps_inn (v := .slice gb al.length cb) F06 hbX
          have KH := fun cs => keeps_hand (w := w) (W := w6) (M := w.heap.size) (X := X) (v := .slice gb al.length cb) (cs := cs) (by omega) (by omega)
          simp only [isE]
          exact ⟨_, _, _, _, [], c8, xa, rfl, isRow_nil _ _ _, isRow_nil _ _ _, by simp only [isBs], IsRow.keeps (KH _) (IsRow.keeps KI HKD.out.1), by simp only [isEs]; exact ⟨c8, [], by simp, isE_keeps (KH _) x c8 (isE_keeps KI x c8 HKD.out.2), rfl⟩, own_new OWF (by omega) (by omega), isAs_keeps (KH _) al xa (isAs_keeps KI al xa HIA.out)⟩
         | false =>
          rw [show isR [125] (some l) = false from hst, show str [125] = ⟨#[125]⟩ from rfl] at ST
          have HO0 : Hid (Ob _ _ _ _ _ _ _ _ _ _ _) := ⟨O⟩
          have HST : Hid (isS [125] l = false) := ⟨hst⟩
          clear O hst
          go_wp2_with (first
            | (go_at_call_of 22 (Value.string { data := #[125] }); refine ST.mono ?_; rintro e W ⟨rfl, B5⟩))
          have O := HO0.out.below B5
          have F5 : Fr b wr W := Fr.of_below B5
          have OW := own_fr OW F5 (by omega)
          have KI := keeps_inn (v := va) F5 hbX
          have HIA : Hid (isAs W (inn X W va) al xa) := ⟨isAs_keeps KI al xa HIA.out⟩
          have HKD : Hid (IsRow W (inn X W va) c8 1 (.slice (some ⟨q, 0, none⟩) 1 cp) ∧ isE W (inn X W va) x c8) := ⟨IsRow.keeps KI HKD.out.1, isE_keeps KI x c8 HKD.out.2⟩
          clear HO0 ST B5 F5 KI
          have BI := ralt_any HEX.out.1 (k := k + 1) HEX.out.2 O.rd.drew
          have x7 : W.cell? ⟨X, 7, none⟩ = some va := O.x.cell 7
          have HO : Hid (Ob _ _ _ _ _ _ _ _ _ _ _) := ⟨O⟩
          have hvb : ∀ i, (va : Value).ownBlock = some i → i < W.drew.heap.size := fun i hi => (OW.lt i hi).2
          have hXs : X < W.heap.size := O.lts.2.2
          obtain ⟨i0, hi, hz0, hz1, hz2⟩ := info_parts info102
          have hlb : al.length ≤ 16385 := by omega
          have HL : Hid (al.length + leftO (some l) ≤ 16385) := ⟨hl⟩
          clear O hl
          go_region_law (first
        | (refine step_append_lies _ (by rfl) _ _ _ (by rfl) (X + 1) 92 i0 _ 13 200 Tryd.underlying43 hi hz0 hz1 hz2 rfl (by decide) va al.length xa (by rfl) (own_alloc OW4 _) ⟨_, 0, none⟩ 1 1 [.int .i64 k9, .int .i64 a9, .string s9, .int .i64 m9, .slice g3 n3 c3, .int .i64 k0, .int .i64 a1, .string s1, .int .i64 m1, .slice g4 n4 c4, .slice g5 n5 c5, .slice g6 n6 c6, .slice g7 n7 c7] (by rfl) rfl (World.news_of_block (heap_alloc_new _ _)) (by simp [Value.oneCell']) (by decide) (by unfold maxLen; omega) (by omega) (by simp; omega) _ rfl ?_; intro q5 cap5 w5' ho hg hat hlt; have O5' := (O4.alloc _).row (own_alloc OW4 _) hg; have y5 : w5'.cell? ⟨X, 7, none⟩ = some va := O5'.x.cell 7; have z5 : w5'.frozen? ⟨X, 7, none⟩ = false := O5'.x.z 7; have KO := keeps_old (j := 7) (u := .slice (some ⟨q5, 0, none⟩) (al.length + 1) cap5) (m := al.length + 1) (cap := cap5) ((Fr.refl b W).drew.trans HF4.out) hbX hg hat; have KN := keeps_new (j := 7) (u := .slice (some ⟨q5, 0, none⟩) (al.length + 1) cap5) (m := al.length + 1) (cap := cap5) (X := X) hvb hXs HF4.out.size hg hat; clear hg hat hlt)
        | (go_simp; go_at_call 64; refine BI.mono ?_; rintro e w4 ⟨F4, R4, x4, v4, rfl, ⟨c, rfl, I4⟩, hx4⟩; obtain ⟨k9, a9, m9, k0, a1, m1, s9, s1, g3, g4, g5, g6, g7, n3, n4, n5, n6, n7, c3, c4, c5, c6, c7, rfl⟩ := isA_thirteen I4; have HI4 : Hid (isA _ _ _ _) := ⟨I4⟩; have HX4 : Hid (Rt _ _ _) := ⟨hx4⟩; have O4 := (HO.out.drew).call F4 R4; have OW4 := own_call (OW.drew) F4 hbX; have HF4 : Hid (Fr b W.drew w4) := ⟨F4⟩; have y4 : w4.cell? ⟨X, 7, none⟩ = some va := O4.x.cell 7; have lt4 := O4.lts.2.2; clear F4 R4 I4 hx4))
          all_goals go_wp2
          all_goals
            have hlt := left_lt (alt_eats d) l
            refine ⟨⟨al ++ [x4], _, .slice (some ⟨q5, 0, none⟩) (al.length + 1) cap5, xa ++ [.int .i64 k9, .int .i64 a9, .string s9, .int .i64 m9, .slice g3 n3 c3, .int .i64 k0, .int .i64 a1, .string s1, .int .i64 m1, .slice g4 n4 c4, .slice g5 n5 c5, .slice g6 n6 c6, .slice g7 n7 c7], O5'.store 7 _, ⟨ManyJ.more (alt_eats d) HJ.out HST.out HX4.out⟩, by have := HL.out; rw [List.length_append]; simp only [List.length_cons, List.length_nil]; omega, by rw [List.length_append]; exact own_store ho 7 _, ⟨isAs_snoc al x4 xa _ (isAs_keeps KO al xa HIA.out) (isA_keeps KN x4 _ HI4.out)⟩, ⟨IsRow.keeps KO HKD.out.1, isE_keeps KO x c8 HKD.out.2⟩⟩, ?_⟩
            rw [(O5'.store 7 _).rd.mz, HM.out]
            exact hlt
end

end Go.Proofs.YtcbdolflgpmaoaaDoor


/- The document's Parse: the plain side; expressions at every depth. -/
namespace Go.Proofs.YtcbdolflgpmaoaaDoor
open Go.RowKit
set_option linter.unusedVariables false
set_option linter.unusedSimpArgs false

def datasK (ds : List D) (l : List Tok) : PR (List D) := andT (pDatas (l.length + 1) l) fun ds' r => .ok (ds ++ ds', r)
theorem datasK_end (ds : List D) (l : List Tok) (h : isS [100, 97, 116, 97] l = false) : datasK ds l = .ok (ds, l) := by
  simp [datasK, pDatas, h, andT]
theorem pData_le {l r : List Tok} {d : D} (h : pData l = .ok (d, r)) : r.length < l.length := by
  unfold pData at h
  obtain ⟨c, r1, h1, h⟩ := andT_ok h
  obtain ⟨u, r2, h2, h⟩ := andT_ok h
  obtain ⟨_, r3, h3, h⟩ := andT_ok h
  obtain ⟨e1, _⟩ := pKind_eats h1
  obtain ⟨e2, _⟩ := pKind_eats h2
  obtain ⟨_, v, e3⟩ := pWant_eats h3
  cases h
  subst e1 e2 e3
  simp only [List.length_cons]
  omega
theorem datasK_more (ds : List D) (t : Tok) (q : List Tok) (h : isS [100, 97, 116, 97] (t :: q) = true) : datasK ds (t :: q) = andT (pData q) fun d r => datasK (ds ++ [d]) r := by
  unfold datasK
  rw [datas_step _ h]
  rcases e : pData q with x | ⟨d, r⟩
  · rfl
  · have := pData_le e
    simp only [andT]
    rw [datas_more (t :: q).length (r.length + 1) r (by simp only [List.length_cons]; omega) (by omega)]
    rcases pDatas (r.length + 1) r with x | ⟨ds', r'⟩
    · rfl
    · simp
def bindsK (bs : List B) (l : List Tok) : PR (List B) := andT (pBinds (l.length + 1) l) fun bs' r => .ok (bs ++ bs', r)
theorem bindsK_end (bs : List B) : bindsK bs [] = .ok (bs, []) := by simp [bindsK, pBinds, andT]
theorem bindsK_more (bs : List B) (t : Tok) (q : List Tok) : bindsK bs (t :: q) = andT (pBind (pExp 60) (t :: q)) fun x r => bindsK (bs ++ [x]) r := by
  unfold bindsK
  simp only [pBinds]
  rcases e : pBind (pExp 60) (t :: q) with x | ⟨d, r⟩
  · rfl
  · have := bind_eats 60 _ _ _ e
    simp only [andT]
    rw [binds_more (t :: q).length (r.length + 1) r (by omega) (by omega)]
    rcases pBinds (r.length + 1) r with x | ⟨ds', r'⟩
    · rfl
    · simp
theorem prog_K (l : List Tok) : pProg l = andT (datasK [] l) fun ds r => andT (bindsK [] r) fun bs r => .ok (⟨ds, bs⟩, r) := by
  unfold pProg datasK bindsK
  rcases pDatas (l.length + 1) l with x | ⟨ds, r⟩
  · rfl
  · simp only [andT, List.nil_append]
    rcases pBinds (r.length + 1) r with x | ⟨bs, r'⟩ <;> rfl
theorem datC_snoc (l : List D) (d : D) : datC (l ++ [d]) = datC l ++ [.string (str d.name), .int .i64 d.arity, .int .i64 d.at'] := by simp [datC]
theorem errs_scanF : ∀ f l a e, scanF f l a = .error e → e.2 ≠ 0
  | 0, _, _, _, h => by cases h
  | f + 1, l, a, e, h => by
    by_cases hk : skipN false l < l.length
    · rcases hr : readT (l.drop (skipN false l)) with e' | t
      · rw [scanF_err _ _ _ hk hr] at h
        cases h
        have := readT_err hr
        simp only
        omega
      · rw [scanF_ok _ _ _ hk hr] at h
        rcases hq : scanF f ((l.drop (skipN false l)).drop t.len) (a + skipN false l + t.len) with e' | us
        · rw [hq] at h
          cases h
          exact errs_scanF f _ _ _ hq
        · rw [hq] at h
          cases h
    · rw [scanF_end _ _ _ hk] at h
      cases h
theorem errs_scan {l : List UInt8} {a : Nat} {c : Int} (h : scanAll l = .error (a, c)) : c ≠ 0 := by
  unfold scanAll at h
  split at h
  · cases h; decide
  · exact errs_scanF _ _ _ _ h
theorem parse_scan_err {l : List UInt8} {e} (h : scanAll l = .error e) : parseT l = .error e := by unfold parseT; rw [h]
theorem parse_isok {l : List UInt8} {ts r : List Tok} {p : Pg} (h : scanAll l = .ok ts) (k : pProg ts = .ok (p, r)) : parseT l = .ok p := by unfold parseT; rw [h]; simp only [k]
theorem parse_err {l : List UInt8} {ts r : List Tok} {c : Int} (h : scanAll l = .ok ts) (k : pProg ts = .error (c, r)) : parseT l = .error (placeT l.length r, c) := by unfold parseT; rw [h]; simp only [k]

theorem scanF_len : ∀ f l a ts, scanF f l a = .ok ts → ts.length ≤ l.length
  | 0, _, _, _, h => by cases h; simp
  | f + 1, l, a, ts, h => by
    by_cases hk : skipN false l < l.length
    · rcases hr : readT (l.drop (skipN false l)) with e | t
      · rw [scanF_err _ _ _ hk hr] at h; cases h
      · rw [scanF_ok _ _ _ hk hr] at h
        rcases hq : scanF f ((l.drop (skipN false l)).drop t.len) (a + skipN false l + t.len) with e | us
        · rw [hq] at h; cases h
        · rw [hq] at h
          cases h
          have ih := scanF_len f _ _ _ hq
          have tl := readT_len hr
          simp only [List.length_drop, List.length_append, List.length_cons, List.length_nil] at *
          omega
    · rw [scanF_end _ _ _ hk] at h
      cases h
      simp
theorem scan_len {l : List UInt8} {ts : List Tok} (h : scanAll l = .ok ts) : ts.length ≤ 16384 := by
  unfold scanAll at h
  split at h
  · cases h
  · have := scanF_len _ _ _ _ h
    omega
theorem exp_allR : ∀ d, d ≤ 60 → ExpR d
  | 0, _ => fun k hk w b o n R => exp_deep (d := 0) (by omega) R
  | d + 1, hd => fun k hk w b o n R => by
    have hE := exp_allR d (by omega)
    have hk' : k = 60 - d := by omega
    have h0 : 0 ≤ k := by omega
    have h60 : k ≤ 60 := by omega
    rcases o with _ | l
    · exact exp_bad h60 R
    · by_cases hm : ∃ t r, some l = some (t :: r) ∧ (t.kind = 4 ∨ t.kind = 1 ∨ t.kind = 2 ∨ t.kind = 3)
      · obtain ⟨t, r, e, h | h | h | h⟩ := hm
        · cases e; exact z_exp_int h60 R h
        · cases e; exact exp_name h60 R h
        · cases e; exact z_exp_con h60 R h
        · cases e; exact z_exp_prim h60 R h
      · have part : ∀ s : List UInt8, isR s (some l) = true → ∃ t r, l = t :: r ∧ ¬ (t.kind = 4 ∨ t.kind = 1 ∨ t.kind = 2 ∨ t.kind = 3) := fun s hs => by
          cases l with
          | nil => cases hs
          | cons t r => exact ⟨t, r, rfl, fun q => hm ⟨t, r, rfl, q⟩⟩
        cases ia : isR [108, 101, 116] (some l) with
        | true =>
          obtain ⟨t, r, rfl, hn⟩ := part _ ia
          exact exp_let h0 hE hk' R hn ia
        | false =>
          cases ib : isR [99, 97, 115, 101] (some l) with
          | true =>
            obtain ⟨t, r, rfl, hn⟩ := part _ ib
            exact exp_case h0 hE hk' R hn ia ib
          | false =>
            cases ic : isR [40] (some l) with
            | true =>
              obtain ⟨t, r, rfl, hn⟩ := part _ ic
              exact exp_par h0 hE hk' R hn ia ib ic
            | false => exact ex_none h60 R (by simp) hm ia ib ic

def DatJ (oS : Option (List Tok)) (ds : List D) (o : Option (List Tok)) : Prop := runO (datasK []) oS = runO (datasK ds) o ∧ ∀ ys, Rt (datasK ds) o ys → Rt (datasK []) oS ys
def BinJ (oS : Option (List Tok)) (bs : List B) (o : Option (List Tok)) : Prop := runO (bindsK []) oS = runO (bindsK bs) o ∧ ∀ ys, Rt (bindsK bs) o ys → Rt (bindsK []) oS ys
theorem data_rt {o : Option (List Tok)} {c m : Tok} (h1 : Rt (pKind 2) o c) (h2 : Rt (pKind 4) (runO (pKind 2) o) m) : runO pData o = runO (pWant [59]) (runO (pKind 4) (runO (pKind 2) o)) ∧ Rt pData o ⟨c.text, m.num, c.at'⟩ := by
  have s1 := (Stp.mk (q := pData) (fun l => rfl)).rt h1
  have s2 := (Stp.mk (p := pKind 4) (f := fun m r => andT (pWant [59] r) fun _ r => Except.ok ((⟨c.text, m.num, c.at'⟩ : D), r)) (q := fun r => _) (fun l => rfl)).rt h2
  have s3 := (Stp.mk (p := pWant [59]) (f := fun _ r => (Except.ok ((⟨c.text, m.num, c.at'⟩ : D), r) : PR D)) (q := fun r => _) (fun l => rfl)).rt (rt_want [59] (runO (pKind 4) (runO (pKind 2) o)))
  have s4 := rt_ret (⟨c.text, m.num, c.at'⟩ : D) (runO (pWant [59]) (runO (pKind 4) (runO (pKind 2) o)))
  exact ⟨s1.1.trans (s2.1.trans (s3.1.trans s4.1)), s1.2 _ (s2.2 _ (s3.2 _ s4.2))⟩
section
variable {oS : Option (List Tok)} {ds : List D} {bs : List B}
theorem DatJ.more {t : Tok} {q : List Tok} {x : D} (h : DatJ oS ds (some (t :: q))) (hs : isS [100, 97, 116, 97] (t :: q) = true) (hx : Rt pData (some q) x) : DatJ oS (ds ++ [x]) (runO pData (some q)) := by
  have e' : ∀ {p q' : List Tok → PR (List D)}, p (t :: q) = q' q → runO p (some (t :: q)) = runO q' (some q) ∧ valO p (some (t :: q)) = valO q' (some q) := fun h => by simp only [runO, valO, h, and_self]
  obtain ⟨e1, e2⟩ := e' (p := datasK ds) (q' := fun l => andT (pData l) fun x r => datasK (ds ++ [x]) r) (datasK_more ds t q hs)
  have s := (Stp.mk (p := pData) (f := fun x r => datasK (ds ++ [x]) r) (q := fun l => andT (pData l) fun x r => datasK (ds ++ [x]) r) (fun l => rfl)).rt hx
  exact ⟨h.1.trans (e1.trans s.1), fun ys hy => h.2 ys (fun y q => s.2 ys hy y (by rw [← e2]; exact q))⟩
theorem DatJ.close {o : Option (List Tok)} (h : DatJ oS ds o) (hs : isR [100, 97, 116, 97] o = false) : runO (datasK []) oS = o ∧ Rt (datasK []) oS ds := by
  cases o with
  | none => exact ⟨h.1, h.2 ds (fun y q => by cases q)⟩
  | some l =>
    obtain ⟨a1, a2⟩ := runO_some (p := datasK ds) (datasK_end ds l hs)
    exact ⟨by rw [h.1, a1], h.2 ds (fun y q => by rw [a2] at q; cases q; rfl)⟩
theorem BinJ.more {t : Tok} {q : List Tok} {x : B} (h : BinJ oS bs (some (t :: q))) (hx : Rt (pBind (pExp 60)) (some (t :: q)) x) : BinJ oS (bs ++ [x]) (runO (pBind (pExp 60)) (some (t :: q))) := by
  obtain ⟨e1, e2⟩ := at_eq (p := bindsK bs) (q := fun l => andT (pBind (pExp 60) l) fun x r => bindsK (bs ++ [x]) r) (bindsK_more bs t q)
  have s := (Stp.mk (p := pBind (pExp 60)) (f := fun x r => bindsK (bs ++ [x]) r) (q := fun l => andT (pBind (pExp 60) l) fun x r => bindsK (bs ++ [x]) r) (fun l => rfl)).rt hx
  exact ⟨h.1.trans (e1.trans s.1), fun ys hy => h.2 ys (fun y q => s.2 ys hy y (by rw [← e2]; exact q))⟩
theorem BinJ.close (h : BinJ oS bs (some [])) : runO (bindsK []) oS = some [] ∧ Rt (bindsK []) oS bs := by
  obtain ⟨a1, a2⟩ := runO_some (p := bindsK bs) (bindsK_end bs)
  exact ⟨by rw [h.1, a1], h.2 bs (fun y q => by rw [a2] at q; cases q; rfl)⟩
end
theorem prog_rt {ts : List Tok} {ds : List D} {bs : List B} {oD oB : Option (List Tok)} (h1 : runO (datasK []) (some ts) = oD) (h2 : Rt (datasK []) (some ts) ds) (h3 : runO (bindsK []) oD = oB) (h4 : Rt (bindsK []) oD bs) : runO pProg (some ts) = oB ∧ Rt pProg (some ts) ⟨ds, bs⟩ := by
  subst h1 h3
  have s1 := (Stp.mk (q := pProg) prog_K).rt h2
  have s2 := (Stp.mk (p := bindsK []) (f := fun bs r => (Except.ok ((⟨ds, bs⟩ : Pg), r) : PR Pg)) (q := fun r => _) (fun l => rfl)).rt h4
  have s3 := rt_ret (⟨ds, bs⟩ : Pg) (runO (bindsK []) (runO (datasK []) (some ts)))
  exact ⟨s1.1.trans (s2.1.trans s3.1), s1.2 _ (s2.2 _ s3.2)⟩
theorem parse_of_run {s : List UInt8} {ts : List Tok} (hs : scanAll s = .ok ts) {l : List Tok} {p : Pg} (h : runO pProg (some ts) = some l) (hp : Rt pProg (some ts) p) : parseT s = .ok p := by
  cases hv : valO pProg (some ts) with
  | none => rw [val_run hv] at h; cases h
  | some q =>
    have e := hp q hv
    subst e
    obtain ⟨l', r, e1, e2, _⟩ := valO_some hv
    cases e1
    exact parse_isok hs e2
theorem parse_of_none {s : List UInt8} {ts : List Tok} (hs : scanAll s = .ok ts) (h : runO pProg (some ts) = none) : ∀ p, parseT s ≠ .ok p := by
  intro p hp
  unfold parseT at hp
  rw [hs] at hp
  simp only [runO] at h
  split at h
  · cases h
  · rename_i e he
    obtain ⟨c, r⟩ := e
    simp only [he] at hp
    cases hp

end Go.Proofs.YtcbdolflgpmaoaaDoor

