/- Package show's printer: case, expressions. -/
import Derived.Test.YtofgnpehlheeiaaGreatDoorPLet
namespace Go.Proofs.YtofgnpehlheeiaaGreatDoor
open Go.RowKit
set_option linter.unusedVariables false
set_option linter.unusedSimpArgs false

def kindE : E → Int
  | .mk k _ _ _ _ _ _ _ => k
section
variable {w : World} {b : Nat} {ts : List ATok} {es : List Nat} {e : Int}
set_option maxRecDepth 100000 in
set_option maxHeartbeats 8000000 in
theorem pcase_any {d : Nat} (HE : ExpD d) (P : Pr w b ts es e) (x : E) (c : List Value) (I : isE w (fun g => g < b) x c) (hf : finE x) (deep : Int) (hd : deep + 1 + d = 61) (h1 : 1 ≤ deep) (hn : ts.length + wtE x ≤ 2000000) :
    Calls Tryz.prog 62 #[ptr b, .agg c.toArray, .int .i64 deep] w (Did b w ts es e (wtE x) (match x with | .mk _ _ _ _ _ _ ks al => if ks = [] ∨ al = [] then .error 2 else seqO (.ok [wdT [99, 97, 115, 101]]) (seqO (oK (oE d) ks) (seqO (.ok [wdT [111, 102], sgT [123]]) (seqO (oL (oA (oE d)) al) (.ok [sgT [125]])))))) := by
  obtain ⟨k, a, n, m, az, bs, ks, al⟩ := x
  simp only [isE] at I
  obtain ⟨vt, vb, vk, va, xb, xk, xa, rfl, IT, IB, IBS, IK, IKS, IA, IAS⟩ := I
  obtain ⟨g4, c4, rfl⟩ := row_len IT
  obtain ⟨g5, c5, rfl⟩ := row_len IB
  obtain ⟨g6, c6, rfl⟩ := row_len IK
  obtain ⟨g7, c7, rfl⟩ := row_len IA
  simp only [finE] at hf
  simp only [wtE] at hn ⊢
  have lt := P.lt
  have F0 := (Fp.refl b w).alloc (.cells #[.int .i64 k, .int .i64 a, .string (str n), .int .i64 m, .slice g4 az.length c4, .slice g5 bs.length c5, .slice g6 ks.length c6, .slice g7 al.length c7] 47)
  have X0 := Blk.fresh w #[.int .i64 k, .int .i64 a, .string (str n), .int .i64 m, .slice g4 az.length c4, .slice g5 bs.length c5, .slice g6 ks.length c6, .slice g7 al.length c7] 47
  have P0 := P.alloc (.cells #[.int .i64 k, .int .i64 a, .string (str n), .int .i64 m, .slice g4 az.length c4, .slice g5 bs.length c5, .slice g6 ks.length c6, .slice g7 al.length c7] 47)
  have HHE : Hid (ExpD d) := ⟨HE⟩
  by_cases hz : ks = [] ∨ al = []
  · simp only [if_pos hz]
    have hbk : ks.length = 0 ∨ al.length = 0 := hz.imp (fun z => by rw [z]; rfl) (fun z => by rw [z]; rfl)
    have Q := fail_any P0 2 (by decide)
    clear hz P IT IB IBS IK IKS IA IAS HE X0
    by_cases hb : ks.length = 0
    · have hb' : ((ks.length : Int) == 0) = true := beq_iff_eq.2 (by omega)
      clear hb hbk
      go_enter Tryz.func62, Tryz.ntmps62
      go_wp2_with (go_at_call 58; refine Q.mono ?_; rintro r w1 ⟨rfl, F1, ts1, e1, P1, A1, l1⟩)
      go_end0
      exact ⟨rfl, F0.trans F1, ts1, e1, P1, A1, by omega⟩
    · have hk : al.length = 0 := hbk.resolve_left hb
      have hb' : ((ks.length : Int) == 0) = false := beq_eq_false_iff_ne.2 (by omega)
      have hk' : ((al.length : Int) == 0) = true := beq_iff_eq.2 (by omega)
      clear hb hk hbk
      go_enter Tryz.func62, Tryz.ntmps62
      go_wp2_with (go_at_call 58; refine Q.mono ?_; rintro r w1 ⟨rfl, F1, ts1, e1, P1, A1, l1⟩)
      go_end0
      exact ⟨rfl, F0.trans F1, ts1, e1, P1, A1, by omega⟩
  simp only [if_neg hz]
  obtain ⟨x, kr, rfl⟩ : ∃ x r, ks = x :: r := by
    cases ks with
    | nil => exact absurd (.inl rfl) hz
    | cons x r => exact ⟨x, r, rfl⟩
  have hb : 0 < al.length := List.length_pos_iff.2 (fun z => hz (.inr z))
  obtain ⟨kn, hkn⟩ : ∃ kn, (x :: kr).length = kn := ⟨_, rfl⟩
  have hkp : 0 < kn := by rw [← hkn]; simp
  rw [hkn] at IK X0 P0 F0 ⊢
  have HAA : Hid (IsRow w (fun g => g < b) xa al.length (.slice g7 al.length c7) ∧ isAs w (fun g => g < b) al xa) := ⟨⟨IA, IAS⟩⟩
  have hfb := hf.2.2.2.2
  have hfk := finEs_head hf.2.2.2.1
  have hwk : wtE x ≤ wtEs (x :: kr) := by simp only [wtEs]; omega
  have b1 : ((al.length : Int) == 0) = false := beq_eq_false_iff_ne.2 (by omega)
  have b2 : ((kn : Int) == 0) = false := beq_eq_false_iff_ne.2 (by omega)
  have HOK : Hid (oK (oE d) (x :: kr) = oE d x) := ⟨rfl⟩
  obtain ⟨OK', hOK⟩ : ∃ o, oK (oE d) (x :: kr) = o := ⟨_, rfl⟩
  rw [hOK] at HOK ⊢
  obtain ⟨W, hW⟩ : ∃ W, wtEs (x :: kr) = W := ⟨_, rfl⟩
  rw [hW] at hn hwk ⊢
  have hbl : al.length ≤ 1000000000 := by obtain ⟨_, _, _, ⟨_, q⟩, _⟩ := IA; exact q
  have HF : Hid (finAs al) := ⟨hfb⟩
  obtain ⟨g, off, dd, rfl, hg, IE, hx⟩ := kid_at IK hkp IKS
  have HIE : Hid (isE w (fun g => g < b) x dd) := ⟨IE⟩
  obtain ⟨k0, a0, m0, s0, h4, h5, h6, h7, n4, n5, n6, n7, d4, d5, d6, d7, rfl⟩ := isE_eight IE
  have hkp' : (0 : Int) < kn := by omega
  clear hz P IT IB IBS IK IKS IA IAS HE hf hfb hkn hOK hW IE
  go_enter Tryz.func62, Tryz.ntmps62
  go_wp2_with (first
    | (go_at_call_of 33 (Value.string { data := #[99, 97, 115, 101] }); refine (word_at P0 #[99, 97, 115, 101] (by decide) (by omega)).mono ?_; rintro r w1 ⟨rfl, F1, ts1, e1, P1, A1, l1⟩; have X1 := F1.oth _ _ _ X0 (by omega) (by decide) (by decide); have lt1 := P1.lt; have FF := F0.trans F1; have y16 : w1.cell? ⟨w.heap.size, 6, none⟩ = some (.slice (some ⟨g, off, none⟩) kn c6) := X1.cell 6; have v0 : w1.cell? ⟨g, off, none⟩ = some (.int .i64 k0) := FF.keeps.cell g _ _ hg (hx 0 _ rfl); have v1 : w1.cell? ⟨g, off + 1, none⟩ = some (.int .i64 a0) := FF.keeps.cell g _ _ hg (hx 1 _ rfl); have v2 : w1.cell? ⟨g, off + 2, none⟩ = some (.string s0) := FF.keeps.cell g _ _ hg (hx 2 _ rfl); have v3 : w1.cell? ⟨g, off + 3, none⟩ = some (.int .i64 m0) := FF.keeps.cell g _ _ hg (hx 3 _ rfl); have v4 : w1.cell? ⟨g, off + 4, none⟩ = some (.slice h4 n4 d4) := FF.keeps.cell g _ _ hg (hx 4 _ rfl); have v5 : w1.cell? ⟨g, off + 5, none⟩ = some (.slice h5 n5 d5) := FF.keeps.cell g _ _ hg (hx 5 _ rfl); have v6 : w1.cell? ⟨g, off + 6, none⟩ = some (.slice h6 n6 d6) := FF.keeps.cell g _ _ hg (hx 6 _ rfl); have v7 : w1.cell? ⟨g, off + 7, none⟩ = some (.slice h7 n7 d7) := FF.keeps.cell g _ _ hg (hx 7 _ rfl))
    | (go_at_call 38; refine (HHE.out _ b ts1 es e1 P1 x _ (isE_keeps FF.keeps x _ HIE.out) hfk (deep + 1) (by omega) (by omega) (by omega)).mono ?_; rintro r w8 ⟨rfl, F8, ts8, e8, P8, A8, l8⟩; have X8 := F8.oth _ _ _ X1 (by omega) (by decide) (by decide); have lt8 := P8.lt)
    | (go_at_call_of 33 (Value.string { data := #[111, 102] }); refine (word_at P8 #[111, 102] (by decide) (by omega)).mono ?_; rintro r w9 ⟨rfl, F9, ts9, e9, P9, A9, l9⟩; have X9 := F9.oth _ _ _ X8 (by omega) (by decide) (by decide); have lt9 := P9.lt)
    | (go_at_call_of 36 (Value.string { data := #[123] }); refine (sign_at P9 #[123] (by decide) (by omega)).mono ?_; rintro r w2 ⟨rfl, F2, ts2, e2, P2, A2, l2⟩; have X2 := F2.oth _ _ _ X9 (by omega) (by decide) (by decide); have lt2 := P2.lt; have y27 : w2.cell? ⟨w.heap.size, 7, none⟩ = some (.slice g7 al.length c7) := X2.cell 7))
  have F02 := ((FF.trans F8).trans F9).trans F2
  have HA2 : Hid (Aft ts e (seqO (.ok [wdT [99, 97, 115, 101]]) (seqO (oE d x) (.ok [wdT [111, 102], sgT [123]]))) ts2 e2) := ⟨A1.seq (A8.seq (A9.seq A2))⟩
  have l02 : ts2.length ≤ ts.length + 3 + wtE x := by omega
  clear F0 F1 F2 A1 A2 l1 l2 P1 X1 y27 P0 X0 FF F8 F9 A8 A9 l8 l9 P8 P9 X8 X9 y16 v0 v1 v2 v3 v4 v5 v6 v7 lt1 lt8 lt9
  go_loopw [43] (fun c wr => ∃ i : Nat, c = .int .i64 i ∧ i ≤ al.length ∧ Fp b w wr ∧ ∃ ts3 e3, Pr wr b ts3 es e3 ∧ Hid (Aft ts e (seqO (seqO (.ok [wdT [99, 97, 115, 101]]) (seqO (oE d x) (.ok [wdT [111, 102], sgT [123]]))) (oL (oA (oE d)) (al.take i))) ts3 e3) ∧ Hid (ts3.length ≤ ts.length + 3 + wtE x + wtAs (al.take i))) (fun c _ => al.length - (intOf c).toNat)
  case atStart => exact ⟨0, rfl, Nat.zero_le _, F02, ts2, e2, P2, ⟨HA2.out.seq (Aft.nil _ _)⟩, ⟨by omega⟩⟩
  case round =>
    clear P2 HA2 F02 X2 l02 lt2
    obtain ⟨i, rfl, hi, F, ts3, e3, P3, HA, HL⟩ := hrel
    have lt3 := P3.lt
    by_cases hlt : i < al.length
    · obtain ⟨g, off, rfl, hg, hx⟩ : ∃ g off, g7 = some ⟨g, off, none⟩ ∧ g < b ∧ ∀ j u, xa[j]? = some u → w.cell? ⟨g, off + j, none⟩ = some u := by
        obtain ⟨_, _, q, _, h⟩ := HAA.out.1
        cases q
        exact h (by omega)
      obtain ⟨dd, hd0, hdd⟩ := isAs_get al xa HAA.out.2 i hlt
      have hwt := wtAs_take al i hlt
      have hwl := wtAs_le al (i + 1)
      have hfi := finAs_get al HF.out i hlt
      have HT : Hid (oL (oA (oE d)) (al.take (i + 1)) = seqO (oL (oA (oE d)) (al.take i)) (oA (oE d) (al[i]'hlt))) := ⟨oL_take _ _ _ hlt⟩
      have hlt' : (i : Int) < al.length := by omega
      have HW : Hid (wtAs (al.take (i + 1)) = wtAs (al.take i) + wtA (al[i]'hlt)) := ⟨hwt⟩
      have hwb : ts3.length + wtA (al[i]'hlt) ≤ 2000000 := by have := HL.out; omega
      have HI : Hid (isA wr (fun g => g < b) (al[i]'hlt) dd) := ⟨isA_keeps F.keeps _ _ hd0⟩
      obtain ⟨u4, u5, u0, u1, u2, u3, t0, t1, q3, q4, q5, q6, q7, p3, p4, p5, p6, p7, r3, r4, r5, r6, r7, rfl⟩ := isA_thirteen hd0
      have z0 : wr.cell? ⟨g, off + i * 13, none⟩ = some (.int .i64 u4) := F.keeps.cell g _ _ hg (cells_at hx hdd 0 _ rfl)
      have z1 : wr.cell? ⟨g, off + i * 13 + 1, none⟩ = some (.int .i64 u5) := F.keeps.cell g _ _ hg (cells_at hx hdd 1 _ rfl)
      have z2 : wr.cell? ⟨g, off + i * 13 + 2, none⟩ = some (.string t0) := F.keeps.cell g _ _ hg (cells_at hx hdd 2 _ rfl)
      have z3 : wr.cell? ⟨g, off + i * 13 + 3, none⟩ = some (.int .i64 u0) := F.keeps.cell g _ _ hg (cells_at hx hdd 3 _ rfl)
      have z4 : wr.cell? ⟨g, off + i * 13 + 4, none⟩ = some (.slice q3 p3 r3) := F.keeps.cell g _ _ hg (cells_at hx hdd 4 _ rfl)
      have z5 : wr.cell? ⟨g, off + i * 13 + 5, none⟩ = some (.int .i64 u1) := F.keeps.cell g _ _ hg (cells_at hx hdd 5 _ rfl)
      have z6 : wr.cell? ⟨g, off + i * 13 + 6, none⟩ = some (.int .i64 u2) := F.keeps.cell g _ _ hg (cells_at hx hdd 6 _ rfl)
      have z7 : wr.cell? ⟨g, off + i * 13 + 7, none⟩ = some (.string t1) := F.keeps.cell g _ _ hg (cells_at hx hdd 7 _ rfl)
      have z8 : wr.cell? ⟨g, off + i * 13 + 8, none⟩ = some (.int .i64 u3) := F.keeps.cell g _ _ hg (cells_at hx hdd 8 _ rfl)
      have z9 : wr.cell? ⟨g, off + i * 13 + 9, none⟩ = some (.slice q4 p4 r4) := F.keeps.cell g _ _ hg (cells_at hx hdd 9 _ rfl)
      have z10 : wr.cell? ⟨g, off + i * 13 + 10, none⟩ = some (.slice q5 p5 r5) := F.keeps.cell g _ _ hg (cells_at hx hdd 10 _ rfl)
      have z11 : wr.cell? ⟨g, off + i * 13 + 11, none⟩ = some (.slice q6 p6 r6) := F.keeps.cell g _ _ hg (cells_at hx hdd 11 _ rfl)
      have z12 : wr.cell? ⟨g, off + i * 13 + 12, none⟩ = some (.slice q7 p7 r7) := F.keeps.cell g _ _ hg (cells_at hx hdd 12 _ rfl)
      have P4 := P3.alloc (.cells #[.int .i64 u4, .int .i64 u5, .string t0, .int .i64 u0, .slice q3 p3 r3, .int .i64 u1, .int .i64 u2, .string t1, .int .i64 u3, .slice q4 p4 r4, .slice q5 p5 r5, .slice q6 p6 r6, .slice q7 p7 r7] 102)
      have F4 := F.alloc (.cells #[.int .i64 u4, .int .i64 u5, .string t0, .int .i64 u0, .slice q3 p3 r3, .int .i64 u1, .int .i64 u2, .string t1, .int .i64 u3, .slice q4 p4 r4, .slice q5 p5 r5, .slice q6 p6 r6, .slice q7 p7 r7] 102)
      have Q := alt_any HHE.out P4 (al[i]'hlt) _ (isA_keeps (keeps_below (Joins.below_alloc1 wr _) (fun _ h => h)) _ _ HI.out) hfi (deep + 1) (by omega) (by omega) hwb
      generalize al[i]'hlt = y at *
      clear hx hdd hd0 HI P3 hwt hwl
      go_wp2_with (go_at_call 68; refine Q.mono ?_; rintro r w5 ⟨rfl, F5, ts5, e5, P5, A5, l5⟩)
      go_roundw
      case rel => exact ⟨i + 1, by go_num, by omega, F4.trans F5, ts5, e5, P5, ⟨by rw [HT.out, ← seqO_assoc]; exact HA.out.seq A5⟩, ⟨by have := HL.out; have := HW.out; omega⟩⟩
      case measure => simp [intOf]; omega
    · have q1 : al.take i = al := List.take_of_length_le (by omega)
      rw [q1] at HA HL
      have hlt' : ¬ (i : Int) < al.length := by omega
      have hl3 := HL.out
      go_wp2_with (first
        | (go_at_call_of 36 (Value.string { data := #[125] }); refine (sign_at P3 #[125] (by decide) (by omega)).mono ?_; rintro r w6 ⟨rfl, F6, ts6, e6, P6, A6, l6⟩))
      go_end0
      refine ⟨rfl, F.trans F6, ts6, e6, P6, ?_, by omega⟩
      have AA := HA.out.seq A6
      simp only [seqO_assoc] at AA
      rw [HOK.out]
      exact AA

set_option maxRecDepth 100000 in
set_option maxHeartbeats 8000000 in
theorem exp_zero : ExpD 0 := fun w b ts es e P x c I hf deep hd h1 hn => by
  obtain ⟨k0, a0, m0, s0, h4, h5, h6, h7, n4, n5, n6, n7, d4, d5, d6, d7, rfl⟩ := isE_eight I
  have lt := P.lt
  have hdp : deep = 61 := by omega
  subst hdp
  have F0 := (Fp.refl b w).alloc (.cells #[.int .i64 k0, .int .i64 a0, .string s0, .int .i64 m0, .slice h4 n4 d4, .slice h5 n5 d5, .slice h6 n6 d6, .slice h7 n7 d7] 47)
  have P0 := P.alloc (.cells #[.int .i64 k0, .int .i64 a0, .string s0, .int .i64 m0, .slice h4 n4 d4, .slice h5 n5 d5, .slice h6 n6 d6, .slice h7 n7 d7] 47)
  have Q := fail_any P0 24 (by decide)
  clear P I
  go_enter Tryz.func38, Tryz.ntmps38
  go_wp2_with (go_at_call 58; refine Q.mono ?_; rintro r w1 ⟨rfl, F1, ts1, e1, P1, A1, l1⟩; have c2 := P1.c2; have lt1 := P1.lt; have ne : ¬ e1 = 0 := (by rcases Int.decEq e 0 with z | z; exact fun q => z ((A1.1 z).symm.trans q); exact (by rw [(A1.2 z).1]; decide)); have ne' : (e1 != 0) = true := (by simp [ne]))
  go_end0
  exact ⟨rfl, F0.trans F1, ts1, e1, P1, A1, by omega⟩
set_option maxRecDepth 100000 in
set_option maxHeartbeats 8000000 in
theorem via_one (o : OT) (nn : Nat) (P : Pr w b ts es 0) {a : Int} {n : List UInt8} {m : Int} {az : List Atm} {bs : List B} {ks : List E} {al : List A} (c : List Value) (I : isE w (fun g => g < b) (.mk 1 a n m az bs ks al) c) (deep : Int) (hle : ¬ (60 : Int) < deep) (h1 : 1 ≤ deep)
    (Q : Calls Tryz.prog 60 #[ptr b, .int .i64 1, .agg c.toArray] (w.alloc (.cells c.toArray 47)) (Did b (w.alloc (.cells c.toArray 47)) ts es 0 nn o)) :
    Calls Tryz.prog 38 #[ptr b, .agg c.toArray, .int .i64 deep] w (Did b w ts es 0 nn o) := by
  have P0 := P.alloc (.cells c.toArray 47)
  have F0 := (Fp.refl b w).alloc (.cells c.toArray 47)
  simp only [isE] at I
  obtain ⟨vt, vb, vk, va, xb, xk, xa, rfl, IT, IB, IBS, IK, IKS, IA, IAS⟩ := I
  obtain ⟨g4, c4, rfl⟩ := row_len IT
  obtain ⟨g5, c5, rfl⟩ := row_len IB
  obtain ⟨g6, c6, rfl⟩ := row_len IK
  obtain ⟨g7, c7, rfl⟩ := row_len IA
  have X0 := Blk.fresh w #[.int .i64 1, .int .i64 a, .string (str n), .int .i64 m, .slice g4 az.length c4, .slice g5 bs.length c5, .slice g6 ks.length c6, .slice g7 al.length c7] 47
  have c2 := P0.c2
  have lt := P0.lt
  clear IT IB IBS IK IKS IA IAS P P0
  go_enter Tryz.func38, Tryz.ntmps38
  go_wp2_with (go_at_call 60; refine Q.mono ?_; rintro r w1 ⟨rfl, F1, ts1, e1, P1, A1, l1⟩)
  go_end0
  exact ⟨rfl, F0.trans F1, ts1, e1, P1, A1, l1⟩
set_option maxRecDepth 100000 in
set_option maxHeartbeats 8000000 in
theorem exp_onek {d : Nat} (HE : ExpD d) (P : Pr w b ts es 0) (x : E) (c : List Value) (I : isE w (fun g => g < b) x c) (hf : finE x) (deep : Int) (hd : deep + 1 + d = 61) (h1 : 1 ≤ deep) (hn : ts.length + wtE x ≤ 2000000) (hk : kindE x = 1) :
    Calls Tryz.prog 38 #[ptr b, .agg c.toArray, .int .i64 deep] w (Did b w ts es 0 (wtE x) (oE (d + 1) x)) := by
  obtain ⟨k, a, n, m, az, bs, ks, al⟩ := x
  have I0 := isE_keeps (keeps_below (ok := fun g => g < b) (ok' := fun g => g < b) (Joins.below_alloc1 w (.cells c.toArray 47)) (fun _ h => h)) _ _ I
  have P0 := P.alloc (.cells c.toArray 47)
  have F0 := (Fp.refl b w).alloc (.cells c.toArray 47)
  have hk : k = 1 := hk
  unfold oE
  subst hk
  rw [if_pos (by decide)]
  exact via_one _ _ P c I deep (by omega) h1 (pcall_any P0 1 ⟨by decide, by decide⟩ (.mk 1 a n m az bs ks al) c I0 hf hn)
set_option maxRecDepth 100000 in
set_option maxHeartbeats 8000000 in
theorem via_two (o : OT) (nn : Nat) (P : Pr w b ts es 0) {a : Int} {n : List UInt8} {m : Int} {az : List Atm} {bs : List B} {ks : List E} {al : List A} (c : List Value) (I : isE w (fun g => g < b) (.mk 2 a n m az bs ks al) c) (deep : Int) (hle : ¬ (60 : Int) < deep) (h1 : 1 ≤ deep)
    (Q : Calls Tryz.prog 60 #[ptr b, .int .i64 2, .agg c.toArray] (w.alloc (.cells c.toArray 47)) (Did b (w.alloc (.cells c.toArray 47)) ts es 0 nn o)) :
    Calls Tryz.prog 38 #[ptr b, .agg c.toArray, .int .i64 deep] w (Did b w ts es 0 nn o) := by
  have P0 := P.alloc (.cells c.toArray 47)
  have F0 := (Fp.refl b w).alloc (.cells c.toArray 47)
  simp only [isE] at I
  obtain ⟨vt, vb, vk, va, xb, xk, xa, rfl, IT, IB, IBS, IK, IKS, IA, IAS⟩ := I
  obtain ⟨g4, c4, rfl⟩ := row_len IT
  obtain ⟨g5, c5, rfl⟩ := row_len IB
  obtain ⟨g6, c6, rfl⟩ := row_len IK
  obtain ⟨g7, c7, rfl⟩ := row_len IA
  have X0 := Blk.fresh w #[.int .i64 2, .int .i64 a, .string (str n), .int .i64 m, .slice g4 az.length c4, .slice g5 bs.length c5, .slice g6 ks.length c6, .slice g7 al.length c7] 47
  have c2 := P0.c2
  have lt := P0.lt
  clear IT IB IBS IK IKS IA IAS P P0
  go_enter Tryz.func38, Tryz.ntmps38
  go_wp2_with (go_at_call 60; refine Q.mono ?_; rintro r w1 ⟨rfl, F1, ts1, e1, P1, A1, l1⟩)
  go_end0
  exact ⟨rfl, F0.trans F1, ts1, e1, P1, A1, l1⟩
set_option maxRecDepth 100000 in
set_option maxHeartbeats 8000000 in
theorem exp_twok {d : Nat} (HE : ExpD d) (P : Pr w b ts es 0) (x : E) (c : List Value) (I : isE w (fun g => g < b) x c) (hf : finE x) (deep : Int) (hd : deep + 1 + d = 61) (h1 : 1 ≤ deep) (hn : ts.length + wtE x ≤ 2000000) (hk : kindE x = 2) :
    Calls Tryz.prog 38 #[ptr b, .agg c.toArray, .int .i64 deep] w (Did b w ts es 0 (wtE x) (oE (d + 1) x)) := by
  obtain ⟨k, a, n, m, az, bs, ks, al⟩ := x
  have I0 := isE_keeps (keeps_below (ok := fun g => g < b) (ok' := fun g => g < b) (Joins.below_alloc1 w (.cells c.toArray 47)) (fun _ h => h)) _ _ I
  have P0 := P.alloc (.cells c.toArray 47)
  have F0 := (Fp.refl b w).alloc (.cells c.toArray 47)
  have hk : k = 2 := hk
  unfold oE
  subst hk
  rw [if_pos (by decide)]
  exact via_two _ _ P c I deep (by omega) h1 (pcall_any P0 2 ⟨by decide, by decide⟩ (.mk 2 a n m az bs ks al) c I0 hf hn)
set_option maxRecDepth 100000 in
set_option maxHeartbeats 8000000 in
theorem via_three (o : OT) (nn : Nat) (P : Pr w b ts es 0) {a : Int} {n : List UInt8} {m : Int} {az : List Atm} {bs : List B} {ks : List E} {al : List A} (c : List Value) (I : isE w (fun g => g < b) (.mk 3 a n m az bs ks al) c) (deep : Int) (hle : ¬ (60 : Int) < deep) (h1 : 1 ≤ deep)
    (Q : Calls Tryz.prog 60 #[ptr b, .int .i64 3, .agg c.toArray] (w.alloc (.cells c.toArray 47)) (Did b (w.alloc (.cells c.toArray 47)) ts es 0 nn o)) :
    Calls Tryz.prog 38 #[ptr b, .agg c.toArray, .int .i64 deep] w (Did b w ts es 0 nn o) := by
  have P0 := P.alloc (.cells c.toArray 47)
  have F0 := (Fp.refl b w).alloc (.cells c.toArray 47)
  simp only [isE] at I
  obtain ⟨vt, vb, vk, va, xb, xk, xa, rfl, IT, IB, IBS, IK, IKS, IA, IAS⟩ := I
  obtain ⟨g4, c4, rfl⟩ := row_len IT
  obtain ⟨g5, c5, rfl⟩ := row_len IB
  obtain ⟨g6, c6, rfl⟩ := row_len IK
  obtain ⟨g7, c7, rfl⟩ := row_len IA
  have X0 := Blk.fresh w #[.int .i64 3, .int .i64 a, .string (str n), .int .i64 m, .slice g4 az.length c4, .slice g5 bs.length c5, .slice g6 ks.length c6, .slice g7 al.length c7] 47
  have c2 := P0.c2
  have lt := P0.lt
  clear IT IB IBS IK IKS IA IAS P P0
  go_enter Tryz.func38, Tryz.ntmps38
  go_wp2_with (go_at_call 60; refine Q.mono ?_; rintro r w1 ⟨rfl, F1, ts1, e1, P1, A1, l1⟩)
  go_end0
  exact ⟨rfl, F0.trans F1, ts1, e1, P1, A1, l1⟩
set_option maxRecDepth 100000 in
set_option maxHeartbeats 8000000 in
theorem exp_threek {d : Nat} (HE : ExpD d) (P : Pr w b ts es 0) (x : E) (c : List Value) (I : isE w (fun g => g < b) x c) (hf : finE x) (deep : Int) (hd : deep + 1 + d = 61) (h1 : 1 ≤ deep) (hn : ts.length + wtE x ≤ 2000000) (hk : kindE x = 3) :
    Calls Tryz.prog 38 #[ptr b, .agg c.toArray, .int .i64 deep] w (Did b w ts es 0 (wtE x) (oE (d + 1) x)) := by
  obtain ⟨k, a, n, m, az, bs, ks, al⟩ := x
  have I0 := isE_keeps (keeps_below (ok := fun g => g < b) (ok' := fun g => g < b) (Joins.below_alloc1 w (.cells c.toArray 47)) (fun _ h => h)) _ _ I
  have P0 := P.alloc (.cells c.toArray 47)
  have F0 := (Fp.refl b w).alloc (.cells c.toArray 47)
  have hk : k = 3 := hk
  unfold oE
  subst hk
  rw [if_pos (by decide)]
  exact via_three _ _ P c I deep (by omega) h1 (pcall_any P0 3 ⟨by decide, by decide⟩ (.mk 3 a n m az bs ks al) c I0 hf hn)
set_option maxRecDepth 100000 in
set_option maxHeartbeats 8000000 in
theorem via_five (o : OT) (nn : Nat) (P : Pr w b ts es 0) {a : Int} {n : List UInt8} {m : Int} {az : List Atm} {bs : List B} {ks : List E} {al : List A} (c : List Value) (I : isE w (fun g => g < b) (.mk 5 a n m az bs ks al) c) (deep : Int) (hle : ¬ (60 : Int) < deep) (h1 : 1 ≤ deep)
    (Q : Calls Tryz.prog 61 #[ptr b, .agg c.toArray, .int .i64 deep] (w.alloc (.cells c.toArray 47)) (Did b (w.alloc (.cells c.toArray 47)) ts es 0 nn o)) :
    Calls Tryz.prog 38 #[ptr b, .agg c.toArray, .int .i64 deep] w (Did b w ts es 0 nn o) := by
  have P0 := P.alloc (.cells c.toArray 47)
  have F0 := (Fp.refl b w).alloc (.cells c.toArray 47)
  simp only [isE] at I
  obtain ⟨vt, vb, vk, va, xb, xk, xa, rfl, IT, IB, IBS, IK, IKS, IA, IAS⟩ := I
  obtain ⟨g4, c4, rfl⟩ := row_len IT
  obtain ⟨g5, c5, rfl⟩ := row_len IB
  obtain ⟨g6, c6, rfl⟩ := row_len IK
  obtain ⟨g7, c7, rfl⟩ := row_len IA
  have X0 := Blk.fresh w #[.int .i64 5, .int .i64 a, .string (str n), .int .i64 m, .slice g4 az.length c4, .slice g5 bs.length c5, .slice g6 ks.length c6, .slice g7 al.length c7] 47
  have c2 := P0.c2
  have lt := P0.lt
  clear IT IB IBS IK IKS IA IAS P P0
  go_enter Tryz.func38, Tryz.ntmps38
  go_wp2_with (go_at_call 61; refine Q.mono ?_; rintro r w1 ⟨rfl, F1, ts1, e1, P1, A1, l1⟩)
  go_end0
  exact ⟨rfl, F0.trans F1, ts1, e1, P1, A1, l1⟩
set_option maxRecDepth 100000 in
set_option maxHeartbeats 8000000 in
theorem exp_fivek {d : Nat} (HE : ExpD d) (P : Pr w b ts es 0) (x : E) (c : List Value) (I : isE w (fun g => g < b) x c) (hf : finE x) (deep : Int) (hd : deep + 1 + d = 61) (h1 : 1 ≤ deep) (hn : ts.length + wtE x ≤ 2000000) (hk : kindE x = 5) :
    Calls Tryz.prog 38 #[ptr b, .agg c.toArray, .int .i64 deep] w (Did b w ts es 0 (wtE x) (oE (d + 1) x)) := by
  obtain ⟨k, a, n, m, az, bs, ks, al⟩ := x
  have I0 := isE_keeps (keeps_below (ok := fun g => g < b) (ok' := fun g => g < b) (Joins.below_alloc1 w (.cells c.toArray 47)) (fun _ h => h)) _ _ I
  have P0 := P.alloc (.cells c.toArray 47)
  have F0 := (Fp.refl b w).alloc (.cells c.toArray 47)
  have hk : k = 5 := hk
  unfold oE
  subst hk
  rw [if_neg (by decide), if_neg (by decide), if_pos rfl]
  exact via_five _ _ P c I deep (by omega) h1 (plet_any HE P0 (.mk 5 a n m az bs ks al) c I0 hf deep hd h1 hn)
set_option maxRecDepth 100000 in
set_option maxHeartbeats 8000000 in
theorem via_six (o : OT) (nn : Nat) (P : Pr w b ts es 0) {a : Int} {n : List UInt8} {m : Int} {az : List Atm} {bs : List B} {ks : List E} {al : List A} (c : List Value) (I : isE w (fun g => g < b) (.mk 6 a n m az bs ks al) c) (deep : Int) (hle : ¬ (60 : Int) < deep) (h1 : 1 ≤ deep)
    (Q : Calls Tryz.prog 62 #[ptr b, .agg c.toArray, .int .i64 deep] (w.alloc (.cells c.toArray 47)) (Did b (w.alloc (.cells c.toArray 47)) ts es 0 nn o)) :
    Calls Tryz.prog 38 #[ptr b, .agg c.toArray, .int .i64 deep] w (Did b w ts es 0 nn o) := by
  have P0 := P.alloc (.cells c.toArray 47)
  have F0 := (Fp.refl b w).alloc (.cells c.toArray 47)
  simp only [isE] at I
  obtain ⟨vt, vb, vk, va, xb, xk, xa, rfl, IT, IB, IBS, IK, IKS, IA, IAS⟩ := I
  obtain ⟨g4, c4, rfl⟩ := row_len IT
  obtain ⟨g5, c5, rfl⟩ := row_len IB
  obtain ⟨g6, c6, rfl⟩ := row_len IK
  obtain ⟨g7, c7, rfl⟩ := row_len IA
  have X0 := Blk.fresh w #[.int .i64 6, .int .i64 a, .string (str n), .int .i64 m, .slice g4 az.length c4, .slice g5 bs.length c5, .slice g6 ks.length c6, .slice g7 al.length c7] 47
  have c2 := P0.c2
  have lt := P0.lt
  clear IT IB IBS IK IKS IA IAS P P0
  go_enter Tryz.func38, Tryz.ntmps38
  go_wp2_with (go_at_call 62; refine Q.mono ?_; rintro r w1 ⟨rfl, F1, ts1, e1, P1, A1, l1⟩)
  go_end0
  exact ⟨rfl, F0.trans F1, ts1, e1, P1, A1, l1⟩
set_option maxRecDepth 100000 in
set_option maxHeartbeats 8000000 in
theorem exp_sixk {d : Nat} (HE : ExpD d) (P : Pr w b ts es 0) (x : E) (c : List Value) (I : isE w (fun g => g < b) x c) (hf : finE x) (deep : Int) (hd : deep + 1 + d = 61) (h1 : 1 ≤ deep) (hn : ts.length + wtE x ≤ 2000000) (hk : kindE x = 6) :
    Calls Tryz.prog 38 #[ptr b, .agg c.toArray, .int .i64 deep] w (Did b w ts es 0 (wtE x) (oE (d + 1) x)) := by
  obtain ⟨k, a, n, m, az, bs, ks, al⟩ := x
  have I0 := isE_keeps (keeps_below (ok := fun g => g < b) (ok' := fun g => g < b) (Joins.below_alloc1 w (.cells c.toArray 47)) (fun _ h => h)) _ _ I
  have P0 := P.alloc (.cells c.toArray 47)
  have F0 := (Fp.refl b w).alloc (.cells c.toArray 47)
  have hk : k = 6 := hk
  unfold oE
  subst hk
  rw [if_neg (by decide), if_neg (by decide), if_neg (by decide), if_pos rfl]
  exact via_six _ _ P c I deep (by omega) h1 (pcase_any HE P0 (.mk 6 a n m az bs ks al) c I0 hf deep hd h1 hn)
set_option maxRecDepth 100000 in
set_option maxHeartbeats 8000000 in
theorem via_none (o : OT) (nn : Nat) (P : Pr w b ts es 0) {k a : Int} {n : List UInt8} {m : Int} {az : List Atm} {bs : List B} {ks : List E} {al : List A} (c : List Value) (I : isE w (fun g => g < b) (.mk k a n m az bs ks al) c) (deep : Int) (hle : ¬ (60 : Int) < deep) (h1 : 1 ≤ deep) (q1 : (k == 1) = false) (q2 : (k == 2) = false) (q3 : (k == 3) = false) (q4 : (k == 4) = false) (q5 : (k == 5) = false) (q6 : (k == 6) = false)
    (Q : Calls Tryz.prog 58 #[ptr b, .int .i64 2] (w.alloc (.cells c.toArray 47)) (Did b (w.alloc (.cells c.toArray 47)) ts es 0 nn o)) :
    Calls Tryz.prog 38 #[ptr b, .agg c.toArray, .int .i64 deep] w (Did b w ts es 0 nn o) := by
  have P0 := P.alloc (.cells c.toArray 47)
  have F0 := (Fp.refl b w).alloc (.cells c.toArray 47)
  simp only [isE] at I
  obtain ⟨vt, vb, vk, va, xb, xk, xa, rfl, IT, IB, IBS, IK, IKS, IA, IAS⟩ := I
  obtain ⟨g4, c4, rfl⟩ := row_len IT
  obtain ⟨g5, c5, rfl⟩ := row_len IB
  obtain ⟨g6, c6, rfl⟩ := row_len IK
  obtain ⟨g7, c7, rfl⟩ := row_len IA
  have X0 := Blk.fresh w #[.int .i64 k, .int .i64 a, .string (str n), .int .i64 m, .slice g4 az.length c4, .slice g5 bs.length c5, .slice g6 ks.length c6, .slice g7 al.length c7] 47
  have c2 := P0.c2
  have lt := P0.lt
  clear IT IB IBS IK IKS IA IAS P P0
  go_enter Tryz.func38, Tryz.ntmps38
  go_wp2_with (go_at_call 58; refine Q.mono ?_; rintro r w1 ⟨rfl, F1, ts1, e1, P1, A1, l1⟩)
  go_end0
  exact ⟨rfl, F0.trans F1, ts1, e1, P1, A1, l1⟩
set_option maxRecDepth 100000 in
set_option maxHeartbeats 8000000 in
theorem exp_nonek {d : Nat} (HE : ExpD d) (P : Pr w b ts es 0) (x : E) (c : List Value) (I : isE w (fun g => g < b) x c) (hf : finE x) (deep : Int) (hd : deep + 1 + d = 61) (h1 : 1 ≤ deep) (hn : ts.length + wtE x ≤ 2000000) (hk : ¬ (kindE x = 1 ∨ kindE x = 2 ∨ kindE x = 3) ∧ ¬ kindE x = 4 ∧ ¬ kindE x = 5 ∧ ¬ kindE x = 6) :
    Calls Tryz.prog 38 #[ptr b, .agg c.toArray, .int .i64 deep] w (Did b w ts es 0 (wtE x) (oE (d + 1) x)) := by
  obtain ⟨k, a, n, m, az, bs, ks, al⟩ := x
  have I0 := isE_keeps (keeps_below (ok := fun g => g < b) (ok' := fun g => g < b) (Joins.below_alloc1 w (.cells c.toArray 47)) (fun _ h => h)) _ _ I
  have P0 := P.alloc (.cells c.toArray 47)
  have F0 := (Fp.refl b w).alloc (.cells c.toArray 47)
  have hk : ¬ (k = 1 ∨ k = 2 ∨ k = 3) ∧ ¬ k = 4 ∧ ¬ k = 5 ∧ ¬ k = 6 := hk
  unfold oE
  rw [if_neg hk.1, if_neg hk.2.1, if_neg hk.2.2.1, if_neg hk.2.2.2]
  have ne : ∀ j : Int, k ≠ j → (k == j) = false := fun j h => by simp [h]
  refine via_none _ _ P c I deep (by omega) h1 (ne 1 (by omega)) (ne 2 (by omega)) (ne 3 (by omega)) (ne 4 (by omega)) (ne 5 (by omega)) (ne 6 (by omega)) ((fail_any P0 2 (by decide)).mono ?_)
  rintro r w1 ⟨rfl, F1, ts1, e1, P1, A1, l1⟩
  exact ⟨rfl, F1, ts1, e1, P1, A1, by omega⟩
set_option maxRecDepth 100000 in
set_option maxHeartbeats 8000000 in
theorem exp_fourk {d : Nat} (HE : ExpD d) (P : Pr w b ts es 0) (x : E) (c : List Value) (I : isE w (fun g => g < b) x c) (hf : finE x) (deep : Int) (hd : deep + 1 + d = 61) (h1 : 1 ≤ deep) (hn : ts.length + wtE x ≤ 2000000) (hk : kindE x = 4) :
    Calls Tryz.prog 38 #[ptr b, .agg c.toArray, .int .i64 deep] w (Did b w ts es 0 (wtE x) (oE (d + 1) x)) := by
  obtain ⟨k, a, n, m, az, bs, ks, al⟩ := x
  have I0 := isE_keeps (keeps_below (ok := fun g => g < b) (ok' := fun g => g < b) (Joins.below_alloc1 w (.cells c.toArray 47)) (fun _ h => h)) _ _ I
  have P0 := P.alloc (.cells c.toArray 47)
  have F0 := (Fp.refl b w).alloc (.cells c.toArray 47)
  have hk : k = 4 := hk
  unfold oE
  subst hk
  rw [if_neg (by decide), if_pos rfl]
  obtain ⟨vt, vb, vk, va, xb, xk, xa, rfl, IT, IB, IBS, IK, IKS, IA, IAS⟩ := (show isE w _ (.mk 4 a n m az bs ks al) c from I)
  obtain ⟨g4, c4, rfl⟩ := row_len IT
  obtain ⟨g5, c5, rfl⟩ := row_len IB
  obtain ⟨g6, c6, rfl⟩ := row_len IK
  obtain ⟨g7, c7, rfl⟩ := row_len IA
  simp only [finE] at hf
  simp only [wtE] at hn ⊢
  have hfm := hf.1
  have X0 := Blk.fresh w #[.int .i64 4, .int .i64 a, .string (str n), .int .i64 m, .slice g4 az.length c4, .slice g5 bs.length c5, .slice g6 ks.length c6, .slice g7 al.length c7] 47
  have c2 := P0.c2
  have lt := P0.lt
  have lt0 := P.lt
  have hle : ¬ (60 : Int) < deep := by omega
  clear I IT IB IBS IK IKS IA IAS HE P I0
  go_enter Tryz.func38, Tryz.ntmps38
  go_wp2
  go_region_held3 (fun w' => w'.cell? ⟨w.heap.size, 3, none⟩ = some (.int .i64 m)) (go_keep) (first
    | (go_at_call 35; refine (pnumber_any P0.drew m hfm (by omega)).mono ?_; rintro r w1 ⟨rfl, F1, ts1, e1, P1, A1, l1⟩; have y53 : w1.cell? ⟨w.heap.size, 3, none⟩ = some (.int .i64 m) := (F1.oth _ _ _ X0.drew (by omega) (by decide) (by decide)).cell 3))
  all_goals go_wp2
  all_goals go_end0
  all_goals exact ⟨rfl, F0.drew.trans F1, ts1, e1, P1, A1, by omega⟩
set_option maxRecDepth 100000 in
set_option maxHeartbeats 8000000 in
theorem exp_wrong {d : Nat} (P : Pr w b ts es e) (he : e ≠ 0) (x : E) (c : List Value) (I : isE w (fun g => g < b) x c) (deep : Int) (hd : deep + 1 + d = 61) (h1 : 1 ≤ deep) (o : OT) (n : Nat) :
    Calls Tryz.prog 38 #[ptr b, .agg c.toArray, .int .i64 deep] w (Did b w ts es e n o) := by
  obtain ⟨k0, a0, m0, s0, h4, h5, h6, h7, n4, n5, n6, n7, d4, d5, d6, d7, rfl⟩ := isE_eight I
  have F0 := (Fp.refl b w).alloc (.cells #[.int .i64 k0, .int .i64 a0, .string s0, .int .i64 m0, .slice h4 n4 d4, .slice h5 n5 d5, .slice h6 n6 d6, .slice h7 n7 d7] 47)
  have P0 := P.alloc (.cells #[.int .i64 k0, .int .i64 a0, .string s0, .int .i64 m0, .slice h4 n4 d4, .slice h5 n5 d5, .slice h6 n6 d6, .slice h7 n7 d7] 47)
  have lt := P0.lt
  have c2 := P0.c2
  have hle : ¬ (60 : Int) < deep := by omega
  have ne' : (e != 0) = true := by simp [he]
  clear I
  go_enter Tryz.func38, Tryz.ntmps38
  go_wp2
  go_end0
  exact ⟨rfl, F0, ts, e, P0, ⟨fun _ => rfl, fun q => absurd q he⟩, by omega⟩
end
theorem exp_all : ∀ d, ExpD d
  | 0 => exp_zero
  | d + 1 => fun w b ts es e P x c I hf deep hd h1 hn => by
    have HE := exp_all d
    have hd' : deep + 1 + d = 61 := by omega
    by_cases he : e = 0
    · subst he
      rcases Int.decEq (kindE x) 1 with z1 | z1
      · rcases Int.decEq (kindE x) 2 with z2 | z2
        · rcases Int.decEq (kindE x) 3 with z3 | z3
          · rcases Int.decEq (kindE x) 4 with z4 | z4
            · rcases Int.decEq (kindE x) 5 with z5 | z5
              · rcases Int.decEq (kindE x) 6 with z6 | z6
                · exact exp_nonek HE P x c I hf deep hd' h1 hn ⟨by omega, z4, z5, z6⟩
                · exact exp_sixk HE P x c I hf deep hd' h1 hn z6
              · exact exp_fivek HE P x c I hf deep hd' h1 hn z5
            · exact exp_fourk HE P x c I hf deep hd' h1 hn z4
          · exact exp_threek HE P x c I hf deep hd' h1 hn z3
        · exact exp_twok HE P x c I hf deep hd' h1 hn z2
      · exact exp_onek HE P x c I hf deep hd' h1 hn z1
    · exact exp_wrong (d := d) P he x c I deep hd' h1 _ _

end Go.Proofs.YtofgnpehlheeiaaGreatDoor
