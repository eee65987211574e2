/- Package show's printer: let, case. -/
import Derived.Test.YtofgnpehlheeiaaGreatDoorTre
namespace Go.Proofs.YtofgnpehlheeiaaGreatDoor
open Go.RowKit
set_option linter.unusedVariables false
set_option linter.unusedSimpArgs false

theorem cells_at {w : World} {g off i sz : Nat} {xs d : List Value} (hx : ∀ j u, xs[j]? = some u → w.cell? ⟨g, off + j, none⟩ = some u) (hd : ∀ j u, d[j]? = some u → xs[i * sz + j]? = some u) (j : Nat) (u : Value) (h : d[j]? = some u) : w.cell? ⟨g, off + i * sz + j, none⟩ = some u := by
  rw [Nat.add_assoc]; exact hx _ _ (hd j u h)
theorem finEs_head {x : E} {r : List E} (h : finEs (x :: r)) : finE x := by simp only [finEs] at h; exact h.1
section
variable {w : World} {b : Nat} {ts : List ATok} {es : List Nat} {e : Int}
/-- the first of a list of expressions -/
theorem kid_at {ok : Nat → Prop} {x : E} {r : List E} {xk : List Value} {ga : Option Addr} {n cap : Nat} (IK : IsRow w ok xk n (.slice ga n cap)) (hn : 0 < n) (IKS : isEs w ok (x :: r) xk) : ∃ g off c, ga = some ⟨g, off, none⟩ ∧ ok g ∧ isE w ok x c ∧ ∀ j u, c[j]? = some u → w.cell? ⟨g, off + j, none⟩ = some u := by
  obtain ⟨ga', cap', e, _, h⟩ := IK
  cases e
  obtain ⟨g, off, e, ho, hx⟩ := h hn
  simp only [isEs] at IKS
  obtain ⟨c1, c2, rfl, h1, _⟩ := IKS
  refine ⟨g, off, c1, e, ho, h1, fun j u hj => hx j u ?_⟩
  rw [List.getElem?_append_left (List.getElem?_eq_some_iff.1 hj).1]
  exact hj

set_option maxRecDepth 100000 in
set_option maxHeartbeats 8000000 in
theorem plet_any {d : Nat} (HE : ExpD d) (P : Pr w b ts es e) (x : E) (c : List Value) (I : isE w (fun g => g < b) x c) (hf : finE x) (deep : Int) (hd : deep + 1 + d = 61) (h1 : 1 ≤ deep) (hn : ts.length + wtE x ≤ 2000000) :
    Calls Tryz.prog 61 #[ptr b, .agg c.toArray, .int .i64 deep] w (Did b w ts es e (wtE x) (match x with | .mk _ _ _ _ _ bs ks _ => if bs = [] ∨ ks = [] then .error 2 else seqO (.ok [wdT [108, 101, 116], sgT [123]]) (seqO (oL (oB (oE d)) bs) (seqO (.ok [sgT [125], wdT [105, 110]]) (oK (oE d) ks))))) := by
  obtain ⟨k, a, n, m, az, bs, ks, al⟩ := x
  simp only [isE] at I
  obtain ⟨vt, vb, vk, va, xb, xk, xa, rfl, IT, IB, IBS, IK, IKS, IA, IAS⟩ := I
  obtain ⟨g4, c4, rfl⟩ := row_len IT
  obtain ⟨g5, c5, rfl⟩ := row_len IB
  obtain ⟨g6, c6, rfl⟩ := row_len IK
  obtain ⟨g7, c7, rfl⟩ := row_len IA
  simp only [finE] at hf
  simp only [wtE] at hn ⊢
  have lt := P.lt
  have F0 := (Fp.refl b w).alloc (.cells #[.int .i64 k, .int .i64 a, .string (str n), .int .i64 m, .slice g4 az.length c4, .slice g5 bs.length c5, .slice g6 ks.length c6, .slice g7 al.length c7] 47)
  have X0 := Blk.fresh w #[.int .i64 k, .int .i64 a, .string (str n), .int .i64 m, .slice g4 az.length c4, .slice g5 bs.length c5, .slice g6 ks.length c6, .slice g7 al.length c7] 47
  have P0 := P.alloc (.cells #[.int .i64 k, .int .i64 a, .string (str n), .int .i64 m, .slice g4 az.length c4, .slice g5 bs.length c5, .slice g6 ks.length c6, .slice g7 al.length c7] 47)
  have HHE : Hid (ExpD d) := ⟨HE⟩
  by_cases hz : bs = [] ∨ ks = []
  · simp only [if_pos hz]
    have hbk : bs.length = 0 ∨ ks.length = 0 := hz.imp (fun z => by rw [z]; rfl) (fun z => by rw [z]; rfl)
    have Q := fail_any P0 2 (by decide)
    clear hz P IT IB IBS IK IKS IA IAS HE X0
    by_cases hb : bs.length = 0
    · have hb' : ((bs.length : Int) == 0) = true := beq_iff_eq.2 (by omega)
      clear hb hbk
      go_enter Tryz.func61, Tryz.ntmps61
      go_wp2_with (go_at_call 58; refine Q.mono ?_; rintro r w1 ⟨rfl, F1, ts1, e1, P1, A1, l1⟩)
      go_end0
      exact ⟨rfl, F0.trans F1, ts1, e1, P1, A1, by omega⟩
    · have hk : ks.length = 0 := hbk.resolve_left hb
      have hb' : ((bs.length : Int) == 0) = false := beq_eq_false_iff_ne.2 (by omega)
      have hk' : ((ks.length : Int) == 0) = true := beq_iff_eq.2 (by omega)
      clear hb hk hbk
      go_enter Tryz.func61, Tryz.ntmps61
      go_wp2_with (go_at_call 58; refine Q.mono ?_; rintro r w1 ⟨rfl, F1, ts1, e1, P1, A1, l1⟩)
      go_end0
      exact ⟨rfl, F0.trans F1, ts1, e1, P1, A1, by omega⟩
  simp only [if_neg hz]
  obtain ⟨x, kr, rfl⟩ : ∃ x r, ks = x :: r := by
    cases ks with
    | nil => exact absurd (.inr rfl) hz
    | cons x r => exact ⟨x, r, rfl⟩
  have hb : 0 < bs.length := List.length_pos_iff.2 (fun z => hz (.inl z))
  obtain ⟨kn, hkn⟩ : ∃ kn, (x :: kr).length = kn := ⟨_, rfl⟩
  have hkp : 0 < kn := by rw [← hkn]; simp
  rw [hkn] at IK X0 P0 F0 ⊢
  have HKK : Hid (IsRow w (fun g => g < b) xk kn (.slice g6 kn c6) ∧ isEs w (fun g => g < b) (x :: kr) xk) := ⟨⟨IK, IKS⟩⟩
  have HBB : Hid (IsRow w (fun g => g < b) xb bs.length (.slice g5 bs.length c5) ∧ isBs w (fun g => g < b) bs xb) := ⟨⟨IB, IBS⟩⟩
  have hfb := hf.2.2.1
  have hfk := finEs_head hf.2.2.2.1
  have hwk : wtE x ≤ wtEs (x :: kr) := by simp only [wtEs]; omega
  have b1 : ((bs.length : Int) == 0) = false := beq_eq_false_iff_ne.2 (by omega)
  have b2 : ((kn : Int) == 0) = false := beq_eq_false_iff_ne.2 (by omega)
  have HOK : Hid (oK (oE d) (x :: kr) = oE d x) := ⟨rfl⟩
  obtain ⟨OK', hOK⟩ : ∃ o, oK (oE d) (x :: kr) = o := ⟨_, rfl⟩
  rw [hOK] at HOK ⊢
  obtain ⟨W, hW⟩ : ∃ W, wtEs (x :: kr) = W := ⟨_, rfl⟩
  rw [hW] at hn hwk ⊢
  have hbl : bs.length ≤ 1000000000 := by obtain ⟨_, _, _, ⟨_, q⟩, _⟩ := IB; exact q
  have HF : Hid (finBs bs) := ⟨hfb⟩
  clear hz P IT IB IBS IK IKS IA IAS HE hf hfb hkn hOK hW
  go_enter Tryz.func61, Tryz.ntmps61
  go_wp2_with (first
    | (go_at_call_of 33 (Value.string { data := #[108, 101, 116] }); refine (word_at P0 #[108, 101, 116] (by decide) (by omega)).mono ?_; rintro r w1 ⟨rfl, F1, ts1, e1, P1, A1, l1⟩; have X1 := F1.oth _ _ _ X0 (by omega) (by decide) (by decide); have lt1 := P1.lt)
    | (go_at_call_of 36 (Value.string { data := #[123] }); refine (sign_at P1 #[123] (by decide) (by omega)).mono ?_; rintro r w2 ⟨rfl, F2, ts2, e2, P2, A2, l2⟩; have X2 := F2.oth _ _ _ X1 (by omega) (by decide) (by decide); have lt2 := P2.lt; have y25 : w2.cell? ⟨w.heap.size, 5, none⟩ = some (.slice g5 bs.length c5) := X2.cell 5))
  have F02 := (F0.trans F1).trans F2
  have HA2 : Hid (Aft ts e (.ok [wdT [108, 101, 116], sgT [123]]) ts2 e2) := ⟨A1.seq A2⟩
  have l02 : ts2.length ≤ ts.length + 2 := by omega
  clear F0 F1 F2 A1 A2 l1 l2 P1 X1 y25 P0 X0
  go_loopw [31] (fun c wr => ∃ i : Nat, c = .int .i64 i ∧ i ≤ bs.length ∧ Fp b w wr ∧ Blk wr w.heap.size #[.int .i64 k, .int .i64 a, .string (str n), .int .i64 m, .slice g4 az.length c4, .slice g5 bs.length c5, .slice g6 kn c6, .slice g7 al.length c7] 47 ∧ ∃ ts3 e3, Pr wr b ts3 es e3 ∧ Hid (Aft ts e (seqO (.ok [wdT [108, 101, 116], sgT [123]]) (oL (oB (oE d)) (bs.take i))) ts3 e3) ∧ Hid (ts3.length ≤ ts.length + 2 + wtBs (bs.take i))) (fun c _ => bs.length - (intOf c).toNat)
  case atStart => exact ⟨0, rfl, Nat.zero_le _, F02, X2, ts2, e2, P2, ⟨HA2.out.seq (Aft.nil _ _)⟩, ⟨by omega⟩⟩
  case round =>
    clear P2 HA2 F02 X2 l02 lt2
    obtain ⟨i, rfl, hi, F, X, ts3, e3, P3, HA, HL⟩ := hrel
    have lt3 := P3.lt
    by_cases hlt : i < bs.length
    · obtain ⟨g, off, rfl, hg, hx⟩ : ∃ g off, g5 = some ⟨g, off, none⟩ ∧ g < b ∧ ∀ j u, xb[j]? = some u → w.cell? ⟨g, off + j, none⟩ = some u := by
        obtain ⟨_, _, q, _, h⟩ := HBB.out.1
        cases q
        exact h (by omega)
      obtain ⟨dd, hd0, hdd⟩ := isBs_get bs xb HBB.out.2 i hlt
      have hwt := wtBs_take bs i hlt
      have hwl := wtBs_le bs (i + 1)
      have hfi := finBs_get bs HF.out i hlt
      have HT : Hid (oL (oB (oE d)) (bs.take (i + 1)) = seqO (oL (oB (oE d)) (bs.take i)) (oB (oE d) (bs[i]'hlt))) := ⟨oL_take _ _ _ hlt⟩
      have hlt' : (i : Int) < bs.length := by omega
      have HW : Hid (wtBs (bs.take (i + 1)) = wtBs (bs.take i) + wtB (bs[i]'hlt)) := ⟨hwt⟩
      have hwb : ts3.length + wtB (bs[i]'hlt) ≤ 2000000 := by have := HL.out; omega
      have HI : Hid (isB wr (fun g => g < b) (bs[i]'hlt) dd) := ⟨isB_keeps F.keeps _ _ hd0⟩
      obtain ⟨u1, u2, u3, u0, t1, t0, q3, q4, q5, q6, q7, p3, p4, p5, p6, p7, r3, r4, r5, r6, r7, rfl⟩ := isB_eleven hd0
      have z0 : wr.cell? ⟨g, off + i * 11, none⟩ = some (.string t0) := F.keeps.cell g _ _ hg (cells_at hx hdd 0 _ rfl)
      have z1 : wr.cell? ⟨g, off + i * 11 + 1, none⟩ = some (.int .i64 u0) := F.keeps.cell g _ _ hg (cells_at hx hdd 1 _ rfl)
      have z2 : wr.cell? ⟨g, off + i * 11 + 2, none⟩ = some (.slice q3 p3 r3) := F.keeps.cell g _ _ hg (cells_at hx hdd 2 _ rfl)
      have z3 : wr.cell? ⟨g, off + i * 11 + 3, none⟩ = some (.int .i64 u1) := F.keeps.cell g _ _ hg (cells_at hx hdd 3 _ rfl)
      have z4 : wr.cell? ⟨g, off + i * 11 + 4, none⟩ = some (.int .i64 u2) := F.keeps.cell g _ _ hg (cells_at hx hdd 4 _ rfl)
      have z5 : wr.cell? ⟨g, off + i * 11 + 5, none⟩ = some (.string t1) := F.keeps.cell g _ _ hg (cells_at hx hdd 5 _ rfl)
      have z6 : wr.cell? ⟨g, off + i * 11 + 6, none⟩ = some (.int .i64 u3) := F.keeps.cell g _ _ hg (cells_at hx hdd 6 _ rfl)
      have z7 : wr.cell? ⟨g, off + i * 11 + 7, none⟩ = some (.slice q4 p4 r4) := F.keeps.cell g _ _ hg (cells_at hx hdd 7 _ rfl)
      have z8 : wr.cell? ⟨g, off + i * 11 + 8, none⟩ = some (.slice q5 p5 r5) := F.keeps.cell g _ _ hg (cells_at hx hdd 8 _ rfl)
      have z9 : wr.cell? ⟨g, off + i * 11 + 9, none⟩ = some (.slice q6 p6 r6) := F.keeps.cell g _ _ hg (cells_at hx hdd 9 _ rfl)
      have z10 : wr.cell? ⟨g, off + i * 11 + 10, none⟩ = some (.slice q7 p7 r7) := F.keeps.cell g _ _ hg (cells_at hx hdd 10 _ rfl)
      have BY := Blk.fresh wr #[.string t0, .int .i64 u0, .slice q3 p3 r3, .int .i64 u1, .int .i64 u2, .string t1, .int .i64 u3, .slice q4 p4 r4, .slice q5 p5 r5, .slice q6 p6 r6, .slice q7 p7 r7] 51
      have P4 := P3.alloc (.cells #[.string t0, .int .i64 u0, .slice q3 p3 r3, .int .i64 u1, .int .i64 u2, .string t1, .int .i64 u3, .slice q4 p4 r4, .slice q5 p5 r5, .slice q6 p6 r6, .slice q7 p7 r7] 51)
      have F4 := F.alloc (.cells #[.string t0, .int .i64 u0, .slice q3 p3 r3, .int .i64 u1, .int .i64 u2, .string t1, .int .i64 u3, .slice q4 p4 r4, .slice q5 p5 r5, .slice q6 p6 r6, .slice q7 p7 r7] 51)
      have X4 := X.alloc (.cells #[.string t0, .int .i64 u0, .slice q3 p3 r3, .int .i64 u1, .int .i64 u2, .string t1, .int .i64 u3, .slice q4 p4 r4, .slice q5 p5 r5, .slice q6 p6 r6, .slice q7 p7 r7] 51)
      have Q := bind_any HHE.out P4 (bs[i]'hlt) _ (isB_keeps (keeps_below (Joins.below_alloc1 wr _) (fun _ h => h)) _ _ HI.out) hfi (deep + 1) (by omega) (by omega) hwb
      generalize bs[i]'hlt = y at *
      clear hx hdd hd0 HI P3 hwt hwl
      go_wp2_with (go_at_call 19; refine Q.mono ?_; rintro r w5 ⟨rfl, F5, ts5, e5, P5, A5, l5⟩)
      go_roundw
      case rel => exact ⟨i + 1, by go_num, by omega, F4.trans F5, F5.oth _ _ _ X4 (by omega) (by decide) (by decide), ts5, e5, P5, ⟨by rw [HT.out, ← seqO_assoc]; exact HA.out.seq A5⟩, ⟨by have := HL.out; have := HW.out; omega⟩⟩
      case measure => simp [intOf]; omega
    · have q1 : bs.take i = bs := List.take_of_length_le (by omega)
      rw [q1] at HA HL
      have hlt' : ¬ (i : Int) < bs.length := by omega
      have hl3 := HL.out
      obtain ⟨g, off, dd, rfl, hg, IE, hx⟩ := kid_at HKK.out.1 hkp HKK.out.2
      have HIE : Hid (isE w (fun g => g < b) x dd) := ⟨IE⟩
      obtain ⟨k0, a0, m0, s0, h4, h5, h6, h7, n4, n5, n6, n7, d4, d5, d6, d7, rfl⟩ := isE_eight IE
      have hkp' : (0 : Int) < kn := by omega
      clear IE
      go_wp2_with (first
        | (go_at_call_of 36 (Value.string { data := #[125] }); refine (sign_at P3 #[125] (by decide) (by omega)).mono ?_; rintro r w6 ⟨rfl, F6, ts6, e6, P6, A6, l6⟩; have X6 := F6.oth _ _ _ X (by omega) (by decide) (by decide); have lt6 := P6.lt)
        | (go_at_call_of 33 (Value.string { data := #[105, 110] }); refine (word_at P6 #[105, 110] (by decide) (by omega)).mono ?_; rintro r w7 ⟨rfl, F7, ts7, e7, P7, A7, l7⟩; have X7 := F7.oth _ _ _ X6 (by omega) (by decide) (by decide); have lt7 := P7.lt; have FF := (F.trans F6).trans F7; have y76 : w7.cell? ⟨w.heap.size, 6, none⟩ = some (.slice (some ⟨g, off, none⟩) kn c6) := X7.cell 6; have v0 : w7.cell? ⟨g, off, none⟩ = some (.int .i64 k0) := FF.keeps.cell g _ _ hg (hx 0 _ rfl); have v1 : w7.cell? ⟨g, off + 1, none⟩ = some (.int .i64 a0) := FF.keeps.cell g _ _ hg (hx 1 _ rfl); have v2 : w7.cell? ⟨g, off + 2, none⟩ = some (.string s0) := FF.keeps.cell g _ _ hg (hx 2 _ rfl); have v3 : w7.cell? ⟨g, off + 3, none⟩ = some (.int .i64 m0) := FF.keeps.cell g _ _ hg (hx 3 _ rfl); have v4 : w7.cell? ⟨g, off + 4, none⟩ = some (.slice h4 n4 d4) := FF.keeps.cell g _ _ hg (hx 4 _ rfl); have v5 : w7.cell? ⟨g, off + 5, none⟩ = some (.slice h5 n5 d5) := FF.keeps.cell g _ _ hg (hx 5 _ rfl); have v6 : w7.cell? ⟨g, off + 6, none⟩ = some (.slice h6 n6 d6) := FF.keeps.cell g _ _ hg (hx 6 _ rfl); have v7 : w7.cell? ⟨g, off + 7, none⟩ = some (.slice h7 n7 d7) := FF.keeps.cell g _ _ hg (hx 7 _ rfl))
        | (go_at_call 38; refine (HHE.out _ b ts7 es e7 P7 x _ (isE_keeps FF.keeps x _ HIE.out) hfk (deep + 1) (by omega) (by omega) (by omega)).mono ?_; rintro r w8 ⟨rfl, F8, ts8, e8, P8, A8, l8⟩))
      go_end0
      refine ⟨rfl, FF.trans F8, ts8, e8, P8, ?_, by omega⟩
      have AA := HA.out.seq ((A6.seq A7).seq A8)
      rw [seqO_assoc] at AA
      rw [HOK.out]
      exact AA
end

end Go.Proofs.YtofgnpehlheeiaaGreatDoor
