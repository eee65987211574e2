/- Package heap: Lay. -/
import Derived.Test.YtbdoekffadmejaaGreatDoorHmk
namespace Go.Proofs.YtbdoekffadmejaaGreatDoor
open Go.RowKit
set_option linter.unusedVariables false
set_option linter.unusedSimpArgs false
set_option maxRecDepth 100000

/-- Words that are written one behind the other. -/
def putW (xs : List Int) (o : Int) : List Int → List Int
  | [] => xs
  | y :: l => putW (Bp.Ar.writeL xs o y) (o + 1) l
theorem putW_snoc : ∀ (l : List Int) (xs : List Int) (o y : Int), putW xs o (l ++ [y]) = Bp.Ar.writeL (putW xs o l) (o + l.length) y
  | [], xs, o, y => by simp [putW]
  | z :: l, xs, o, y => by
    simp only [List.cons_append, putW, List.length_cons]
    rw [putW_snoc l]
    congr 1
    omega
theorem putW_len : ∀ (l : List Int) (xs : List Int) (o : Int), (putW xs o l).length = xs.length
  | [], xs, o => rfl
  | z :: l, xs, o => by simp only [putW]; rw [putW_len l, write_len]
theorem putW_take (xs : List Int) (o : Int) (l : List Int) (j : Nat) (h : j < l.length) : putW xs o (l.take (j + 1)) = Bp.Ar.writeL (putW xs o (l.take j)) (o + j) l[j] := by
  rw [List.take_succ_eq_append_getElem h, putW_snoc]
  congr 1
  simp; omega
/-- What Lay leaves. -/
def layX (xs : List Int) (t x i p n : Int) (ps ns : List Int) : List Int := putW (putW (Bp.Ar.writeL xs t (Wo.packW x i p n)) (t + 1) ps) (t + 1 + p) ns
def Hs.lays (H : Hs) (x i p n : Int) (ps ns : List Int) : Hs :=
  { H.placed 0 0 (1 + p + n) with xs := layX (H.placed 0 0 (1 + p + n)).xs (H.layA 0 0 (1 + p + n)) x i p n ps ns }
/-- A heap's own blocks. -/
abbrev hTn (t : Tg) : Prop := ¬ safe t
theorem tl_hTn {σ : Nat} {t : Tg} (h : Tl σ t) : hTn t := by
  rcases h with rfl | rfl | rfl | rfl | rfl <;> (rintro (e | ⟨n, e⟩) <;> cases e)
theorem tm_hTn {σ : Nat} {t : Tg} (h : Tm σ t) : hTn t := by
  rcases h with h | rfl
  · exact tl_hTn h
  · rintro (e | ⟨n, e⟩) <;> cases e
theorem tar_hTn {t : Tg} (h : tar t) : hTn t := by
  cases h; rintro (e | ⟨n, e⟩) <;> cases e
theorem wrong_ok {H : Hs} {x i p n : Int} {ps : List Int} {ns : Nat} (h : wrongE H x i p n ps ns = 0) : Sh.rightE x i p n = 0 ∧ (ps.length : Int) = p ∧ (ns : Int) = n ∧ ∀ y ∈ ps, mayP H y = true := by
  unfold wrongE at h
  split at h
  · omega
  · split at h
    · omega
    · split at h
      · rename_i h1 h2 h3
        exact ⟨by omega, by omega, by omega, fun y hy => List.all_eq_true.1 h3 y hy⟩
      · omega
theorem may_in {w : World} {γ : Nat → Tg} {h : Nat} {k : Value} {A : Ad} {H : Hs} (q : Hm w γ h k A H) {y : Int} (m : mayP H y = true) : 0 ≤ y ∧ y ≤ 1000000 := by
  unfold mayP at m
  rw [Bool.or_eq_true] at m
  rcases m with e | e
  · simp at e; omega
  · unfold isC at e
    obtain ⟨v, hv⟩ := Option.isSome_iff_exists.1 e
    have := q.dom y v.1 v.2 hv
    have := q.ok.b
    omega
section
variable {w : World} {γ : Nat → Tg} {h : Nat} {A : Ad} {H : Hs}
theorem lay_wrong (q : Hm w γ h (.pointer none) A H) (x i p n : Int) {vp vn : Value} {ps ns : List Int} (hp : LsA w γ .i64 vp ps) (hn : LsA w γ .u64 vn ns) (hI : ∀ y ∈ ps, isI y) (hl : ps.length ≤ 1000000 ∧ ns.length ≤ 9223372036854775807)
    (E : wrongE H x i p n ps ns.length ≠ 0) :
    Calls Tryz.prog 20 #[pt h, hd x i p n, vp, vn] w fun e w' => e = .returned (.tuple #[.int .i64 0, .int .i64 (wrongE H x i p n ps ns.length)]) ∧ Below w.heap.size w w' := by
  have B0 := (Below.refl _ w).alloc (Nat.le_refl _) (.cells #[.int .i64 x, .int .i64 i, .int .i64 p, .int .i64 n] 30)
  have q0 := q.later B0
  have RS := (sg_rest q0).rest
  have WR := wrong_any q0 x i p n (hp.later B0) (hn.later B0) hI hl
  have b0 : (wrongE H x i p n ps ns.length != 0) = true := by simpa using E
  have HB := Hid.mk B0
  generalize wrongE H x i p n ps ns.length = y at *
  clear q q0 E B0 hp hn hI hl
  go_enter Tryz.func20, Tryz.ntmps20
  go_wp2_with (first
    | (go_at_call 58; refine RS.mono ?_; rintro e w1 ⟨rfl, hw⟩; rw [hw]; clear hw)
    | (go_at_call 59; refine WR.mono ?_; rintro e w1 ⟨rfl, B1⟩))
  go_ret2
  exact ⟨rfl, HB.out.trans (B1.mono HB.out.size)⟩
set_option maxHeartbeats 1000000 in
theorem lay_full (q : Hm w γ h (.pointer none) A H) (x i p n : Int) {vp vn : Value} {ps ns : List Int} (hp : LsA w γ .i64 vp ps) (hn : LsA w γ .u64 vn ns) (hI : ∀ y ∈ ps, isI y) (hl : ps.length ≤ 1000000 ∧ ns.length ≤ 9223372036854775807)
    (E : wrongE H x i p n ps ns.length = 0) (hL : (H.sp 0 0).l.length ≤ 1000) (hE : H.layE 0 0 (1 + p + n) ≠ 0) :
    Calls Tryz.prog 20 #[pt h, hd x i p n, vp, vn] w fun e w' => e = .returned (.tuple #[.int .i64 0, .int .i64 (H.layE 0 0 (1 + p + n))]) ∧ ∃ γ', Fr hTn w w' γ γ' ∧ Hm w' γ' h (.pointer none) A (H.laid 0 0 (1 + p + n)) := by
  have B0 := (Below.refl _ w).alloc (Nat.le_refl _) (.cells #[.int .i64 x, .int .i64 i, .int .i64 p, .int .i64 n] 30)
  have hb0 := heap_alloc_new w (.cells #[.int .i64 x, .int .i64 i, .int .i64 p, .int .i64 n] 30)
  have q0 := q.later B0
  have RS := (sg_rest q0).rest
  have WR := wrong_any q0 x i p n (hp.later B0) (hn.later B0) hI hl
  rw [E] at WR
  have wo := wrong_ok E
  have SZ := fun (W : World) (b : Below (w.alloc (.cells #[.int .i64 x, .int .i64 i, .int .i64 p, .int .i64 n] 30)).heap.size (w.alloc (.cells #[.int .i64 x, .int .i64 i, .int .i64 p, .int .i64 n] 30)) W) => Sh.size_any x i p n W (q0.later b).gl.tb
  rw [show Sh.sizeN x i p n = 1 + p + n by simp [Sh.sizeN, wo.1]] at SZ
  have g0 := q.ok.g
  have RM := fun (W : World) (b : Below (w.alloc (.cells #[.int .i64 x, .int .i64 i, .int .i64 p, .int .i64 n] 30)).heap.size (w.alloc (.cells #[.int .i64 x, .int .i64 i, .int .i64 p, .int .i64 n] 30)) W) => room_no (q0.later b) (g := 0) (s := 0) (by omega) (by have := q.ok.n 0; omega) hL (1 + p + n) hE
  have y0 : (H.layE 0 0 (1 + p + n) != 0) = true := by simpa using hE
  have HB := Hid.mk B0
  have HF : Hid (Fr hTn w (w.alloc (.cells #[.int .i64 x, .int .i64 i, .int .i64 p, .int .i64 n] 30)) γ γ) := ⟨Fr.later _ _ B0⟩
  generalize H.layE 0 0 (1 + p + n) = y at *
  generalize H.laid 0 0 (1 + p + n) = H2 at *
  generalize 1 + p + n = sz at *
  clear q q0 E B0 hp hn hI hl wo hE
  go_enter Tryz.func20, Tryz.ntmps20
  go_wp2_with (first
    | (go_at_call 58; refine RS.mono ?_; rintro e w1 ⟨rfl, hw⟩; rw [hw]; clear hw)
    | (go_at_call 59; refine WR.mono ?_; rintro e w1 ⟨rfl, B1⟩; have S1 := SZ _ B1; have HB1 := Hid.mk B1; have b1 := (B1.block w.heap.size (by simp)).trans hb0; have p0 := hd4 b1 0; have p1 := hd4 b1 1; have p2 := hd4 b1 2; have p3 := hd4 b1 3; simp only [List.getElem?_toArray, List.getElem?_cons_zero, List.getElem?_cons_succ] at p0 p1 p2 p3; clear b1 B1 SZ)
    | (go_at_call 61; refine S1.mono ?_; rintro e w2 ⟨rfl, B2⟩; have HB2 := Hid.mk (HB1.out.trans (B2.mono HB1.out.size)); have R1 := RM _ HB2.out; clear RM B2)
    | (go_at_call 60; refine R1.mono ?_; rintro e w3 ⟨rfl, γ1, F1, Q1⟩; have HF1 := Hid.mk F1; have HQ1 := Hid.mk Q1; clear F1 Q1))
  go_ret2
  exact ⟨rfl, γ1, HF.out.trans ((Fr.later _ _ HB2.out).trans (HF1.out.mono (fun t e => tl_hTn e))), HQ1.out⟩
theorem hd_cells {W : World} {b : Nat} {x i p n : Int} (h : W.heap[b]? = some (.cells #[.int .i64 x, .int .i64 i, .int .i64 p, .int .i64 n] 30 (0, 0))) :
    W.cell? ⟨b, 0, none⟩ = some (.int .i64 x) ∧ W.cell? ⟨b, 1, none⟩ = some (.int .i64 i) ∧ W.cell? ⟨b, 2, none⟩ = some (.int .i64 p) ∧ W.cell? ⟨b, 3, none⟩ = some (.int .i64 n) :=
  ⟨hd4 h 0, hd4 h 1, hd4 h 2, hd4 h 3⟩
theorem LsA.item {w : World} {γ : Nat → Tg} {kd : IntKind} {ga : Option Addr} {k ca : Nat} {xs : List Int} (h : LsA w γ kd (.slice ga k ca) xs) {j : Nat} (hj : j < xs.length) : ∃ b o, ga = some ⟨b, o, none⟩ ∧ w.cell? ⟨b, o + j, none⟩ = some (.int kd xs[j]) := by
  obtain ⟨g1, c1, e, q⟩ := h
  cases e
  obtain ⟨b, o, e2, c, _⟩ := q j hj
  refine ⟨b, o, e2, ?_⟩
  rw [c, List.getD_eq_getElem?_getD, List.getElem?_eq_getElem hj]; rfl
theorem putW_nil (xs : List Int) (o : Int) : putW xs o [] = xs := rfl
set_option maxHeartbeats 2000000 in
theorem lay_yes (q : Hm w γ h (.pointer none) A H) (x i p n : Int) {vp vn : Value} {ps ns : List Int} (hp : LsA w γ .i64 vp ps) (hn : LsA w γ .u64 vn ns) (hI : ∀ y ∈ ps, isI y) (hN : ∀ y ∈ ns, 0 ≤ y ∧ y ≤ 18446744073709551615) (hl : ps.length ≤ 1000000 ∧ ns.length ≤ 1000000)
    (E : wrongE H x i p n ps ns.length = 0) (hL : (H.sp 0 0).l.length ≤ 1000) (hE : H.layE 0 0 (1 + p + n) = 0) (hwn : A.wn ≤ 1000000) :
    Calls Tryz.prog 20 #[pt h, hd x i p n, vp, vn] w fun e w' => e = .returned (.tuple #[.int .i64 (H.layA 0 0 (1 + p + n)), .int .i64 0]) ∧ ∃ γ', Fr hTn w w' γ γ' ∧ Hm w' γ' h (.pointer none) A.more (H.lays x i p n ps ns) := by
  have q0 := q.alloc (.cells #[.int .i64 x, .int .i64 i, .int .i64 p, .int .i64 n] 30) (.x 0)
  have F0 := Fr.alloc hTn w γ (.cells #[.int .i64 x, .int .i64 i, .int .i64 p, .int .i64 n] 30) (.x 0)
  have tb : tagd γ w.heap.size (.x 0) w.heap.size = .x 0 := tagd_same _ _ _
  have hb0 := heap_alloc_new w (.cells #[.int .i64 x, .int .i64 i, .int .i64 p, .int .i64 n] 30)
  have RS := (sg_rest q0).rest
  have hp0 := hp.fr F0 (fun u s k => k s)
  have hn0 := hn.fr F0 (fun u s k => k s)
  have WR := wrong_any q0 x i p n hp0 hn0 hI ⟨hl.1, by omega⟩
  rw [E] at WR
  have wo := wrong_ok E
  have pin : 0 ≤ p ∧ p ≤ 1000000 ∧ 0 ≤ n ∧ n ≤ 1000000 := by have := wo.2.1; have := wo.2.2.1; omega
  have SZ := fun (W : World) (b : Below (w.alloc (.cells #[.int .i64 x, .int .i64 i, .int .i64 p, .int .i64 n] 30)).heap.size (w.alloc (.cells #[.int .i64 x, .int .i64 i, .int .i64 p, .int .i64 n] 30)) W) => Sh.size_any x i p n W (q0.later b).gl.tb
  rw [show Sh.sizeN x i p n = 1 + p + n by simp [Sh.sizeN, wo.1]] at SZ
  have g0 := q.ok.g
  have RM := fun (W : World) (b : Below (w.alloc (.cells #[.int .i64 x, .int .i64 i, .int .i64 p, .int .i64 n] 30)).heap.size (w.alloc (.cells #[.int .i64 x, .int .i64 i, .int .i64 p, .int .i64 n] 30)) W) => room_ok (q0.later b) (g := 0) (s := 0) (by omega) (by have := q.ok.n 0; omega) hL (1 + p + n) hE hwn
  have ps0 := lay_pos q.zero (q.fit 0 0 (by omega) (by have := q.ok.n 0; omega)).nx hE
  have bb := q.ok.b
  have tin : 1 ≤ H.layA 0 0 (1 + p + n) ∧ H.layA 0 0 (1 + p + n) ≤ 300000 := ⟨ps0.1, by have := ps0.2.1; have := ps0.2.2.1; unfold Hs.layA; omega⟩
  have HPI : Hid (∀ y ∈ ps, 0 ≤ y ∧ y ≤ 1000000) := ⟨fun y hy => may_in q (wo.2.2.2 y hy)⟩
  have HNI := Hid.mk hN
  unfold Hs.lays layX
  have HWO := Hid.mk wo
  have HP0 := Hid.mk hp0
  have HN0 := Hid.mk hn0
  have HF := Hid.mk F0
  have SH := fun (W : World) (γ1 : Nat → Tg) (H1 : Hs) (Q : Hm W γ1 h (.pointer none) A.more H1) => sethd_any Q (H.layA 0 0 (1 + p + n)) x i p n (by omega)
  generalize H.layA 0 0 (1 + p + n) = t at *
  generalize H.placed 0 0 (1 + p + n) = H2 at *
  generalize 1 + p + n = sz at *
  obtain ⟨ga, ca, rfl, _⟩ := hp
  obtain ⟨gb, cb, rfl, _⟩ := hn
  obtain ⟨m, hm⟩ : ∃ m, ps.length = m := ⟨_, rfl⟩
  obtain ⟨m2, hm2⟩ : ∃ m, ns.length = m := ⟨_, rfl⟩
  have HM := Hid.mk hm
  have HM2 := Hid.mk hm2
  rw [hm] at hl HP0 HWO ⊢
  rw [hm2] at hl HN0 HWO ⊢
  rw [hm, hm2] at WR
  have e1 : IntKind.i64.wrap (t + 1) = t + 1 := by rw [IntKind.wrap_i64]; omega
  have e2 : IntKind.i64.wrap (t + 1 + p) = t + 1 + p := by rw [IntKind.wrap_i64]; omega
  clear q q0 E hp0 hn0 hI hN wo hE F0 ps0 hm hm2 g0 bb hL
  go_enter Tryz.func20, Tryz.ntmps20
  go_wp2_with (first
    | (go_at_call 58; refine RS.mono ?_; rintro e w1 ⟨rfl, hw⟩; rw [hw]; clear hw RS)
    | (go_at_call 59; refine WR.mono ?_; rintro e w1 ⟨rfl, B1⟩; have S1 := SZ _ B1; have HB1 := Hid.mk B1; have b1 := (B1.block w.heap.size (by simp)).trans hb0; obtain ⟨p0, p1, p2, p3⟩ := hd_cells b1; have HX1 := Hid.mk b1; clear b1 B1 SZ WR)
    | (go_at_call 61; refine S1.mono ?_; rintro e w2 ⟨rfl, B2⟩; have HB2 := Hid.mk (HB1.out.trans (B2.mono HB1.out.size)); have R1 := RM _ HB2.out; have HX2 := Hid.mk ((B2.block w.heap.size (lt_of HX1.out)).trans HX1.out); clear RM B2 S1)
    | (go_at_call 60; refine R1.mono ?_; rintro e w3 ⟨rfl, γ1, F1, Q1⟩; have HF1 : Hid (Fr hTn w w3 γ γ1) := ⟨HF.out.trans ((Fr.later hTn _ HB2.out).trans (F1.mono (fun t e => tm_hTn e)))⟩; have HF2 : Hid (Fr hTn (w.alloc (.cells #[.int .i64 x, .int .i64 i, .int .i64 p, .int .i64 n] 30)) w3 (tagd γ w.heap.size (.x 0)) γ1) := ⟨(Fr.later hTn _ HB2.out).trans (F1.mono (fun t e => tm_hTn e))⟩; have b3 := F1.at_ HX2.out (by rw [tb]; intro e; rcases e with (e | e | e | e | e) | e <;> cases e); have HX3 := Hid.mk b3; have tx := Hid.mk (F1.tg (lt_of HX2.out) tb); obtain ⟨r0, r1, r2, r3⟩ := hd_cells b3; have S2 := SH _ _ _ Q1; have HQ1 := Hid.mk Q1; clear F1 Q1 R1 b3 SH)
    | (go_at_call 62; refine S2.mono ?_; rintro e w5 ⟨rfl, w4, B4, Q5, F5⟩; have HQ5 := Hid.mk Q5; have HF5 : Hid (Fr hTn w3 w5 γ1 γ1) := ⟨(Fr.later hTn _ B4).trans (F5.mono (fun t e => tar_hTn e))⟩; clear B4 F5 S2 Q5))
  have HL1 := Hid.mk (HP0.out.fr (HF2.out.trans HF5.out) (fun u s k => k s))
  have HL2 := Hid.mk (HN0.out.fr (HF2.out.trans HF5.out) (fun u s k => k s))
  have HX5 := Hid.mk (HF5.out.at_ HX3.out (by rw [tx.out]; intro k; exact k (.inr ⟨0, rfl⟩)))
  have HFW := Hid.mk (HF1.out.trans HF5.out)
  clear HP0 HN0 HF HF1 HF2 HX3 HF5 r0 r1 r2 r3 p0 p1 p2 p3 hb0 HX1 HX2 HB1 HB2 HQ1
  go_loopw [48] (fun i' wr => ∃ j : Nat, i' = .int .i64 j ∧ j ≤ m ∧ Hid (Hm wr γ1 h (.pointer none) A.more { H2 with xs := putW (Bp.Ar.writeL H2.xs t (Wo.packW x i p n)) (t + 1) (ps.take j) }) ∧ Hid (Fr hTn w5 wr γ1 γ1)) (fun i' _ => m - (RowKit.intOf i').toNat)
  case atStart => exact ⟨0, rfl, Nat.zero_le _, HQ5, ⟨Fr.refl _ _ _⟩⟩
  case round =>
    obtain ⟨j, rfl, hj, HQr, HFr⟩ := hrel
    by_cases hlt : j < m
    · have hlt' : (j : Int) < m := by omega
      have hjl : j < ps.length := by rw [HM.out]; exact hlt
      obtain ⟨b, o, rfl, ck⟩ := (HL1.out.fr HFr.out (fun u s k => k s)).item hjl
      have vb := HPI.out _ (List.getElem_mem hjl)
      have HT := Hid.mk (putW_take (Bp.Ar.writeL H2.xs t (Wo.packW x i p n)) (t + 1) ps j hjl)
      generalize ps[j] = v at ck vb HT
      have ST := setptr_any HQr.out t j v (by omega) (by omega) vb
      go_wp2_with (go_at_call 63; refine ST.mono ?_; rintro e w6 ⟨rfl, Q6, F6⟩; have HQ6 : Hid (Hm w6 γ1 h (.pointer none) A.more { H2 with xs := putW (Bp.Ar.writeL H2.xs t (Wo.packW x i p n)) (t + 1) (ps.take (j + 1)) }) := ⟨by rw [HT.out]; exact Q6⟩; have HF6 := Hid.mk (HFr.out.trans (F6.mono (fun t e => tar_hTn e))); clear Q6 F6)
      go_roundw
      case rel => exact ⟨j + 1, by go_num, by omega, HQ6, HF6⟩
      case measure => simp [RowKit.intOf]; omega
    · obtain rfl : m = j := by omega
      have HQ7 : Hid (Hm wr γ1 h (.pointer none) A.more { H2 with xs := putW (Bp.Ar.writeL H2.xs t (Wo.packW x i p n)) (t + 1) ps }) := ⟨by have := HQr.out; rwa [List.take_of_length_le (by rw [HM.out]; exact Nat.le_refl _)] at this⟩
      have HL3 := Hid.mk (HL2.out.fr HFr.out (fun u s k => k s))
      have HX7 := Hid.mk (HFr.out.at_ HX5.out (by rw [tx.out]; intro k; exact k (.inr ⟨0, rfl⟩)))
      clear HQr
      go_wp2
      go_loopw [61] (fun i' wq => ∃ j : Nat, i' = .int .i64 j ∧ j ≤ m2 ∧ Hid (Hm wq γ1 h (.pointer none) A.more { H2 with xs := putW (putW (Bp.Ar.writeL H2.xs t (Wo.packW x i p n)) (t + 1) ps) (t + 1 + p) (ns.take j) }) ∧ Hid (Fr hTn wr wq γ1 γ1)) (fun i' _ => m2 - (RowKit.intOf i').toNat)
      case atStart => exact ⟨0, rfl, Nat.zero_le _, HQ7, ⟨Fr.refl _ _ _⟩⟩
      case round =>
        obtain ⟨j2, rfl, hj2, HQr, HFq⟩ := hrel
        by_cases hlt : j2 < m2
        · have hlt' : (j2 : Int) < m2 := by omega
          have hjl : j2 < ns.length := by rw [HM2.out]; exact hlt
          obtain ⟨b, o, rfl, ck⟩ := (HL3.out.fr HFq.out (fun u s k => k s)).item hjl
          have vb := HNI.out _ (List.getElem_mem hjl)
          have HT := Hid.mk (putW_take (putW (Bp.Ar.writeL H2.xs t (Wo.packW x i p n)) (t + 1) ps) (t + 1 + p) ns j2 hjl)
          generalize ns[j2] = v at ck vb HT
          have ST := write_hm (HQr.out.later (below_drew1 _)) (t + 1 + p + j2) v vb
          have c6 := HQr.out.ca
          have b8 := HFq.out.at_ HX7.out (by rw [tx.out]; intro k; exact k (.inr ⟨0, rfl⟩))
          obtain ⟨r0, r1, r2, r3⟩ := hd_cells b8
          have e3 : IntKind.i64.wrap (t + 1 + p + j2) = t + 1 + p + j2 := by rw [IntKind.wrap_i64]; omega
          clear b8
          go_wp2
          go_region_held3 (fun wx => wx.cell? ⟨h, 6, none⟩ = some (pt A.a) ∧ wx.cell? ⟨w.heap.size, 2, none⟩ = some (.int .i64 p)) (go_keep) (first | (go_at_call 64; refine ST.mono ?_; rintro e w6 ⟨⟨z, rfl⟩, Q6, F6⟩; have HQ6 : Hid (Hm w6 γ1 h (.pointer none) A.more { H2 with xs := putW (putW (Bp.Ar.writeL H2.xs t (Wo.packW x i p n)) (t + 1) ps) (t + 1 + p) (ns.take (j2 + 1)) }) := ⟨by rw [HT.out]; exact Q6⟩; have HF6 := Hid.mk (HFq.out.trans (show Fr hTn wr w6 γ1 γ1 from (Fr.later hTn γ1 (below_drew1 wr)).trans (F6.mono (fun t e => tar_hTn e)))); have c61 := Q6.ca; have r21 := cell_fr F6 (w := wr.drew) r2 (by rw [tx.out]; nofun); clear Q6 F6))
          go_wp2
          go_roundw
          case rel => exact ⟨j2 + 1, by go_num, by omega, HQ6, HF6⟩
          case measure => simp [RowKit.intOf]; omega
        · obtain rfl : m2 = j2 := by omega
          have HQ8 : Hid (Hm wr γ1 h (.pointer none) A.more { H2 with xs := putW (putW (Bp.Ar.writeL H2.xs t (Wo.packW x i p n)) (t + 1) ps) (t + 1 + p) ns }) := ⟨by have := HQr.out; rwa [List.take_of_length_le (by rw [HM2.out]; exact Nat.le_refl _)] at this⟩
          clear HQr
          go_wp2
          go_ret2
          exact ⟨rfl, γ1, HFW.out.trans (HFr.out.trans HFq.out), HQ8.out⟩
end
end Go.Proofs.YtbdoekffadmejaaGreatDoor
