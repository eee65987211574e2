/-
  The statement BumpFrees: what is given back is there again, and a space that was freed lays as a new one.
  Conditions: none on the input.
-/
import Derived.Test.YtcallmfdigfhnaaBpo
namespace Go.Proofs.Ytcallmfdigfhnaa.bumpFrees
open Go.ChangeShapes Go.WideShapes Go.ChangeAt Go.RowKit
set_option linter.unusedVariables false

theorem below_drew (w : World) : Below w.heap.size w w.drew := ⟨rfl, rfl, rfl, Nat.le_refl _, fun _ _ => rfl⟩
theorem far_of {s p a m pb ab : Nat} {v : Value} {s' p' a' m' pb' ab' : Nat} {v' : Value} {n : Nat} (h1 : ∀ k, own5 s p a m pb ab v k → k < n) (h2 : ∀ k, own5 s' p' a' m' pb' ab' v' k → n ≤ k) : Far s p a m pb ab v s' p' a' m' pb' ab' v' := fun k q1 q2 => by
  have := h1 k q1
  have := h2 k q2
  omega
theorem los {w0 W : World} {q p pb a ab y yb c N M : Nat} {f : Nat → Int} {ws : List Int} {s m x : Nat → Nat} (h : Wd w0 W q p pb a ab y yb c N f ws M s m x 2) : ∀ k, own5 (s 0) p a (m 0) pb ab nilS k → w0.heap.size ≤ k := by
  have l := h.lo
  have u := h.up
  have t := h.hi 0 (by omega)
  rintro k (((z | z | z) | z | z) | z | z)
  · omega
  · omega
  · simp [Value.ownBlock] at z
  · omega
  · omega
  · omega
  · omega
structure Qf (B q s m pb ab : Nat) : Prop where
  lt : q < B
  ns : q ≠ s
  nm : q ≠ m
  np : q ≠ pb
  na : q ≠ ab
theorem Qf.of {B q s m pb ab n : Nat} (h : q < n) (l : n ≤ B ∧ n ≤ s ∧ n ≤ m ∧ n ≤ pb ∧ n ≤ ab) : Qf B q s m pb ab := ⟨by omega, by omega, by omega, by omega, by omega⟩
theorem Qf.map {B q s m pb ab m1 n : Nat} (h : Qf B q s m pb ab) (hB : B ≤ n) (hm : n ≤ m1) : Qf B q s m1 pb ab := ⟨h.lt, h.ns, by have := h.lt; omega, h.np, h.na⟩
theorem stayq {B : Nat} {W W' : World} {s p a m pb ab N M q : Nat} {v : Value} {S : S0} {f : Nat → Int} {xs : List Int} (h : Sy B W s p a m pb ab N M v S f xs) (c : Chg (lx s m v pb ab) W W') (hq : Qf B q s m pb ab) : W'.heap[q]? = W.heap[q]? := h.stays c hq.lt hq.ns hq.nm hq.np hq.na
theorem layd {B : Nat} {W : World} {s p a m pb ab N M : Nat} {v : Value} {S : S0} {f : Nat → Int} {xs : List Int} (h : Sy B W s p a m pb ab N M v S f xs) (hl : S.l.length ≤ 1000) (n : Int) (q BB o : Nat) (c1 c2 : Value) (k1 : W.cell? ⟨q, 2, none⟩ = some c1) (k2 : W.cell? ⟨BB, o, none⟩ = some c2) (hq : Qf B q s m pb ab) (hb : Qf B BB s m pb ab) :
    Calls Try.prog 13 #[.pointer (some ⟨s, 0, none⟩), .int .i64 n] W.drew fun e w' => ∃ A E, e = .returned (.tuple #[.int .i64 A, .int .i64 E]) ∧ Hid (A = layA f N M S.nx n ∧ E = layE f N M S.nx n ∧ ∃ v', Sy B w' s p a m pb ab N M v' (layS f N M S n) (layF f N M S.nx n) (layW f N M S.nx n xs) ∧ (∀ k, v'.ownBlock = some k → v.ownBlock = some k ∨ W.heap.size ≤ k) ∧ Chg (lx s m v pb ab) W w') ∧ w'.cell? ⟨q, 2, none⟩ = some c1 ∧ w'.cell? ⟨BB, o, none⟩ = some c2 := by
  have T := h.later (W' := W.drew) (below_drew W)
  refine (T.lay hl n).mono ?_
  rintro e w' ⟨rfl, v', q1, q2, q3⟩
  have q4 : Chg (lx s m v pb ab) W w' := ⟨q3.os, q3.tape, q3.output, q3.size, q3.block⟩
  refine ⟨_, _, rfl, ⟨rfl, rfl, v', q1, q2, q4⟩, ?_, ?_⟩
  · exact (World.cell?_of_block (w := W) (a := ⟨q, 2, none⟩) (stayq h q4 hq)).trans k1
  · exact (World.cell?_of_block (w := W) (a := ⟨BB, o, none⟩) (stayq h q4 hb)).trans k2
structure St (w w2 : World) (B q q' s0 p a m1 pb ab t0 p' a' u0 pb' ab' N K : Nat) (v1 v2 : Value) (S : S0) (f : Nat → Int) (xs ys : List Int) (W : World) : Prop where
  yw : Sy B W s0 p a m1 pb ab N K v1 S f xs
  yv : Sy B W t0 p' a' u0 pb' ab' N K v2 S f ys
  far : Far s0 p a m1 pb ab v1 t0 p' a' u0 pb' ab' v2
  bel : Below w.heap.size w W
  eq : W.heap[q]? = w2.heap[q]?
  eq' : W.heap[q']? = w2.heap[q']?
  hq : q < B
  hq' : q' < B
theorem St.later {w w2 : World} {B q q' s0 p a m1 pb ab t0 p' a' u0 pb' ab' N K : Nat} {v1 v2 : Value} {S : S0} {f : Nat → Int} {xs ys : List Int} {W W' : World} (h : St w w2 B q q' s0 p a m1 pb ab t0 p' a' u0 pb' ab' N K v1 v2 S f xs ys W) (b : Below W.heap.size W W') : St w w2 B q q' s0 p a m1 pb ab t0 p' a' u0 pb' ab' N K v1 v2 S f xs ys W' :=
  ⟨h.yw.later b, h.yv.later b, h.far, h.bel.trans (b.mono h.bel.size), (b.block q (Nat.lt_of_lt_of_le h.hq h.yw.hB)).trans h.eq, (b.block q' (Nat.lt_of_lt_of_le h.hq' h.yw.hB)).trans h.eq', h.hq, h.hq'⟩
set_option maxRecDepth 100000 in
set_option maxHeartbeats 8000000 in
theorem walk (a0 : Int) (ad : Option Addr) (len cap : Nat) (ad2 : Option Addr) (len2 cap2 : Nat) (w : World) (h0 : 0 ≤ a0 ∧ a0 ≤ 255) (hl : IsActs w ad len) (hl2 : IsActs w ad2 len2) :
    Calls Try.prog 6 #[.int .u8 a0, .slice ad len cap, .slice ad2 len2 cap2] w fun e w' => e = .returned (.bool true) ∧ Below w.heap.size w w' := by
  obtain ⟨n, rfl⟩ : ∃ n : Nat, a0 = n := ⟨a0.toNat, by omega⟩
  have hm : len ≤ 9223372036854775807 := by have := hl.1; unfold maxLen at this; exact this
  have hm2 : len2 ≤ 9223372036854775807 := by have := hl2.1; unfold maxLen at this; exact this
  have HL := Hid.mk hl
  have HL2 := Hid.mk hl2
  clear hl hl2
  have e1 : (n : Int).tmod 40 = ((n % 40 : Nat) : Int) := by rw [Int.tmod_eq_emod_of_nonneg (by omega)]; omega
  obtain ⟨r, hr⟩ : ∃ r, n % 40 = r := ⟨_, rfl⟩
  have r40 : r < 40 := by omega
  rw [hr] at e1
  obtain ⟨K, hK⟩ : ∃ K, (r + 1) * 64 = K := ⟨_, rfl⟩
  have hNK : ((r : Int) + 1) * 64 = (K : Int) := by omega
  have MD : ∀ W : World, Calls Try.prog 8 #[.int .i64 ((r : Int) + 1), .int .i64 (K : Int)] W fun e w' => ∃ q p pb a ab y yb c s m x, e = .returned (.pointer (some ⟨q, 0, none⟩)) ∧ Wd W w' q p pb a ab y yb c (r + 1) (f1 (r + 1)) (List.replicate K 0) K s m x 2 := fun W => by
    have := made_any W (r + 1) ((r + 1) * 64) (by omega) (by omega) (by omega) (by omega)
    rw [show ((r + 1 : Nat) : Int) = (r : Int) + 1 by omega, hK] at this
    exact this
  have M1 := MD w
  go_enter Try.func6, Try.ntmps6
  go_wp2_with (first
    | (go_at_call 8; refine M1.mono ?_; clear M1; rintro e w1 ⟨q, p, pb, a, ab, y, yb, c, s, m, x, rfl, D⟩; have HD := Hid.mk D; have M2 := MD w1; clear D MD)
    | (go_at_call 8; refine M2.mono ?_; clear M2; rintro e w1b ⟨q', p', pb', a', ab', y', yb', c', s', m', x', rfl, D'⟩; have HD' := Hid.mk D'; have AW := awake_any w1b; clear D')
    | (go_at_call 9; refine AW.mono ?_; rintro e w2 ⟨rfl, B2⟩; clear AW))
  have D2 := (HD.out.later HD'.out.bel).later B2
  have D2' := HD'.out.later B2
  have HY := Hid.mk (D2.sy (f1_good _) (by simp) 0 (by omega))
  have HV := Hid.mk (D2'.sy (f1_good _) (by simp) 0 (by omega))
  have bx := D2.box
  have bx' := D2'.box
  have ha := D2.hi 0 (by omega)
  have hb := D2'.hi 0 (by omega)
  have ua := D2.up
  have ub := D2'.up
  have la := D2.lo
  have lb := D2'.lo
  have qa := HD.out.ltq
  have qb := D2'.ltq
  have wl := HD.out.bel.size
  have lts : s 0 < w1.heap.size ∧ m 0 < w1.heap.size := ⟨(HD.out.sps 0 (by omega)).lt _ (.inl rfl), (HD.out.sps 0 (by omega)).lt _ (.inr (.inl rfl))⟩
  have lts' : s' 0 < w2.heap.size ∧ m' 0 < w2.heap.size := ⟨(D2'.sps 0 (by omega)).lt _ (.inl rfl), (D2'.sps 0 (by omega)).lt _ (.inr (.inl rfl))⟩
  have HB0 : Hid (Below w.heap.size w w2 ∧ w2.heap[q]? = w2.heap[q]? ∧ w2.heap[q']? = w2.heap[q']?) := ⟨⟨D2.bel, rfl, rfl⟩⟩
  have HBX : Hid (∀ W : World, W.heap[q]? = w2.heap[q]? → W.cell? ⟨q, 0, none⟩ = some (.pointer (some ⟨p, 0, none⟩)) ∧ W.cell? ⟨q, 2, none⟩ = some (.pointer (some ⟨s 0, 0, none⟩))) := ⟨fun W e => ⟨by rw [Joins.cell_of_block (e.trans bx)]; rfl, by rw [Joins.cell_of_block (e.trans bx)]; simp [spt, pt]⟩⟩
  have HBX' : Hid (∀ W : World, W.heap[q']? = w2.heap[q']? → W.cell? ⟨q', 0, none⟩ = some (.pointer (some ⟨p', 0, none⟩)) ∧ W.cell? ⟨q', 2, none⟩ = some (.pointer (some ⟨s' 0, 0, none⟩))) := ⟨fun W e => ⟨by rw [Joins.cell_of_block (e.trans bx')]; rfl, by rw [Joins.cell_of_block (e.trans bx')]; simp [spt, pt]⟩⟩
  have HF0 : Hid (Far (s 0) p a (m 0) pb ab nilS (s' 0) p' a' (m' 0) pb' ab' nilS) := ⟨far_of (HD.out.sy (f1_good _) (by simp) 0 (by omega)).lts (los HD'.out)⟩
  have hws := HB0.out.1.size
  have LO : Hid (w.heap.size ≤ w2.heap.size ∧ w.heap.size ≤ s 0 ∧ w.heap.size ≤ m 0 ∧ w.heap.size ≤ pb ∧ w.heap.size ≤ ab) := ⟨⟨hws, by omega, by omega, by omega, by omega⟩⟩
  have LO' : Hid (w.heap.size ≤ w2.heap.size ∧ w.heap.size ≤ s' 0 ∧ w.heap.size ≤ m' 0 ∧ w.heap.size ≤ pb' ∧ w.heap.size ≤ ab') := ⟨⟨hws, by omega, by omega, by omega, by omega⟩⟩
  have Q1 : Hid (Qf w2.heap.size q (s 0) (m 0) pb ab) := ⟨⟨by omega, by omega, by omega, by omega, by omega⟩⟩
  have Q2 : Hid (Qf w2.heap.size q' (s 0) (m 0) pb ab) := ⟨⟨by omega, by omega, by omega, by omega, by omega⟩⟩
  have Q3 : Hid (Qf w2.heap.size q (s' 0) (m' 0) pb' ab') := ⟨⟨by omega, by omega, by omega, by omega, by omega⟩⟩
  have Q4 : Hid (Qf w2.heap.size q' (s' 0) (m' 0) pb' ab') := ⟨⟨by omega, by omega, by omega, by omega, by omega⟩⟩
  have HI0 := Hid.mk (iv_none (r + 1) (f1 (r + 1)))
  clear D2 D2' bx bx' ha hb ua ub la lb qa qb wl lts lts' HD HD' B2 hr hws
  generalize s 0 = s0 at *
  generalize m 0 = m0 at *
  generalize s' 0 = t0 at *
  generalize m' 0 = u0 at *
  generalize hN : r + 1 = N at *
  generalize hBB : w2.heap.size = B at *
  obtain ⟨F, hF⟩ : ∃ F, f1 N = F := ⟨_, rfl⟩
  have HG : Hid (Good F N) := ⟨hF ▸ f1_good N⟩
  rw [hF] at HY HV HI0
  clear hF hBB
  go_loopw [10] (fun i wr => ∃ (k : Nat) (v : Value) (S : S0) (f : Nat → Int) (xs ys : List Int), k ≤ len ∧ k ≤ 100 ∧ i = .int .i64 (k : Int) ∧ Hid (Sy B wr s0 p a m0 pb ab N K v S f xs) ∧ Hid (Sy B wr t0 p' a' u0 pb' ab' N K nilS S0.none F ys) ∧ Hid (Far s0 p a m0 pb ab v t0 p' a' u0 pb' ab' nilS) ∧ Hid (Iv N F f S.l ∧ S.l.length ≤ k) ∧ Hid (Below w.heap.size w wr ∧ wr.heap[q]? = w2.heap[q]? ∧ wr.heap[q']? = w2.heap[q']?)) (fun i _ => 100 - (intOf i).toNat)
  case atStart => exact ⟨0, _, _, _, _, _, Nat.zero_le _, Nat.zero_le _, rfl, HY, HV, HF0, ⟨HI0.out, by simp [S0.none]⟩, HB0⟩
  case round =>
    obtain ⟨k, v, S, f, xs, ys, hk, hk2, rfl, HYr, HVr, HFr, HIr, HBr⟩ := hrel
    clear HY HV HF0 HI0 HB0
    by_cases hlt : k < len ∧ k < 100
    · obtain ⟨BB, OO, x0, x1, b, rfl, o0, o1, o2, b0, b1⟩ := HL.out.2 k hlt.1
      have c1 := old_cells o1 HBr.out.1
      have obw := World.block_lt_of_cell? _ _ o1
      simp only at obw
      have z1 := hlt.1
      have z2 := hlt.2
      clear hlt o0 o2 b0 b1
      have ks := (HBX.out wr HBr.out.2.1).2
      have LY := layd HYr.out (by have := HIr.out.2; omega) x1 q BB (OO + k * 3 + 1) _ _ ks c1 Q1.out (Qf.of obw LO.out)
      go_wp2
      go_region_held3 (fun W' => W'.cell? ⟨q, 2, none⟩ = some (.pointer (some ⟨s0, 0, none⟩)) ∧ W'.cell? ⟨BB, OO + k * 3 + 1, none⟩ = some (.int .i64 x1)) (go_keep) (first | (go_at_call 13; refine LY.mono ?_; rintro e w4 ⟨A, E, rfl, H4, r1, r2⟩))
      go_wp2
      go_roundw
      case rel =>
        obtain ⟨hA4, hE4, v4, Y4, O4, C4⟩ := H4.out
        refine ⟨k + 1, v4, _, _, _, ys, by omega, by omega, by go_num, ⟨Y4⟩, ⟨HVr.out.other C4 (fun j z1 z2 => HFr.out j (.inl z2) z1)⟩, ⟨HFr.out.step HVr.out.lts (.inl rfl) O4⟩, ⟨iv_lay HIr.out.1 HYr.out.good x1, by have := lay_len (f := f) (N := N) (M := K) (S := S) x1; have := HIr.out.2; omega⟩, ⟨HYr.out.below C4 HBr.out.1 LO.out, (stayq HYr.out C4 Q1.out).trans HBr.out.2.1, (stayq HYr.out C4 Q2.out).trans HBr.out.2.2⟩⟩
      case measure => simp [intOf]; omega
    · have FS := free_space (HYr.out.later (W' := wr.drew) (below_drew wr)) (by have := HIr.out.2; omega)
      have FS2 : Calls Try.prog 17 #[.pointer (some ⟨s0, 0, none⟩)] wr.drew fun e w' => e = .returned (.int .i64 0) ∧ ∃ m1, Hid (wr.heap.size ≤ m1 ∧ St w w2 B q q' s0 p a m1 pb ab t0 p' a' u0 pb' ab' N K nilS nilS S0.none F xs ys w') := by
        refine FS.mono ?_
        rintro e w' ⟨rfl, m1, g1, g2, g3⟩
        have g4 : Chg (lx s0 m0 v pb ab) wr w' := ⟨g3.os, g3.tape, g3.output, g3.size, fun j z1 z2 => g3.block j z1 (fun z3 => by rcases z3 with z3 | z3; (· exact z2 (.inl (.inl z3))); (· exact z2 (.inr (.inl z3))))⟩
        exact ⟨rfl, m1, ⟨g1, g2.congr (iv_frees HIr.out.1 HYr.out.good) HG.out, HVr.out.other g4 (fun j z1 z2 => HFr.out j (.inl z2) z1), HFr.out.step HVr.out.lts (.inr g1) (fun j z => by simp [Value.ownBlock] at z), HYr.out.below g4 HBr.out.1 LO.out, (stayq HYr.out g4 Q1.out).trans HBr.out.2.1, (stayq HYr.out g4 Q2.out).trans HBr.out.2.2, Q1.out.lt, Q2.out.lt⟩⟩
      obtain ⟨ks0, ks2⟩ := HBX.out wr HBr.out.2.1
      obtain ⟨kt0, kt2⟩ := HBX'.out wr HBr.out.2.2
      clear FS
      have HWB : Hid (B ≤ wr.heap.size) := ⟨HYr.out.hB⟩
      obtain ⟨LL, hLL⟩ : ∃ LL, left F N = LL := ⟨_, rfl⟩
      have hne : ((LL : Int) != (LL : Int)) = false := by simp
      by_cases g1 : k < len
      · have g2 : 100 ≤ k := by omega
        clear hlt
        go_upto_region 9 with (fail)
        go_region_held3 (fun W' => W'.cell? ⟨q, 0, none⟩ = some (.pointer (some ⟨p, 0, none⟩)) ∧ W'.cell? ⟨q, 2, none⟩ = some (.pointer (some ⟨s0, 0, none⟩)) ∧ W'.cell? ⟨q', 0, none⟩ = some (.pointer (some ⟨p', 0, none⟩))) (go_keep) (first
          | (go_at_call 17; refine FS2.mono ?_; clear FS2; rintro e w4 ⟨rfl, m1, H4⟩; obtain ⟨r0, r2⟩ := HBX.out w4 H4.out.2.eq; have r3 := (HBX'.out w4 H4.out.2.eq').1; have LW := left_ok H4.out.2.yw.pool; rw [hLL] at LW)
          | (go_at_call 18; refine LW.mono ?_; clear LW; rintro e w5 ⟨rfl, B5⟩; have H5 := Hid.mk (H4.out.2.later B5); obtain ⟨i0, i2⟩ := HBX.out w5 H5.out.eq; have i3 := (HBX'.out w5 H5.out.eq').1; have LV := left_ok H5.out.yv.pool; rw [hLL] at LV; clear B5)
          | (go_at_call 18; refine LV.mono ?_; clear LV; rintro e w6 ⟨rfl, B6⟩; have H6 := Hid.mk (H5.out.later B6); obtain ⟨j0, j2⟩ := HBX.out w6 H6.out.eq; have j3 := (HBX'.out w6 H6.out.eq').1; have US := used_any H6.out.yw.sp; have BL := blocks_any H6.out.yw.sp; rw [show (S0.none.us : Int) = 0 from rfl] at US; rw [show (S0.none.bl : Int) = 0 from rfl] at BL; clear B6)
          | (go_at_call 16; refine US.mono ?_; rintro e w7 ⟨rfl, hw⟩; rw [hw]; clear hw)
          | (go_at_call 15; refine BL.mono ?_; rintro e w7 ⟨rfl, hw⟩; rw [hw]; clear hw))
        have H40 := H4.out.1
        have HW := HWB.out
        have P1 := Hid.mk (Q1.out.map HW H40)
        have P2 := Hid.mk (Q2.out.map HW H40)
        have LM : Hid (w.heap.size ≤ B ∧ w.heap.size ≤ s0 ∧ w.heap.size ≤ m1 ∧ w.heap.size ≤ pb ∧ w.heap.size ≤ ab) := ⟨⟨LO.out.1, LO.out.2.1, by have := LO.out.1; omega, LO.out.2.2.2.1, LO.out.2.2.2.2⟩⟩
        clear r0 r2 r3 i0 i2 i3 j0 j2 j3 US BL H4 H5 H40 HW HYr HVr HFr HIr HBr HWB ks0 ks2 kt0 kt2
        go_wp2
        go_loopw [11] (fun i wr => ∃ (k : Nat) (v1 v2 : Value) (S : S0) (f : Nat → Int) (xs ys : List Int), k ≤ len2 ∧ k ≤ 100 ∧ i = .int .i64 (k : Int) ∧ Hid (St w w2 B q q' s0 p a m1 pb ab t0 p' a' u0 pb' ab' N K v1 v2 S f xs ys wr) ∧ Hid (S.l.length ≤ k)) (fun i _ => 100 - (intOf i).toNat)
        case atStart => exact ⟨0, _, _, _, _, _, _, Nat.zero_le _, Nat.zero_le _, rfl, H6, ⟨by simp [S0.none]⟩⟩
        case round =>
          obtain ⟨k2, v1, v2, S2, f2, xs2, ys2, hk3, hk4, rfl, HS, HLn⟩ := hrel
          clear H6
          by_cases hlt : k2 < len2 ∧ k2 < 100
          · obtain ⟨BB, OO, x0, x1, b, rfl, o0, o1, o2, b0, b1⟩ := HL2.out.2 k2 hlt.1
            have c1 := old_cells o1 HS.out.bel
            have obw := World.block_lt_of_cell? _ _ o1
            simp only at obw
            have z1 := hlt.1
            have z2 := hlt.2
            clear hlt o0 o2 b0 b1
            have ks := (HBX.out wr HS.out.eq).2
            have LY := layd HS.out.yw (by have := HLn.out; omega) x1 q BB (OO + k2 * 3 + 1) _ _ ks c1 P1.out (Qf.of obw LM.out)
            go_wp2
            go_region_held3 (fun W' => W'.cell? ⟨q, 2, none⟩ = some (.pointer (some ⟨s0, 0, none⟩)) ∧ W'.cell? ⟨BB, OO + k2 * 3 + 1, none⟩ = some (.int .i64 x1)) (go_keep) (first | (go_at_call 13; refine LY.mono ?_; rintro e w4 ⟨A, E, rfl, H4, r1, r2⟩))
            obtain ⟨hA4, hE4, v4, Y4, O4, C4⟩ := H4.out
            have HAE := Hid.mk (And.intro hA4 hE4)
            clear hA4 hE4
            have V4 := HS.out.yv.other C4 (fun j z1 z2 => HS.out.far j (.inl z2) z1)
            have F4 := HS.out.far.step HS.out.yv.lts (.inl rfl) O4
            have HH4 := Hid.mk (And.intro Y4 (And.intro V4 (And.intro F4 (And.intro (HS.out.yw.below C4 HS.out.bel LM.out) (And.intro ((stayq HS.out.yw C4 P1.out).trans HS.out.eq) ((stayq HS.out.yw C4 P2.out).trans HS.out.eq'))))))
            have kt := (HBX'.out w4 HH4.out.2.2.2.2.2).2
            have LV := layd V4 (by have := HLn.out; omega) x1 q' BB (OO + k2 * 3 + 1) _ _ kt r2 Q4.out (Qf.of obw LO'.out)
            clear LY Y4 V4 F4 O4 C4 H4 ks r1
            go_wp2
            go_region_held3 (fun W' => W'.cell? ⟨q', 2, none⟩ = some (.pointer (some ⟨t0, 0, none⟩)) ∧ W'.cell? ⟨BB, OO + k2 * 3 + 1, none⟩ = some (.int .i64 x1)) (go_keep) (first | (go_at_call 13; refine LV.mono ?_; rintro e w5 ⟨A2, E2, rfl, H5, r3, r4⟩))
            obtain ⟨hA5, hE5, v5, Y5, O5, C5⟩ := H5.out
            obtain rfl : A2 = A := hA5.trans HAE.out.1.symm
            obtain rfl : E2 = E := hE5.trans HAE.out.2.symm
            obtain ⟨Y4, V4, F4, b4, q4, q4'⟩ := HH4.out
            have HS5 : Hid (St w w2 B q q' s0 p a m1 pb ab t0 p' a' u0 pb' ab' N K v4 v5 (layS f2 N K S2 x1) (layF f2 N K S2.nx x1) (layW f2 N K S2.nx x1 xs2) (layW f2 N K S2.nx x1 ys2) w5) := ⟨⟨Y4.other C5 (fun j z1 z2 => F4 j z1 (.inl z2)), Y5, (F4.symm.step Y4.lts (.inl rfl) O5).symm, V4.below C5 b4 LO'.out, (stayq V4 C5 Q3.out).trans q4, (stayq V4 C5 Q4.out).trans q4', Q1.out.lt, Q2.out.lt⟩⟩
            have HL5 : Hid ((layS f2 N K S2 x1).l.length ≤ k2 + 1) := ⟨by have := lay_len (f := f2) (N := N) (M := K) (S := S2) x1; have := HLn.out; omega⟩
            have nA : (A2 != A2) = false := by simp
            have nE : (E2 != E2) = false := by simp
            clear Y4 V4 F4 b4 q4 q4' Y5 O5 C5 H5 LV HH4 HAE hA5 hE5 kt r2 r3 r4
            go_wp2
            go_roundw
            case rel => exact ⟨_, _, _, _, _, _, _, _, _, _, _, _, _, _, _, _, _, _, _, _, _, _, _, _, _, _, _, _, _, _, _, _, _, _, _, _, _, _, _, _, _, _, _, _, _, _, _, _, _, _, _, _, ⟨k2 + 1, _, _, _, _, _, _, by omega, by omega, by go_num, HS5, HL5⟩, rfl⟩
            case measure => simp [intOf]; omega
          · by_cases g3 : k2 < len2
            · have g4 : 100 ≤ k2 := by omega
              clear hlt
              go_wp2
              go_ret
              exact ⟨rfl, HS.out.bel⟩
            · have g4 : len2 ≤ k2 := by omega
              clear hlt
              go_wp2
              go_ret
              exact ⟨rfl, HS.out.bel⟩
      · have g2 : len ≤ k := by omega
        clear hlt
        go_upto_region 9 with (fail)
        go_region_held3 (fun W' => W'.cell? ⟨q, 0, none⟩ = some (.pointer (some ⟨p, 0, none⟩)) ∧ W'.cell? ⟨q, 2, none⟩ = some (.pointer (some ⟨s0, 0, none⟩)) ∧ W'.cell? ⟨q', 0, none⟩ = some (.pointer (some ⟨p', 0, none⟩))) (go_keep) (first
          | (go_at_call 17; refine FS2.mono ?_; clear FS2; rintro e w4 ⟨rfl, m1, H4⟩; obtain ⟨r0, r2⟩ := HBX.out w4 H4.out.2.eq; have r3 := (HBX'.out w4 H4.out.2.eq').1; have LW := left_ok H4.out.2.yw.pool; rw [hLL] at LW)
          | (go_at_call 18; refine LW.mono ?_; clear LW; rintro e w5 ⟨rfl, B5⟩; have H5 := Hid.mk (H4.out.2.later B5); obtain ⟨i0, i2⟩ := HBX.out w5 H5.out.eq; have i3 := (HBX'.out w5 H5.out.eq').1; have LV := left_ok H5.out.yv.pool; rw [hLL] at LV; clear B5)
          | (go_at_call 18; refine LV.mono ?_; clear LV; rintro e w6 ⟨rfl, B6⟩; have H6 := Hid.mk (H5.out.later B6); obtain ⟨j0, j2⟩ := HBX.out w6 H6.out.eq; have j3 := (HBX'.out w6 H6.out.eq').1; have US := used_any H6.out.yw.sp; have BL := blocks_any H6.out.yw.sp; rw [show (S0.none.us : Int) = 0 from rfl] at US; rw [show (S0.none.bl : Int) = 0 from rfl] at BL; clear B6)
          | (go_at_call 16; refine US.mono ?_; rintro e w7 ⟨rfl, hw⟩; rw [hw]; clear hw)
          | (go_at_call 15; refine BL.mono ?_; rintro e w7 ⟨rfl, hw⟩; rw [hw]; clear hw))
        have H40 := H4.out.1
        have HW := HWB.out
        have P1 := Hid.mk (Q1.out.map HW H40)
        have P2 := Hid.mk (Q2.out.map HW H40)
        have LM : Hid (w.heap.size ≤ B ∧ w.heap.size ≤ s0 ∧ w.heap.size ≤ m1 ∧ w.heap.size ≤ pb ∧ w.heap.size ≤ ab) := ⟨⟨LO.out.1, LO.out.2.1, by have := LO.out.1; omega, LO.out.2.2.2.1, LO.out.2.2.2.2⟩⟩
        clear r0 r2 r3 i0 i2 i3 j0 j2 j3 US BL H4 H5 H40 HW HYr HVr HFr HIr HBr HWB ks0 ks2 kt0 kt2
        go_wp2
        go_loopw [11] (fun i wr => ∃ (k : Nat) (v1 v2 : Value) (S : S0) (f : Nat → Int) (xs ys : List Int), k ≤ len2 ∧ k ≤ 100 ∧ i = .int .i64 (k : Int) ∧ Hid (St w w2 B q q' s0 p a m1 pb ab t0 p' a' u0 pb' ab' N K v1 v2 S f xs ys wr) ∧ Hid (S.l.length ≤ k)) (fun i _ => 100 - (intOf i).toNat)
        case atStart => exact ⟨0, _, _, _, _, _, _, Nat.zero_le _, Nat.zero_le _, rfl, H6, ⟨by simp [S0.none]⟩⟩
        case round =>
          obtain ⟨k2, v1, v2, S2, f2, xs2, ys2, hk3, hk4, rfl, HS, HLn⟩ := hrel
          clear H6
          by_cases hlt : k2 < len2 ∧ k2 < 100
          · obtain ⟨BB, OO, x0, x1, b, rfl, o0, o1, o2, b0, b1⟩ := HL2.out.2 k2 hlt.1
            have c1 := old_cells o1 HS.out.bel
            have obw := World.block_lt_of_cell? _ _ o1
            simp only at obw
            have z1 := hlt.1
            have z2 := hlt.2
            clear hlt o0 o2 b0 b1
            have ks := (HBX.out wr HS.out.eq).2
            have LY := layd HS.out.yw (by have := HLn.out; omega) x1 q BB (OO + k2 * 3 + 1) _ _ ks c1 P1.out (Qf.of obw LM.out)
            go_wp2
            go_region_held3 (fun W' => W'.cell? ⟨q, 2, none⟩ = some (.pointer (some ⟨s0, 0, none⟩)) ∧ W'.cell? ⟨BB, OO + k2 * 3 + 1, none⟩ = some (.int .i64 x1)) (go_keep) (first | (go_at_call 13; refine LY.mono ?_; rintro e w4 ⟨A, E, rfl, H4, r1, r2⟩))
            obtain ⟨hA4, hE4, v4, Y4, O4, C4⟩ := H4.out
            have HAE := Hid.mk (And.intro hA4 hE4)
            clear hA4 hE4
            have V4 := HS.out.yv.other C4 (fun j z1 z2 => HS.out.far j (.inl z2) z1)
            have F4 := HS.out.far.step HS.out.yv.lts (.inl rfl) O4
            have HH4 := Hid.mk (And.intro Y4 (And.intro V4 (And.intro F4 (And.intro (HS.out.yw.below C4 HS.out.bel LM.out) (And.intro ((stayq HS.out.yw C4 P1.out).trans HS.out.eq) ((stayq HS.out.yw C4 P2.out).trans HS.out.eq'))))))
            have kt := (HBX'.out w4 HH4.out.2.2.2.2.2).2
            have LV := layd V4 (by have := HLn.out; omega) x1 q' BB (OO + k2 * 3 + 1) _ _ kt r2 Q4.out (Qf.of obw LO'.out)
            clear LY Y4 V4 F4 O4 C4 H4 ks r1
            go_wp2
            go_region_held3 (fun W' => W'.cell? ⟨q', 2, none⟩ = some (.pointer (some ⟨t0, 0, none⟩)) ∧ W'.cell? ⟨BB, OO + k2 * 3 + 1, none⟩ = some (.int .i64 x1)) (go_keep) (first | (go_at_call 13; refine LV.mono ?_; rintro e w5 ⟨A2, E2, rfl, H5, r3, r4⟩))
            obtain ⟨hA5, hE5, v5, Y5, O5, C5⟩ := H5.out
            obtain rfl : A2 = A := hA5.trans HAE.out.1.symm
            obtain rfl : E2 = E := hE5.trans HAE.out.2.symm
            obtain ⟨Y4, V4, F4, b4, q4, q4'⟩ := HH4.out
            have HS5 : Hid (St w w2 B q q' s0 p a m1 pb ab t0 p' a' u0 pb' ab' N K v4 v5 (layS f2 N K S2 x1) (layF f2 N K S2.nx x1) (layW f2 N K S2.nx x1 xs2) (layW f2 N K S2.nx x1 ys2) w5) := ⟨⟨Y4.other C5 (fun j z1 z2 => F4 j z1 (.inl z2)), Y5, (F4.symm.step Y4.lts (.inl rfl) O5).symm, V4.below C5 b4 LO'.out, (stayq V4 C5 Q3.out).trans q4, (stayq V4 C5 Q4.out).trans q4', Q1.out.lt, Q2.out.lt⟩⟩
            have HL5 : Hid ((layS f2 N K S2 x1).l.length ≤ k2 + 1) := ⟨by have := lay_len (f := f2) (N := N) (M := K) (S := S2) x1; have := HLn.out; omega⟩
            have nA : (A2 != A2) = false := by simp
            have nE : (E2 != E2) = false := by simp
            clear Y4 V4 F4 b4 q4 q4' Y5 O5 C5 H5 LV HH4 HAE hA5 hE5 kt r2 r3 r4
            go_wp2
            go_roundw
            case rel => exact ⟨_, _, _, _, _, _, _, _, _, _, _, _, _, _, _, _, _, _, _, _, _, _, _, _, _, _, _, _, _, _, _, _, _, _, _, _, _, _, _, _, _, _, _, _, _, _, _, _, _, _, _, _, ⟨k2 + 1, _, _, _, _, _, _, by omega, by omega, by go_num, HS5, HL5⟩, rfl⟩
            case measure => simp [intOf]; omega
          · by_cases g3 : k2 < len2
            · have g4 : 100 ≤ k2 := by omega
              clear hlt
              go_wp2
              go_ret
              exact ⟨rfl, HS.out.bel⟩
            · have g4 : len2 ≤ k2 := by omega
              clear hlt
              go_wp2
              go_ret
              exact ⟨rfl, HS.out.bel⟩


set_option maxRecDepth 100000 in
theorem lifted (os : Os) (started : os.Started) (H : Type) (enc : TypeId × Value → H) :
    ReturnsInHanded {} Try.checked os 6 .any (Rows.bumpFreesSpec.pre6 enc Try.prog Try.f6 Rows.bumpFreesRow.domain false) (Rows.bumpFreesSpec.post enc Try.prog Try.f6 false true false false) := by
  refine returnsInHanded_of_change (C := Try.checked) own started (by kernel_rfl) Try.func6
    (ChangeSpec.witness6 (enc := enc) (C := Try.checked) false ⟨#[], #[.int .u8 0, .slice none 0 0, .slice none 0 0], []⟩ 8 (by kernel_rfl) (by kernel_rfl) (by kernel_rfl) (by kernel_rfl)) ?_
  intro W base args ds gs before hval0 hW hcnd _
  have hval : ∀ (j : Nat) t v, Try.f6.params[j]? = some t → args[j]? = some v → Value.okWide Try.prog W .any base t v := hval0
  have hW' := hW
  obtain ⟨p, q, hA0, hV, rfl, hfz, hnd⟩ := hW
  have hA : DataW.TrodAll enc Try.prog W 0 (fun _ => true) true Try.f6.params.toList args.toList ds p := hA0
  rw [Try.params6] at hA hval
  obtain ⟨v0, vs0, d0, ds0, p0, q0, hargs, rfl, rfl, h0, r0⟩ := trodAll_cons hA
  obtain ⟨v1, vs1, d1, ds1, p1, q1, rfl, rfl, rfl, h1, r1⟩ := trodAll_cons r0
  obtain ⟨v2, vs2, d2, ds2, p2, q2, rfl, rfl, rfl, h2, r2⟩ := trodAll_cons r1
  obtain ⟨rfl, rfl, rfl⟩ := trodAll_nil r2
  obtain rfl : args = #[v0, v1, v2] := by cases args; simp_all
  obtain ⟨rfl, rfl⟩ := trodVars_none hV
  have t0 := h0
  have lt0 : ∀ x ∈ p0, x.block < W.heap.size := by obtain ⟨m, hm⟩ := t0; exact DataW.trod_lt m _ _ _ hm
  obtain ⟨a0, rfl, hd0, hp0, w0⟩ := open_int Try.underlying5 (hval 0 5 v0 rfl rfl) h0
  have t1 := h1
  have lt1 : ∀ x ∈ p1, x.block < W.heap.size := by obtain ⟨m, hm⟩ := t1; exact DataW.trod_lt m _ _ _ hm
  obtain ⟨ad1, len1, cap1, rfl⟩ := okWide_slice Try.underlying23 (hval 1 23 v1 rfl rfl)
  have w1 := open_acts h1
  have t2 := h2
  have lt2 : ∀ x ∈ p2, x.block < W.heap.size := by obtain ⟨m, hm⟩ := t2; exact DataW.trod_lt m _ _ _ hm
  obtain ⟨ad2, len2, cap2, rfl⟩ := okWide_slice Try.underlying23 (hval 2 23 v2 rfl rfl)
  have w2 := open_acts h2
  clear hA0 hval0
  refine (walk a0 ad1 len1 cap1 ad2 len2 cap2 W (bounds_u8 w0) w1 w2).mono fun e W' ⟨he, bel⟩ => ?_
  subst he
  exact ⟨_, rfl, _, _, _, [], _, [], hW', trodAll_mk1 (shut_bool Try.underlying4 _), (trodAll_cons_mk (Below.trod laidOut (by kernel_rfl) (of_decide_eq_true (by kernel_rfl)) t0 bel lt0) (trodAll_cons_mk (Below.trod laidOut (by kernel_rfl) (of_decide_eq_true (by kernel_rfl)) t1 bel lt1) (trodAll_cons_mk (Below.trod laidOut (by kernel_rfl) (of_decide_eq_true (by kernel_rfl)) t2 bel lt2) trodAll_mk0))), rfl, bel.frame _, fun h => by cases h⟩

theorem over : Rows.bumpFreesRow.holds Try.pinned (OpenSpec.ofChange Rows.bumpFreesSpec) :=
  OpenClaim.holds_of_wide 6 Try.f6 rfl rfl rfl rfl rfl rfl rfl ⟨rfl, rfl, rfl, rfl, rfl⟩ rfl rfl rfl rfl rfl (by kernel_rfl) Try.func6 (by kernel_rfl)
    (of_decide_eq_true (by kernel_rfl)) (by unfold Func.isWrapper; first | (rw [if_pos (by decide +kernel)]; kernel_rfl) | (rw [if_neg (by decide +kernel)]; exact ⟨rfl, rfl⟩))
    (fun os started H enc _ => lifted os started H enc)
end Go.Proofs.Ytcallmfdigfhnaa.bumpFrees

namespace Go.Proofs.Ytcallmfdigfhnaa
theorem bumpFrees_holds : Rows.BumpFreesSaid := bumpFrees.over
#print axioms bumpFrees_holds
end Go.Proofs.Ytcallmfdigfhnaa
