/-
  The statement BumpApart: what was laid has words of its own, none of the first block, and all of them 0, whatever was written ahead.
  Conditions: none on the input.
-/
import Derived.Test.YtcallmfdigfhnaaBpl
namespace Go.Proofs.Ytcallmfdigfhnaa.bumpApart
open Go.ChangeShapes Go.WideShapes Go.ChangeAt Go.RowKit
set_option linter.unusedVariables false

theorem below_drew (w : World) : Below w.heap.size w w.drew := ⟨rfl, rfl, rfl, Nat.le_refl _, fun _ _ => rfl⟩
theorem grown_far {w w' : World} {m b o : Nat} (g : w.grownBy w' (some m)) (h : b ≠ m) (hb : b < w.heap.size) : w'.cell? ⟨b, o, none⟩ = w.cell? ⟨b, o, none⟩ := World.cell?_of_block (w := w) (a := ⟨b, o, none⟩) (g.block b hb (by simpa using h))
set_option maxRecDepth 100000 in
set_option maxHeartbeats 8000000 in
theorem walk (a0 : Int) (ad : Option Addr) (len cap : Nat) (w : World) (h0 : 0 ≤ a0 ∧ a0 ≤ 255) (hl : IsActs w ad len) :
    Calls Try.prog 4 #[.int .u8 a0, .slice ad len cap] w fun e w' => e = .returned (.bool true) ∧ Below w.heap.size w w' := by
  obtain ⟨n, rfl⟩ : ∃ n : Nat, a0 = n := ⟨a0.toNat, by omega⟩
  have hm : len ≤ 9223372036854775807 := by have := hl.1; unfold maxLen at this; exact this
  have HL := Hid.mk hl
  clear hl
  have e1 : (n : Int).tmod 40 = ((n % 40 : Nat) : Int) := by rw [Int.tmod_eq_emod_of_nonneg (by omega)]; omega
  obtain ⟨r, hr⟩ : ∃ r, n % 40 = r := ⟨_, rfl⟩
  have r40 : r < 40 := by omega
  rw [hr] at e1
  have MD := made_any w (r + 1) ((r + 1) * 64) (by omega) (by omega) (by omega) (by omega)
  obtain ⟨K, hK⟩ : ∃ K, (r + 1) * 64 = K := ⟨_, rfl⟩
  have hK2 : K ≤ 2560 ∧ 64 ≤ K := by omega
  have hNK : ((r : Int) + 1) * 64 = (K : Int) := by omega
  rw [show ((r + 1 : Nat) : Int) = (r : Int) + 1 by omega, hK] at MD
  have hmk := Go.run_make_row' (P := Try.prog) 42 3 (.int .i64 0) 8 Try.underlying42 info3 rfl .i64 .i64 K (by omega) (by omega)
  rw [made_nums] at hmk
  go_enter Try.func4, Try.ntmps4
  go_wp2_with (first
    | (go_at_call 8; refine MD.mono ?_; rintro e w1 ⟨q, p, pb, a, ab, y, yb, c, s', m', x, rfl, D⟩; unfold pt; have HD := Hid.mk D; have AW := awake_any w1; clear D MD)
    | (go_at_call 9; refine AW.mono ?_; rintro e w2 ⟨rfl, B2⟩; have D2 := HD.out.later B2; have HY := Hid.mk (D2.tw (f1_good _) (by simp)); have HB := Hid.mk (And.intro D2.bel (Eq.refl w2.heap[q]?)); have hh0 := D2.hi 0 (by omega); have hh1 := D2.hi 1 (by omega); have uu := D2.up; have lo := D2.lo; have lq := D2.ltq; have bx := D2.box; have HI0 := Hid.mk (inv_first (r + 1) (by omega)); clear AW D2))
  have HBX0 : Hid (w2.heap[q]? = some (.cells #[.pointer (some ⟨p, 0, none⟩), .pointer (some ⟨a, 0, none⟩), .pointer (some ⟨s' (nt false), 0, none⟩), .pointer (some ⟨s' (nt true), 0, none⟩), pt (x 0), pt (x 1)] 39 (0, 0))) := ⟨by rw [bx]; simp [spt, pt, nt]⟩
  have HQ0 : Hid (q < w2.heap.size ∧ (w.heap.size ≤ q ∧ p < q ∧ pb < q ∧ a < q ∧ ab < q) ∧ (w.heap.size ≤ pb ∧ w.heap.size ≤ ab) ∧ (∀ i, q < s' (nt i) ∧ q < m' (nt i)) ∧ ∀ i, s' (nt i) < w2.heap.size ∧ m' (nt i) < w2.heap.size) := ⟨⟨lq, by omega, by omega, fun i => by cases i <;> simp only [nt] <;> simp <;> omega, fun i => ⟨((HY.out.sy i).sp.lt _ (.inl rfl)), ((HY.out.sy i).sp.lt _ (.inr (.inl rfl)))⟩⟩⟩
  clear hh0 hh1 uu lo lq HD B2 bx hr
  generalize hs : (fun b => s' (nt b)) = s at *
  generalize hmm : (fun b => m' (nt b)) = m at *
  have HBX : Hid (w2.heap[q]? = some (.cells #[.pointer (some ⟨p, 0, none⟩), .pointer (some ⟨a, 0, none⟩), .pointer (some ⟨s false, 0, none⟩), .pointer (some ⟨s true, 0, none⟩), pt (x 0), pt (x 1)] 39 (0, 0))) := by rw [← hs]; exact HBX0
  have HQ1 : Hid (q < w2.heap.size ∧ (w.heap.size ≤ q ∧ p < q ∧ pb < q ∧ a < q ∧ ab < q) ∧ (w.heap.size ≤ pb ∧ w.heap.size ≤ ab) ∧ (∀ i, q < s i ∧ q < m i) ∧ ∀ i, s i < w2.heap.size ∧ m i < w2.heap.size) := by rw [← hs, ← hmm]; exact HQ0
  clear HBX0 HQ0 hs hmm
  generalize hN : r + 1 = N at *
  go_loopw [7] (fun i wr => ∃ (k : Nat) (xs : List Int), k ≤ K ∧ i = .int .i64 (k : Int) ∧ Hid (Tw w2.heap.size wr s m (fun _ => nilS) (fun _ => S0.none) p a pb ab N K (f1 N) xs) ∧ Hid (Below w.heap.size w wr ∧ wr.heap[q]? = w2.heap[q]?)) (fun i _ => K - (intOf i).toNat)
  case atStart => exact ⟨0, _, Nat.zero_le _, rfl, HY, ⟨HB.out.1, rfl⟩⟩
  case round =>
    obtain ⟨k, xs, hk, rfl, HT, HBr⟩ := hrel
    clear HY HB
    have kq : wr.heap[q]? = _ := (HBr.out.2).trans HBX.out
    by_cases hlt : k < K
    · have k1 : wr.cell? ⟨q, 1, none⟩ = some (.pointer (some ⟨a, 0, none⟩)) := by rw [Joins.cell_of_block kq]; rfl
      have WR := Ar.write_any (HT.out.sy false).arena (k : Int) 9
      go_wp2_with (go_at_call 12; refine WR.mono ?_; rintro e w3 ⟨rfl, A3, G3⟩)
      go_roundw
      case rel =>
        refine ⟨k + 1, _, by omega, by go_num, ⟨HT.out.words A3 (by rw [Ar.writeL]; have := (HT.out.sy false).len; split <;> simp [this]) G3⟩, ⟨?_, ?_⟩⟩
        · exact Chg.below HBr.out.1 (Chg.one (X := fun j => j = ab) G3 rfl) HBr.out.1.size (fun j e => by have := HQ1.out; omega)
        · exact (G3.block q (by have := HQ1.out; have := (HT.out.sy false).hB; omega) (by have := HQ1.out; simp; omega)).trans HBr.out.2
      case measure => simp [intOf]; omega
    · obtain rfl : K = k := by omega
      have al := (Below.refl _ wr).alloc (Nat.le_refl _) (.cells (row (fun _ => 0) K).toArray 3)
      have T3 := HT.out.later al
      have T3' := Hid.mk (T3.raise (B' := wr.heap.size + 1) (by simp))
      have HM3 := Hid.mk (heap_alloc_new wr (.cells (row (fun _ => 0) K).toArray 3))
      have HB3 : Hid (Below w.heap.size w (wr.alloc (.cells (row (fun _ => 0) K).toArray 3)) ∧ (wr.alloc (.cells (row (fun _ => 0) K).toArray 3)).heap[q]? = w2.heap[q]?) := ⟨HBr.out.1.trans (al.mono HBr.out.1.size), (al.block q (by have := HQ1.out.1; have := (HT.out.sy false).hB; omega)).trans HBr.out.2⟩
      have HQ : Hid (q < wr.heap.size + 1 ∧ (w.heap.size ≤ q ∧ p < q ∧ pb < q ∧ a < q ∧ ab < q) ∧ (w.heap.size ≤ pb ∧ w.heap.size ≤ ab) ∧ q < wr.heap.size ∧ ∀ i, q < s i ∧ q < m i ∧ s i < wr.heap.size ∧ m i < wr.heap.size) := ⟨by
        have hB := (HT.out.sy false).hB
        obtain ⟨z1, z2, z3, z4, z5⟩ := HQ1.out
        refine ⟨by omega, z2, z3, by omega, fun i => ?_⟩
        have := z4 i
        have := z5 i
        omega⟩
      clear T3 HT HBr al kq HQ1 hlt
      go_wp2
      generalize wr.alloc (.cells (row (fun _ => 0) K).toArray 3) = W3 at *
      generalize wr.heap.size = mb at *
      obtain ⟨B, hBm⟩ : ∃ B, mb + 1 = B := ⟨_, rfl⟩
      rw [hBm] at T3' HQ
      have hmb : mb < B := by omega
      clear hBm hmk
      have HSt : Hid (∀ i : Bool, ((fun _ => S0.none) i : S0).l.length ≤ 0) := ⟨fun i => by simp [S0.none]⟩
      go_loopw [9] (fun i wr => ∃ (k : Nat) (v : Bool → Value) (S : Bool → S0) (f : Nat → Int) (xs : List Int) (g : Nat → Int), k ≤ len ∧ k ≤ 100 ∧ i = .int .i64 (k : Int) ∧ Hid (Tw B wr s m v S p a pb ab N K f xs) ∧ Hid (Inv f g (fun i => (S i).nx)) ∧ Hid (wr.heap[mb]? = some (.cells (row g K).toArray 3 (0, 0))) ∧ Hid (∀ i, (S i).l.length ≤ k) ∧ Hid (Below w.heap.size w wr ∧ wr.heap[q]? = w2.heap[q]?)) (fun i _ => 100 - (intOf i).toNat)
      case atStart => exact ⟨0, _, _, _, _, _, Nat.zero_le _, Nat.zero_le _, rfl, T3', HI0, HM3, HSt, HB3⟩
      case round =>
        obtain ⟨k, v, S, f, xs, g, hk, hk2, rfl, HT, HI, HMt, HLn, HBr⟩ := hrel
        clear T3' HI0 HM3 HSt HB3
        by_cases hlt : k < len ∧ k < 100
        · obtain ⟨BB, OO, x0, x1, b, rfl, o0, o1, o2, b0, b1⟩ := HL.out.2 k hlt.1
          have c1 := old_cells o1 HBr.out.1
          have c2 := old_cells o2 HBr.out.1
          have z1 := hlt.1
          have z2 := hlt.2
          have bb1 := b1
          have obw := World.block_lt_of_cell? _ _ o1
          simp only at obw
          clear hlt o0 b0 b1
          cases b with
          | false =>
            have kq := (HBr.out.2).trans HBX.out
            have ks : wr.cell? ⟨q, 2, none⟩ = some (.pointer (some ⟨s false, 0, none⟩)) := by rw [Joins.cell_of_block kq]; rfl
            have hqB := HQ.out
            have hqi := hqB.2.2.2.2 false
            have hsB := (HT.out.sy false).hB
            have LYd : Calls Try.prog 13 #[.pointer (some ⟨s false, 0, none⟩), .int .i64 x1] wr.drew fun e w' => ∃ A E, e = .returned (.tuple #[.int .i64 A, .int .i64 E]) ∧ Hid (A = layA f N K (S false).nx x1 ∧ E = layE f N K (S false).nx x1 ∧ ∃ v', Tw B w' s m (updB v false v') (updB S false (layS f N K (S false) x1)) p a pb ab N K (layF f N K (S false).nx x1) (layW f N K (S false).nx x1 xs) ∧ Chg (lx (s false) (m false) (v false) pb ab) wr w') ∧ w'.cell? ⟨q, 2, none⟩ = some (.pointer (some ⟨s false, 0, none⟩)) ∧ w'.cell? ⟨BB, OO + k * 3 + 1, none⟩ = some (.int .i64 x1) := by
              have T := HT.out.later (W' := wr.drew) (below_drew wr)
              refine (T.lay false (by have := HLn.out false; omega) x1).mono ?_
              rintro e w' ⟨rfl, v', q1, q2⟩
              have q3 : Chg (lx (s false) (m false) (v false) pb ab) wr w' := ⟨q2.os, q2.tape, q2.output, q2.size, q2.block⟩
              refine ⟨_, _, rfl, ⟨rfl, rfl, v', q1, q3⟩, ?_, ?_⟩
              · exact (World.cell?_of_block (w := wr) (a := ⟨q, 2, none⟩) ((HT.out.sy false).stays (k := q) q3 (by omega) (by omega) (by omega) (by omega) (by omega))).trans ks
              · exact old_cells o1 ((HT.out.sy false).below q3 HBr.out.1 (by omega))
            go_wp2
            go_region_held3 (fun W' => W'.cell? ⟨q, 2, none⟩ = some (.pointer (some ⟨s false, 0, none⟩)) ∧ W'.cell? ⟨BB, OO + k * 3 + 1, none⟩ = some (.int .i64 x1)) (go_keep) (first | (go_at_call 13; refine LYd.mono ?_; rintro e w4 ⟨A, E, rfl, H4, r1, r2⟩))
            obtain ⟨hA4, hE4, v4, T4, C4⟩ := H4.out
            have HT4 := Hid.mk T4
            have sz4 := C4.size
            have keep4 : ∀ j, j < B → j ≠ s false → j ≠ m false → j ≠ pb → j ≠ ab → w4.heap[j]? = wr.heap[j]? := fun j q0 q1 q2 q3 q4 => (HT.out.sy false).stays C4 q0 q1 q2 q3 q4
            have bel4 : Hid (Below w.heap.size w w4 ∧ w4.heap[q]? = w2.heap[q]?) := ⟨(HT.out.sy false).below C4 HBr.out.1 (by omega), (keep4 q (by omega) (by omega) (by omega) (by omega) (by omega)).trans HBr.out.2⟩
            have HM4 : Hid (w4.heap[mb]? = some (.cells (row g K).toArray 3 (0, 0))) := ⟨(keep4 mb (by omega) (by omega) (by omega) (by omega) (by omega)).trans HMt.out⟩
            have hwB := bel4.out.1.size
            have c1 := old_cells o1 bel4.out.1
            clear keep4 LYd ks kq C4 T4 r1 r2
            by_cases hE : E = 0
            · subst hE
              obtain ⟨n1, i1, f', rfl, h1, h2, hr, e1, e2, e3, e4⟩ := lay_yes (xs := xs) hE4.symm
              rw [e1] at hA4
              subst hA4
              have IV := HI.out.lay false hr h1
              simp only at IV
              have rin := (room_in hr ((HT.out.sy false).fit.nx)).1
              simp only at rin
              have HIV := Hid.mk IV.2
              have Hfree := Hid.mk IV.1
              have T5 : Tw B w4 s m (updB v false v4) (updB S false ((S false).add i1 n1)) p a pb ab N K f' (splice xs i1 (List.replicate n1 0)) := by
                have := HT4.out
                rw [e2, e3, e4] at this
                exact this
              have HT5 := Hid.mk T5
              have a4 := (T5.sy false).arena
              have kq4 : w4.cell? ⟨q, 1, none⟩ = some (.pointer (some ⟨a, 0, none⟩)) := by rw [Joins.cell_of_block (bel4.out.2.trans HBX.out)]; rfl
              have lxs := (HT.out.sy false).len
              have HA4 := Hid.mk a4
              have Hz : Hid (∀ j, i1 ≤ j → j < i1 + n1 → (splice xs i1 (List.replicate n1 0)).getD j 0 = 0) := ⟨fun j q1 q2 => zero_in (by omega) q1 q2⟩
              have llen : (splice xs i1 (List.replicate n1 0)).length = K := (T5.sy false).len
              have Hnx : Hid ((fun i => (updB S false ((S false).add i1 n1) i).nx) = updB (fun i => (S i).nx) false (if n1 ≤ 64 then i1 + n1 else (S false).nx)) := ⟨by funext i; cases i <;> simp [updB, S0.add]⟩
              clear hr e1 e2 e3 e4 IV hE4 HT4 H4 T5 a4
              generalize splice xs i1 (List.replicate n1 0) = xs' at *
              go_wp2
              go_loopw [13] (fun jv w5 => ∃ t : Nat, t ≤ n1 ∧ jv = .int .i64 ((i1 : Int) + t) ∧ Hid (w5.heap[mb]? = some (.cells (row (mark g i1 t 1) K).toArray 3 (0, 0)) ∧ w4.grownBy w5 (some mb))) (fun jv _ => i1 + n1 - (intOf jv).toNat)
              case atStart => exact ⟨0, by omega, by simp, ⟨by rw [row_ext (g := g) (fun j _ => mark_out (by omega))]; exact HM4.out, grown_refl _ _⟩⟩
              case round =>
                obtain ⟨t, ht, rfl, H5⟩ := hrel
                have g5 := H5.out.2
                have cN := (grown_far (o := OO + k * 3 + 1) g5 (show BB ≠ mb by omega) (by omega)).trans c1
                by_cases htn : t < n1
                · have kq5 := (grown_far (o := 1) g5 (show q ≠ mb by omega) (by omega)).trans kq4
                  have a5 := HA4.out.chg (Chg.one (X := fun j => j = mb) g5 rfl) (by omega) (by omega)
                  have RD := Ar.read_any a5 ((i1 : Int) + t)
                  have fr := Hfree.out (i1 + t) (by omega) (by omega)
                  have zz := Hz.out (i1 + t) (by omega) (by omega)
                  have e5 : Ar.readW xs' ((i1 : Int) + t) = 0 := by unfold Ar.readW; rw [if_pos (by omega), show ((i1 : Int) + t).toNat = i1 + t by omega]; exact zz
                  have e6 : Ar.atE xs'.length ((i1 : Int) + t) = 0 := by unfold Ar.atE; rw [if_pos (by omega)]
                  rw [e5, e6] at RD
                  have cm : wr.cell? ⟨mb, i1 + t, none⟩ = some (.int .i64 0) := by
                    rw [Joins.cell_of_block H5.out.1, List.getElem?_toArray, row_get _ _ _ (by omega), mark_out (by omega), fr.2]
                  have fm : wr.frozen? ⟨mb, i1 + t, none⟩ = false := Joins.unfrozen_of_block H5.out.1 _
                  have H6 : Hid ((wr.setCell ⟨mb, i1 + t, none⟩ (.int .i64 1)).heap[mb]? = some (.cells (row (mark g i1 (t + 1) 1) K).toArray 3 (0, 0)) ∧ w4.grownBy (wr.setCell ⟨mb, i1 + t, none⟩ (.int .i64 1)) (some mb)) := ⟨by
                    refine ⟨?_, grown_trans g5 (grown_set _ _ _ _)⟩
                    rw [Joins.block_setCell H5.out.1, ← row_ext (fun j hj => mark_next g i1 t 1 K j hj), row_set]
                    simp⟩
                  have y1 : ((i1 : Int) + t).toNat = i1 + t := by omega
                  have y2 : (0 : Int) ≤ (i1 : Int) + t := by omega
                  have y3 : (i1 : Int) + t < (K : Int) := by omega
                  have y4 : (64 : Int) ≤ (i1 : Int) + t := by omega
                  have y5 : (i1 : Int) + t < (i1 : Int) + n1 := by omega
                  clear e5 e6 a5 fr zz H5 g5
                  go_wp2_with (go_at_call 14; refine RD.mono ?_; rintro e w6 ⟨rfl, hw⟩; rw [hw]; clear hw)
                  go_roundw
                  case rel => exact ⟨t + 1, by omega, by simp; omega, H6⟩
                  case measure => simp [intOf]; omega
                · obtain rfl : n1 = t := by omega
                  clear c1
                  have y5 : ¬ ((i1 : Int) + n1 < (i1 : Int) + n1) := by omega
                  go_wp2
                  go_roundw
                  case rel =>
                    have hwr : ∀ j, j ≠ mb → j < w4.heap.size → wr.heap[j]? = w4.heap[j]? := fun j q1 q2 => g5.block j q2 (by simpa using q1)
                    refine ⟨k + 1, _, _, _, _, _, by omega, by omega, by go_num, ⟨HT5.out.other g5 hmb (by omega) (fun i => by have := hqB.2.2.2.2 i; omega)⟩, ⟨by rw [Hnx.out]; exact HIV.out⟩, ⟨H5.out.1⟩, ⟨?_⟩, ⟨?_, ?_⟩⟩
                    · refine bool_cases _ false ?_ ?_
                      · have := HLn.out false; rw [updB_same]; simp [S0.add]; omega
                      · have := HLn.out (!false); rw [updB_not]; omega
                    · exact Chg.below bel4.out.1 (Chg.one (X := fun j => j = mb) g5 rfl) (by omega) (fun j e => by omega)
                    · exact (hwr q (by omega) (by omega)).trans bel4.out.2
                  case measure => simp [intOf]; omega
            · obtain ⟨e3, e2, e4⟩ := lay_no (xs := xs) (fun q => hE (hE4.trans q))
              have T5 : Tw B w4 s m (updB v false v4) (updB S false (S false)) p a pb ab N K f xs := by
                have := HT4.out
                rw [e2, e3, e4] at this
                exact this
              have HT5 := Hid.mk T5
              have Hnx : Hid ((fun i => (updB S false (S false) i).nx) = fun i => (S i).nx) := ⟨by funext i; cases i <;> simp [updB]⟩
              have hEb : (E != 0) = true := by simpa using hE
              clear e2 e3 e4 T5 hE4 HT4 H4 hA4
              go_wp2
              go_roundw
              case rel =>
                refine ⟨k + 1, _, _, _, _, _, by omega, by omega, by go_num, HT5, ⟨by rw [Hnx.out]; exact HI.out⟩, HM4, ⟨?_⟩, bel4⟩
                refine bool_cases _ false ?_ ?_
                · have := HLn.out false; rw [updB_same]; omega
                · have := HLn.out (!false); rw [updB_not]; omega
              case measure => simp [intOf]; omega
          | true =>
            have kq := (HBr.out.2).trans HBX.out
            have ks : wr.cell? ⟨q, 3, none⟩ = some (.pointer (some ⟨s true, 0, none⟩)) := by rw [Joins.cell_of_block kq]; rfl
            have hqB := HQ.out
            have hqi := hqB.2.2.2.2 true
            have hsB := (HT.out.sy true).hB
            have LYd : Calls Try.prog 13 #[.pointer (some ⟨s true, 0, none⟩), .int .i64 x1] wr.drew fun e w' => ∃ A E, e = .returned (.tuple #[.int .i64 A, .int .i64 E]) ∧ Hid (A = layA f N K (S true).nx x1 ∧ E = layE f N K (S true).nx x1 ∧ ∃ v', Tw B w' s m (updB v true v') (updB S true (layS f N K (S true) x1)) p a pb ab N K (layF f N K (S true).nx x1) (layW f N K (S true).nx x1 xs) ∧ Chg (lx (s true) (m true) (v true) pb ab) wr w') ∧ w'.cell? ⟨q, 3, none⟩ = some (.pointer (some ⟨s true, 0, none⟩)) ∧ w'.cell? ⟨BB, OO + k * 3 + 1, none⟩ = some (.int .i64 x1) := by
              have T := HT.out.later (W' := wr.drew) (below_drew wr)
              refine (T.lay true (by have := HLn.out true; omega) x1).mono ?_
              rintro e w' ⟨rfl, v', q1, q2⟩
              have q3 : Chg (lx (s true) (m true) (v true) pb ab) wr w' := ⟨q2.os, q2.tape, q2.output, q2.size, q2.block⟩
              refine ⟨_, _, rfl, ⟨rfl, rfl, v', q1, q3⟩, ?_, ?_⟩
              · exact (World.cell?_of_block (w := wr) (a := ⟨q, 3, none⟩) ((HT.out.sy true).stays (k := q) q3 (by omega) (by omega) (by omega) (by omega) (by omega))).trans ks
              · exact old_cells o1 ((HT.out.sy true).below q3 HBr.out.1 (by omega))
            go_wp2
            go_region_held3 (fun W' => W'.cell? ⟨q, 3, none⟩ = some (.pointer (some ⟨s true, 0, none⟩)) ∧ W'.cell? ⟨BB, OO + k * 3 + 1, none⟩ = some (.int .i64 x1)) (go_keep) (first | (go_at_call 13; refine LYd.mono ?_; rintro e w4 ⟨A, E, rfl, H4, r1, r2⟩))
            obtain ⟨hA4, hE4, v4, T4, C4⟩ := H4.out
            have HT4 := Hid.mk T4
            have sz4 := C4.size
            have keep4 : ∀ j, j < B → j ≠ s true → j ≠ m true → j ≠ pb → j ≠ ab → w4.heap[j]? = wr.heap[j]? := fun j q0 q1 q2 q3 q4 => (HT.out.sy true).stays C4 q0 q1 q2 q3 q4
            have bel4 : Hid (Below w.heap.size w w4 ∧ w4.heap[q]? = w2.heap[q]?) := ⟨(HT.out.sy true).below C4 HBr.out.1 (by omega), (keep4 q (by omega) (by omega) (by omega) (by omega) (by omega)).trans HBr.out.2⟩
            have HM4 : Hid (w4.heap[mb]? = some (.cells (row g K).toArray 3 (0, 0))) := ⟨(keep4 mb (by omega) (by omega) (by omega) (by omega) (by omega)).trans HMt.out⟩
            have hwB := bel4.out.1.size
            have c1 := old_cells o1 bel4.out.1
            clear keep4 LYd ks kq C4 T4 r1 r2
            by_cases hE : E = 0
            · subst hE
              obtain ⟨n1, i1, f', rfl, h1, h2, hr, e1, e2, e3, e4⟩ := lay_yes (xs := xs) hE4.symm
              rw [e1] at hA4
              subst hA4
              have IV := HI.out.lay true hr h1
              simp only at IV
              have rin := (room_in hr ((HT.out.sy true).fit.nx)).1
              simp only at rin
              have HIV := Hid.mk IV.2
              have Hfree := Hid.mk IV.1
              have T5 : Tw B w4 s m (updB v true v4) (updB S true ((S true).add i1 n1)) p a pb ab N K f' (splice xs i1 (List.replicate n1 0)) := by
                have := HT4.out
                rw [e2, e3, e4] at this
                exact this
              have HT5 := Hid.mk T5
              have a4 := (T5.sy true).arena
              have kq4 : w4.cell? ⟨q, 1, none⟩ = some (.pointer (some ⟨a, 0, none⟩)) := by rw [Joins.cell_of_block (bel4.out.2.trans HBX.out)]; rfl
              have lxs := (HT.out.sy true).len
              have HA4 := Hid.mk a4
              have Hz : Hid (∀ j, i1 ≤ j → j < i1 + n1 → (splice xs i1 (List.replicate n1 0)).getD j 0 = 0) := ⟨fun j q1 q2 => zero_in (by omega) q1 q2⟩
              have llen : (splice xs i1 (List.replicate n1 0)).length = K := (T5.sy true).len
              have Hnx : Hid ((fun i => (updB S true ((S true).add i1 n1) i).nx) = updB (fun i => (S i).nx) true (if n1 ≤ 64 then i1 + n1 else (S true).nx)) := ⟨by funext i; cases i <;> simp [updB, S0.add]⟩
              clear hr e1 e2 e3 e4 IV hE4 HT4 H4 T5 a4
              generalize splice xs i1 (List.replicate n1 0) = xs' at *
              go_wp2
              go_loopw [13] (fun jv w5 => ∃ t : Nat, t ≤ n1 ∧ jv = .int .i64 ((i1 : Int) + t) ∧ Hid (w5.heap[mb]? = some (.cells (row (mark g i1 t 1) K).toArray 3 (0, 0)) ∧ w4.grownBy w5 (some mb))) (fun jv _ => i1 + n1 - (intOf jv).toNat)
              case atStart => exact ⟨0, by omega, by simp, ⟨by rw [row_ext (g := g) (fun j _ => mark_out (by omega))]; exact HM4.out, grown_refl _ _⟩⟩
              case round =>
                obtain ⟨t, ht, rfl, H5⟩ := hrel
                have g5 := H5.out.2
                have cN := (grown_far (o := OO + k * 3 + 1) g5 (show BB ≠ mb by omega) (by omega)).trans c1
                by_cases htn : t < n1
                · have kq5 := (grown_far (o := 1) g5 (show q ≠ mb by omega) (by omega)).trans kq4
                  have a5 := HA4.out.chg (Chg.one (X := fun j => j = mb) g5 rfl) (by omega) (by omega)
                  have RD := Ar.read_any a5 ((i1 : Int) + t)
                  have fr := Hfree.out (i1 + t) (by omega) (by omega)
                  have zz := Hz.out (i1 + t) (by omega) (by omega)
                  have e5 : Ar.readW xs' ((i1 : Int) + t) = 0 := by unfold Ar.readW; rw [if_pos (by omega), show ((i1 : Int) + t).toNat = i1 + t by omega]; exact zz
                  have e6 : Ar.atE xs'.length ((i1 : Int) + t) = 0 := by unfold Ar.atE; rw [if_pos (by omega)]
                  rw [e5, e6] at RD
                  have cm : wr.cell? ⟨mb, i1 + t, none⟩ = some (.int .i64 0) := by
                    rw [Joins.cell_of_block H5.out.1, List.getElem?_toArray, row_get _ _ _ (by omega), mark_out (by omega), fr.2]
                  have fm : wr.frozen? ⟨mb, i1 + t, none⟩ = false := Joins.unfrozen_of_block H5.out.1 _
                  have H6 : Hid ((wr.setCell ⟨mb, i1 + t, none⟩ (.int .i64 1)).heap[mb]? = some (.cells (row (mark g i1 (t + 1) 1) K).toArray 3 (0, 0)) ∧ w4.grownBy (wr.setCell ⟨mb, i1 + t, none⟩ (.int .i64 1)) (some mb)) := ⟨by
                    refine ⟨?_, grown_trans g5 (grown_set _ _ _ _)⟩
                    rw [Joins.block_setCell H5.out.1, ← row_ext (fun j hj => mark_next g i1 t 1 K j hj), row_set]
                    simp⟩
                  have y1 : ((i1 : Int) + t).toNat = i1 + t := by omega
                  have y2 : (0 : Int) ≤ (i1 : Int) + t := by omega
                  have y3 : (i1 : Int) + t < (K : Int) := by omega
                  have y4 : (64 : Int) ≤ (i1 : Int) + t := by omega
                  have y5 : (i1 : Int) + t < (i1 : Int) + n1 := by omega
                  clear e5 e6 a5 fr zz H5 g5
                  go_wp2_with (go_at_call 14; refine RD.mono ?_; rintro e w6 ⟨rfl, hw⟩; rw [hw]; clear hw)
                  go_roundw
                  case rel => exact ⟨t + 1, by omega, by simp; omega, H6⟩
                  case measure => simp [intOf]; omega
                · obtain rfl : n1 = t := by omega
                  clear c1
                  have y5 : ¬ ((i1 : Int) + n1 < (i1 : Int) + n1) := by omega
                  go_wp2
                  go_roundw
                  case rel =>
                    have hwr : ∀ j, j ≠ mb → j < w4.heap.size → wr.heap[j]? = w4.heap[j]? := fun j q1 q2 => g5.block j q2 (by simpa using q1)
                    refine ⟨k + 1, _, _, _, _, _, by omega, by omega, by go_num, ⟨HT5.out.other g5 hmb (by omega) (fun i => by have := hqB.2.2.2.2 i; omega)⟩, ⟨by rw [Hnx.out]; exact HIV.out⟩, ⟨H5.out.1⟩, ⟨?_⟩, ⟨?_, ?_⟩⟩
                    · refine bool_cases _ true ?_ ?_
                      · have := HLn.out true; rw [updB_same]; simp [S0.add]; omega
                      · have := HLn.out (!true); rw [updB_not]; omega
                    · exact Chg.below bel4.out.1 (Chg.one (X := fun j => j = mb) g5 rfl) (by omega) (fun j e => by omega)
                    · exact (hwr q (by omega) (by omega)).trans bel4.out.2
                  case measure => simp [intOf]; omega
            · obtain ⟨e3, e2, e4⟩ := lay_no (xs := xs) (fun q => hE (hE4.trans q))
              have T5 : Tw B w4 s m (updB v true v4) (updB S true (S true)) p a pb ab N K f xs := by
                have := HT4.out
                rw [e2, e3, e4] at this
                exact this
              have HT5 := Hid.mk T5
              have Hnx : Hid ((fun i => (updB S true (S true) i).nx) = fun i => (S i).nx) := ⟨by funext i; cases i <;> simp [updB]⟩
              have hEb : (E != 0) = true := by simpa using hE
              clear e2 e3 e4 T5 hE4 HT4 H4 hA4
              go_wp2
              go_roundw
              case rel =>
                refine ⟨k + 1, _, _, _, _, _, by omega, by omega, by go_num, HT5, ⟨by rw [Hnx.out]; exact HI.out⟩, HM4, ⟨?_⟩, bel4⟩
                refine bool_cases _ true ?_ ?_
                · have := HLn.out true; rw [updB_same]; omega
                · have := HLn.out (!true); rw [updB_not]; omega
              case measure => simp [intOf]; omega
        · by_cases g1 : k < len
          · have g2 : 100 ≤ k := by omega
            clear hlt
            go_wp2
            go_ret
            exact ⟨rfl, HBr.out.1⟩
          · have g2 : len ≤ k := by omega
            clear hlt
            go_wp2
            go_ret
            exact ⟨rfl, HBr.out.1⟩


set_option maxRecDepth 100000 in
theorem lifted (os : Os) (started : os.Started) (H : Type) (enc : TypeId × Value → H) :
    ReturnsInHanded {} Try.checked os 4 .any (Rows.bumpApartSpec.pre6 enc Try.prog Try.f4 Rows.bumpApartRow.domain false) (Rows.bumpApartSpec.post enc Try.prog Try.f4 false true false false) := by
  refine returnsInHanded_of_change (C := Try.checked) own started (by kernel_rfl) Try.func4
    (ChangeSpec.witness6 (enc := enc) (C := Try.checked) false ⟨#[], #[.int .u8 0, .slice none 0 0], []⟩ 8 (by kernel_rfl) (by kernel_rfl) (by kernel_rfl) (by kernel_rfl)) ?_
  intro W base args ds gs before hval0 hW hcnd _
  have hval : ∀ (j : Nat) t v, Try.f4.params[j]? = some t → args[j]? = some v → Value.okWide Try.prog W .any base t v := hval0
  have hW' := hW
  obtain ⟨p, q, hA0, hV, rfl, hfz, hnd⟩ := hW
  have hA : DataW.TrodAll enc Try.prog W 0 (fun _ => true) true Try.f4.params.toList args.toList ds p := hA0
  rw [Try.params4] at hA hval
  obtain ⟨v0, vs0, d0, ds0, p0, q0, hargs, rfl, rfl, h0, r0⟩ := trodAll_cons hA
  obtain ⟨v1, vs1, d1, ds1, p1, q1, rfl, rfl, rfl, h1, r1⟩ := trodAll_cons r0
  obtain ⟨rfl, rfl, rfl⟩ := trodAll_nil r1
  obtain rfl : args = #[v0, v1] := by cases args; simp_all
  obtain ⟨rfl, rfl⟩ := trodVars_none hV
  have t0 := h0
  have lt0 : ∀ x ∈ p0, x.block < W.heap.size := by obtain ⟨m, hm⟩ := t0; exact DataW.trod_lt m _ _ _ hm
  obtain ⟨a0, rfl, hd0, hp0, w0⟩ := open_int Try.underlying5 (hval 0 5 v0 rfl rfl) h0
  have t1 := h1
  have lt1 : ∀ x ∈ p1, x.block < W.heap.size := by obtain ⟨m, hm⟩ := t1; exact DataW.trod_lt m _ _ _ hm
  obtain ⟨ad1, len1, cap1, rfl⟩ := okWide_slice Try.underlying23 (hval 1 23 v1 rfl rfl)
  have w1 := open_acts h1
  clear hA0 hval0
  refine (walk a0 ad1 len1 cap1 W (bounds_u8 w0) w1).mono fun e W' ⟨he, bel⟩ => ?_
  subst he
  exact ⟨_, rfl, _, _, _, [], _, [], hW', trodAll_mk1 (shut_bool Try.underlying4 _), (trodAll_cons_mk (Below.trod laidOut (by kernel_rfl) (of_decide_eq_true (by kernel_rfl)) t0 bel lt0) (trodAll_cons_mk (Below.trod laidOut (by kernel_rfl) (of_decide_eq_true (by kernel_rfl)) t1 bel lt1) trodAll_mk0)), rfl, bel.frame _, fun h => by cases h⟩

theorem over : Rows.bumpApartRow.holds Try.pinned (OpenSpec.ofChange Rows.bumpApartSpec) :=
  OpenClaim.holds_of_wide 4 Try.f4 rfl rfl rfl rfl rfl rfl rfl ⟨rfl, rfl, rfl, rfl, rfl⟩ rfl rfl rfl rfl rfl (by kernel_rfl) Try.func4 (by kernel_rfl)
    (of_decide_eq_true (by kernel_rfl)) (by unfold Func.isWrapper; first | (rw [if_pos (by decide +kernel)]; kernel_rfl) | (rw [if_neg (by decide +kernel)]; exact ⟨rfl, rfl⟩))
    (fun os started H enc _ => lifted os started H enc)
end Go.Proofs.Ytcallmfdigfhnaa.bumpApart

namespace Go.Proofs.Ytcallmfdigfhnaa
theorem bumpApart_holds : Rows.BumpApartSaid := bumpApart.over
#print axioms bumpApart_holds
end Go.Proofs.Ytcallmfdigfhnaa
