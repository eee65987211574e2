/- The document's own Join. -/
import Derived.Test.YtadmibdcdpggpaaDoorText
import Derived.Lib.AppendStr
namespace Go.Proofs.YtadmibdcdpggpaaDoor
open Go.RowKit
set_option linter.unusedVariables false
theorem news1 {W : World} {g : Nat} {v : Value} {ty : TypeId} (h : W.heap[g]? = some (.cells #[v] ty (0, 0))) : ∀ j u, [v][j]? = some u → W.cell? ((⟨g, 0, none⟩ : Addr).add j) = some u := World.news_of_block h

theorem info5 : (Tryd.prog.info? 5).map (fun i => (i.zero, i.size, i.bytes)) = some (some (.int .u8 0), 1, 1) := by kernel_rfl
/-- A row of bytes of the call's own. -/
def BRow (w : World) (base : Nat) (v : Value) (l : List UInt8) : Prop := w.ownsRow base 5 1 v l.length (Lib.byteCells l) ∧ v ≠ .slice none 0 0
theorem BRow.later {w w' : World} {base : Nat} {v : Value} {l : List UInt8} (h : BRow w base v l) (hb : Below w.heap.size w w') : BRow w' base v l :=
  ⟨World.ownsRow.kept (row := none) h.1 ⟨hb.os, hb.tape, hb.output, hb.size, fun k hk _ => hb.block k hk⟩ (by cases v.ownBlock <;> simp), h.2⟩
theorem BRow.form {w : World} {base : Nat} {v : Value} {l : List UInt8} (h : BRow w base v l) : ∃ g cap, v = .slice (some ⟨g, 0, none⟩) l.length cap := by
  rcases h.1.2 with ⟨e, _⟩ | ⟨g, cap, _, e, _⟩
  · exact absurd e h.2
  · exact ⟨g, cap, e⟩
theorem BRow.made (w : World) : BRow (w.alloc (.cells #[] 5)) w.heap.size (.slice (some ⟨w.heap.size, 0, none⟩) 0 0) [] :=
  ⟨World.ownsRow_made w #[] 0 (Nat.le_refl _) (Nat.zero_le _) rfl, by simp⟩
theorem BRow.text {w : World} {base : Nat} {g cap : Nat} {l : List UInt8} (h : BRow w base (.slice (some ⟨g, 0, none⟩) l.length cap) l) :
    (convert 47 9 (.slice (some ⟨g, 0, none⟩) l.length cap)).run Tryd.prog w = .ok (.string (str l)) w :=
  run_convert_bytes_back w 47 9 5 ⟨g, 0, none⟩ cap l Tryd.underlying47 Tryd.underlying5 Tryd.underlying9 (fun j hj => by
    have e : (⟨g, 0, none⟩ : Addr).add j = ⟨g, j, none⟩ := by
      have := add_add g 0 0 j
      simpa [Addr.add] using this
    have := h.1.cellAt j (by omega)
    rw [e, this]
    simp [Lib.byteCells, hj])
/-- What an append leaves. -/
theorem brow_more {w W w1 : World} {v v' : Value} {l m : List UInt8} (hB : Below w.heap.size w W) (h : BRow W w.heap.size v l)
    (hown : w1.ownsRow w.heap.size 5 1 v' (l.length + m.length) (Lib.byteCells l ++ Lib.byteCells m)) (hg : W.grownBy w1 v.ownBlock) (hn : v' = .slice none 0 0 ↔ v = .slice none 0 0 ∧ m.length = 0) : BRow w1 w.heap.size v' (l ++ m) ∧ Below w.heap.size w w1 := by
  refine ⟨⟨?_, fun q => h.2 (hn.1 q).1⟩, hB.grown hg hB.size (fun j hj => (h.1.lt j hj).1)⟩
  rw [Lib.byteCells_append, List.length_append]
  exact hown

set_option maxRecDepth 100000 in
set_option maxHeartbeats 4000000 in
theorem rjoin_any (ga : Option Addr) (ts : List ATok) (cap : Nat) (w : World) (T : IsToks w ga ts) (hn : ts.length ≤ 140737488351232) :
    Calls Tryd.prog 16 #[.slice ga ts.length cap] w fun e w' => e = .returned (.tuple #[.string (str (joinS (joinR ts))), .int .i64 (joinE (joinR ts))]) ∧ Below w.heap.size w w' := by
  obtain ⟨n, hnn⟩ : ∃ n, ts.length = n := ⟨_, rfl⟩
  have HN : Hid (ts.length = n) := ⟨hnn⟩
  have HT : Hid (IsToks w ga ts) := ⟨T⟩
  rw [hnn] at hn ⊢
  clear hnn T
  go_enter Tryd.func16, Tryd.ntmps16
  go_wp2
  go_loopw [4, 5] (fun v c wr => ∃ (k j : Nat), c = .int .i64 k ∧ k ≤ n ∧ j ≤ k ∧ Hid (∀ i (hi : i < ts.length), i < k → okT (ts[i]'hi) = true) ∧ BRow wr w.heap.size v (joinL (ts.take j)) ∧ (joinL (ts.take j)).length ≤ 16417 ∧
      Hid (j = k ∨ 16384 < (joinL (ts.take j)).length) ∧ Below w.heap.size w wr) (fun _ c _ => n - (intOf c).toNat)
  case atStart => exact ⟨0, 0, rfl, Nat.zero_le _, Nat.le_refl _, ⟨fun i _ h => absurd h (Nat.not_lt_zero _)⟩, BRow.made w, by simp [joinL], ⟨.inl rfl⟩, Joins.below_alloc1 _ _⟩
  case round =>
    obtain ⟨k, j, rfl, hk, hjk, HA, RW, hlen, HJ, BR⟩ := hrel
    obtain ⟨g2, cap2, rfl⟩ := RW.form
    by_cases hlt : k < n
    · have hkl : k < ts.length := by rw [HN.out]; exact hlt
      obtain ⟨g, off, rfl, c0, c1, c2, c3⟩ := tok_at HT.out BR k hkl
      have F := HT.out.2 _ (List.getElem_mem hkl)
      obtain ⟨s, HS, Q⟩ := text_any (ts[k]'hkl) F
      unfold atokV at Q
      have HB : Hid (okT (ts[k]'hkl) = false → joinR ts = .error 2) := ⟨join_bad hkl⟩
      have HC : Hid (okT (ts[k]'hkl) = true → ∀ i (hi : i < ts.length), i < k + 1 → okT (ts[i]'hi) = true) := ⟨fun q i hi hik => by
        rcases Nat.lt_or_ge i k with t | t
        · exact HA.out i hi t
        · obtain rfl : i = k := by omega
          exact q⟩
      have HW : Hid (okT (ts[k]'hkl) = true → (writ (ts[k]'hkl)).length ≤ 32) := ⟨fun q => (writ_read q F.2.1).2.2⟩
      have HSN : Hid (joinL (ts.take (k + 1)) = joinL (ts.take k) ++ writ (ts[k]'hkl) ++ [32]) := ⟨join_snoc ts k hkl⟩
      generalize ts[k]'hkl = t at *
      have HWt : Hid (okT t = true → s = str (writ t)) := HS
      obtain ⟨u, hu⟩ : ∃ u, writ t = u := ⟨_, rfl⟩
      rw [hu] at HWt HW HSN
      clear hu HS
      obtain ⟨tk, tx, tn, ta⟩ := t
      simp only at c0 c1 c2 c3 Q
      have hlt' : (k : Int) < n := by omega
      generalize okT ⟨tk, tx, tn, ta⟩ = b at *
      have HR : Hid (BRow wr w.heap.size (.slice (some ⟨g2, 0, none⟩) (joinL (ts.take j)).length cap2) (joinL (ts.take j))) := ⟨RW⟩
      clear HA F hkl RW
      cases b
      · go_wp2_with (go_at_call 18; refine (Q _).mono ?_; rintro e w1 ⟨rfl, B1⟩)
        go_ret2
        rw [HB.out (by simp)]
        exact ⟨rfl, BR.trans (Joins.below_le B1 BR.size)⟩
      · have hus := HWt.out rfl
        subst hus
        have hul := HW.out rfl
        have uss : (str u).size = u.length := str_size u
        have HAc : Hid (∀ i (hi : i < ts.length), i < k + 1 → okT (ts[i]'hi) = true) := ⟨HC.out rfl⟩
        clear HC HW HWt HB
        by_cases hbig : (joinL (ts.take j)).length ≤ 16384
        · obtain rfl : j = k := by rcases HJ.out with q | q; exact q; omega
          generalize hacc : joinL (ts.take j) = acc at *
          have hb' : (acc.length : Int) ≤ 16384 := by omega
          have HQ : Hid (joinL (ts.take (j + 1)) = acc ++ u ++ [32]) := ⟨HSN.out⟩
          have HU : Hid (u.length ≤ 32) := ⟨hul⟩
          have HS : Hid ((str u).size = u.length) := ⟨uss⟩
          have HAL : Hid (acc.length ≤ 16384) := ⟨hbig⟩
          clear hacc hlen HJ HSN hul uss hbig
          go_wp2_with (first
            | (go_at_call 18; refine (Q _).mono ?_; rintro e w1 ⟨rfl, B1⟩; have R1 := HR.out.later B1; have C1 := BR.trans (Joins.below_le B1 BR.size))
            | (at_builtin; obtain ⟨i0, hi, hz0, hz1, hz2⟩ := info_parts info5; refine Lib.wpList_append_own_string _ rfl _ _ 47 9 rfl w.heap.size 5 i0 Tryd.underlying47 Tryd.underlying9 hi hz0 hz1 hz2 _ acc.length (Lib.byteCells acc) rfl R1.1 (str u) rfl (by rw [HS.out]; have := HU.out; have := HAL.out; unfold maxLen; omega) (by rw [HS.out]; have := HU.out; have := HAL.out; omega) C1.size ?_; intro v' w2 hown' hgrow' hnil'; clear hi hz0 hz1 hz2; have RM := brow_more (m := u) C1 R1 (by rw [HS.out] at hown'; exact hown') hgrow' (by rw [HS.out] at hnil'; exact hnil'); obtain ⟨au, hau⟩ : ∃ au, acc ++ u = au := ⟨_, rfl⟩; rw [hau] at RM; have HAU : Hid (acc ++ u = au) := ⟨hau⟩; have HLU : Hid (au.length ≤ 16416) := ⟨by rw [← hau, List.length_append]; have := HU.out; have := HAL.out; omega⟩; clear hau; obtain ⟨R2, C2⟩ := RM; clear hown' hgrow' hnil'; obtain ⟨g3, cap3, rfl⟩ := R2.form; have HR2 : Hid (BRow w2 w.heap.size (.slice (some ⟨g3, 0, none⟩) au.length cap3) au) := ⟨R2⟩; clear R2 R1)
            | (at_builtin; obtain ⟨i0, hi, hz0, hz1, hz2⟩ := info_parts info5; refine wpList_append_own _ rfl _ _ 47 rfl w.heap.size 5 i0 _ 1 1 Tryd.underlying47 hi hz0 hz1 hz2 rfl (by decide) (.slice (some ⟨g3, 0, none⟩) au.length cap3) au.length (Lib.byteCells au) rfl (HR2.out.later (Joins.below_alloc1 _ _)).1 ⟨w2.heap.size, 0, none⟩ 1 1 [.int .u8 32] rfl rfl (news1 (heap_alloc_new _ _)) (by simp [Value.oneCell']) (by have := HLU.out; unfold maxLen; omega) (by have := HLU.out; omega) (by have := C2.size; simp; omega) ?_; intro v3 w3 hown3 hgrow3 hnil3; clear hi hz0 hz1 hz2; have RM3 := brow_more (m := [32]) (C2.trans (Joins.below_le (Joins.below_alloc1 _ _) C2.size)) (HR2.out.later (Joins.below_alloc1 _ _)) hown3 hgrow3 (by simpa using hnil3); have HM3 : Hid (BRow w3 w.heap.size v3 (au ++ [32]) ∧ Below w.heap.size w w3) := ⟨RM3⟩; clear RM3 hown3 hgrow3 hnil3))
          go_roundw
          case rel => exact ⟨j + 1, j + 1, by go_num, by omega, Nat.le_refl _, HAc, by rw [HQ.out, HAU.out]; exact HM3.out.1, by rw [HQ.out, HAU.out]; have := HLU.out; simp; omega, ⟨.inl rfl⟩, HM3.out.2⟩
          case measure => simp [intOf]; omega
        · have hb' : ¬ ((joinL (ts.take j)).length : Int) ≤ 16384 := by omega
          have HJ2 : Hid (16384 < (joinL (ts.take j)).length) := ⟨by omega⟩
          have HLN : Hid ((joinL (ts.take j)).length ≤ 16417) := ⟨hlen⟩
          clear hlen HJ HSN
          go_wp2_with (go_at_call 18; refine (Q _).mono ?_; rintro e w1 ⟨rfl, B1⟩)
          go_roundw
          case rel => exact ⟨k + 1, j, by go_num, by omega, by omega, HAc, HR.out.later B1, HLN.out, ⟨.inr HJ2.out⟩, BR.trans (Joins.below_le B1 BR.size)⟩
          case measure => simp [intOf]; omega
    · obtain rfl : k = n := by omega
      have HALL : Hid (ts.all okT = true) := ⟨all_of (fun i hi => HA.out i hi (by rw [← HN.out]; exact hi))⟩
      clear HA
      by_cases hbig : 16384 < (joinL (ts.take j)).length
      · have HX : Hid (joinR ts = .error 3) := ⟨by
          unfold joinR
          rw [if_pos HALL.out, if_pos (by have := join_le ts j; omega)]⟩
        have hb' : (16384 : Int) < (joinL (ts.take j)).length := by omega
        go_wp2
        go_ret2
        rw [HX.out]
        exact ⟨rfl, BR⟩
      · obtain rfl : j = k := by rcases HJ.out with q | q; exact q; omega
        have ht : ts.take j = ts := List.take_of_length_le (by rw [HN.out]; exact Nat.le_refl _)
        have HX : Hid (joinR ts = .ok (joinL (ts.take j))) := ⟨by
          rw [ht] at hbig ⊢
          unfold joinR
          rw [if_pos HALL.out, if_neg hbig]⟩
        have hb' : ¬ (16384 : Int) < (joinL (ts.take j)).length := by omega
        have hC := RW.text
        clear ht RW hbig HJ hlen
        generalize joinL (ts.take j) = acc at *
        go_wp2
        go_ret2
        rw [HX.out]
        exact ⟨rfl, BR⟩

end Go.Proofs.YtadmibdcdpggpaaDoor
