/- Package show's lines. -/
import Derived.Test.YtofgnpehlheeiaaGreatDoorShowC
import Derived.Test.YtofgnpehlheeiaaGreatDoorJoin
namespace Go.Proofs.YtofgnpehlheeiaaGreatDoor
open Go.RowKit
set_option linter.unusedVariables false
set_option linter.unusedSimpArgs false

theorem endsOf_len : ∀ (L : List (List ATok)) (n : Nat), (endsOf n L).length = L.length
  | [], _ => rfl
  | x :: L, n => by simp only [endsOf, List.length_cons, endsOf_len L]
theorem endsOf_get : ∀ (L : List (List ATok)) (n j : Nat), j < L.length → (endsOf n L)[j]? = some (n + (L.take (j + 1)).flatten.length)
  | [], _, j, h => absurd h (Nat.not_lt_zero _)
  | x :: L, n, 0, h => by simp [endsOf]
  | x :: L, n, j + 1, h => by
    simp only [endsOf, List.getElem?_cons_succ, endsOf_get L (n + x.length) j (by simpa using h), List.take_succ_cons, List.flatten_cons, List.length_append]
    rw [Nat.add_assoc]
theorem cellsA_get : ∀ (ts : List ATok) (i : Nat) (h : i < ts.length), (cellsA ts)[i * 4]? = some (.int .i64 (ts[i]'h).kind) ∧ (cellsA ts)[i * 4 + 1]? = some (.string (str (ts[i]'h).text)) ∧ (cellsA ts)[i * 4 + 2]? = some (.int .i64 (ts[i]'h).num) ∧ (cellsA ts)[i * 4 + 3]? = some (.int .i64 (ts[i]'h).at')
  | [], i, h => absurd h (Nat.not_lt_zero _)
  | t :: r, i, h => by
    have e : cellsA (t :: r) = .int .i64 t.kind :: .string (str t.text) :: .int .i64 t.num :: .int .i64 t.at' :: cellsA r := by simp [cellsA, tokA]
    cases i with
    | zero => rw [e]; exact ⟨rfl, rfl, rfl, rfl⟩
    | succ i =>
      have := cellsA_get r i (by simpa using h)
      rw [e, show (i + 1) * 4 = i * 4 + 1 + 1 + 1 + 1 by omega]
      simp only [List.getElem?_cons_succ, List.getElem_cons_succ]
      exact this
theorem lies_of {w : World} {g off : Nat} {ts : List ATok} (hx : ∀ j u, (cellsA ts)[j]? = some u → w.cell? ⟨g, off + j, none⟩ = some u) : LiesA w g off ts := fun i hi => by
  obtain ⟨a, b, c, d⟩ := cellsA_get ts i hi
  exact ⟨hx _ _ a, by rw [Nat.add_assoc]; exact hx _ _ b, by rw [Nat.add_assoc]; exact hx _ _ c, by rw [Nat.add_assoc]; exact hx _ _ d⟩
theorem lies_piece {w : World} {g off : Nat} {A x C : List ATok} (h : LiesA w g off (A ++ (x ++ C))) : LiesA w g (off + A.length * 4) x := fun i hi => by
  have := h (A.length + i) (by simp; omega)
  have e : (A ++ (x ++ C))[A.length + i]'(by simp; omega) = x[i]'hi := by
    rw [List.getElem_append_right (by omega)]
    simp only [Nat.add_sub_cancel_left]
    exact List.getElem_append_left hi
  rw [e, show off + (A.length + i) * 4 = off + A.length * 4 + i * 4 by omega] at this
  exact this
theorem part (L : List (List ATok)) (j : Nat) (h : j < L.length) : L.flatten = (L.take j).flatten ++ (L[j]'h ++ (L.drop (j + 1)).flatten) := by
  have e : L = L.take j ++ (L[j]'h :: L.drop (j + 1)) := by rw [← List.drop_eq_getElem_cons h, List.take_append_drop]
  have := congrArg List.flatten e
  rw [List.flatten_append, List.flatten_cons] at this
  exact this
theorem textL_take (L : List (List ATok)) (j : Nat) (h : j < L.length) : textL (L.take (j + 1)) = textL (L.take j) ++ lineT (L[j]'h) := by
  unfold textL
  rw [List.take_succ_eq_append_getElem h, List.flatMap_append]
  simp
theorem textL_le (L : List (List ATok)) (j : Nat) : (textL (L.take j)).length ≤ (textL L).length := by
  have : textL L = textL (L.take j) ++ textL (L.drop j) := by unfold textL; rw [← List.flatMap_append, List.take_append_drop]
  rw [this, List.length_append]
  omega
theorem trim_line (y : List UInt8) : (⟨(Lib.trimSuffix (str (y ++ [32])).data.toList (ByteArray.mk #[32]).data.toList).toArray⟩ : ByteArray) = str y := by
  have h : Lib.hasSuffix (y ++ [32]) [32] = true := by
    unfold Lib.hasSuffix
    rw [List.isSuffixOf_iff_suffix]
    exact List.suffix_append y [32]
  rw [str_list]
  unfold Lib.trimSuffix
  rw [show (ByteArray.mk #[32]).data.toList = [32] from rfl, h, if_pos rfl]
  simp [str]
theorem linesR_big {L : List (List ATok)} {j : Nat} (h : 16384 < (textL (L.take j)).length) : (if 16384 < (textL L).length then (.error 3 : Except Int (List UInt8)) else .ok (textL L)) = .error 3 := by
  rw [if_pos (by have := textL_le L j; omega)]

set_option maxRecDepth 100000 in
set_option maxHeartbeats 16000000 in
theorem lines_any (w : World) (La : Laid w) (L : List (List ATok)) (hL : ∀ x ∈ L, LineO x) (ga gc : Option Addr) (n ne cap1 cap2 : Nat) (hn : L.flatten.length = n) (hne : L.length = ne)
    (IT : IsToks w ga L.flatten) (hcap : n ≤ cap1) (hbig : n ≤ 2000000) (hcap' : cap1 ≤ 9223372036854775807)
    (IE : 0 < ne → ∃ g off, gc = some ⟨g, off, none⟩ ∧ ∀ j u, (endC (endsOf 0 L))[j]? = some u → w.cell? ⟨g, off + j, none⟩ = some u) (hne2 : ne ≤ 2000000) (R : Except Int (List UInt8)) (hR : R = if 16384 < (textL L).length then .error 3 else .ok (textL L)) :
    Calls Tryz.prog 10 #[.slice ga n cap1, .slice gc ne cap2] w fun r w' => r = .returned (.tuple #[.string (str (textS R)), .int .i64 (textE R)]) ∧ Below w.heap.size w w' := by
  have HR : Hid (R = if 16384 < (textL L).length then .error 3 else .ok (textL L)) := ⟨hR⟩
  have HL : Hid (∀ x ∈ L, LineO x) := ⟨hL⟩
  have HN : Hid (L.flatten.length = n) := ⟨hn⟩
  have HNE : Hid (L.length = ne) := ⟨hne⟩
  have HT : Hid (IsToks w ga L.flatten) := ⟨IT⟩
  have HIE : Hid (0 < ne → ∃ g off, gc = some ⟨g, off, none⟩ ∧ ∀ j u, (endC (endsOf 0 L))[j]? = some u → w.cell? ⟨g, off + j, none⟩ = some u) := ⟨IE⟩
  have BF := Lib.IsBuilderF.of (Lib.fresh_isBuilder 71 5 w)
  have B0 := Joins.below_alloc1 w (.cells #[.pointer none, .slice none 0 0] 71)
  have HBF : Hid (Lib.IsBuilderF 71 5 w.heap.size w.heap.size [] (w.alloc (.cells #[.pointer none, .slice none 0 0] 71))) := ⟨BF⟩
  clear hR hL hn hne IT IE BF
  go_enter Tryz.func10, Tryz.ntmps10
  go_wp2
  go_loopw [7, 14] (fun f c wr => ∃ j : Nat, c = .int .i64 j ∧ f = .int .i64 ((L.take j).flatten.length : Int) ∧ j ≤ ne ∧ Lib.IsBuilderF 71 5 w.heap.size w.heap.size (Lib.byteCells (textL (L.take j))) wr ∧ Hid ((textL (L.take j)).length ≤ 16384) ∧ Below w.heap.size w wr) (fun _ c _ => ne - (intOf c).toNat)
  case atStart => exact ⟨0, rfl, rfl, Nat.zero_le _, HBF.out, ⟨by simp [textL]⟩, B0⟩
  case round =>
    clear HBF B0
    obtain ⟨j, rfl, rfl, hj, IB, HLEN, BW⟩ := hrel
    have hbq : w.heap.size ≤ wr.heap.size := BW.size
    by_cases hlt : j < ne
    · have hlt0 : j < L.length := by rw [HNE.out]; exact hlt
      obtain ⟨gq, oq, rfl, hx⟩ := HIE.out (by omega)
      have PT := part L j hlt0
      have hsum : (L.take j).flatten.length + (L[j]'hlt0).length ≤ n := by have := congrArg List.length PT; simp only [List.length_append] at this; have := HN.out; omega
      have hto : (L.take (j + 1)).flatten.length = (L.take j).flatten.length + (L[j]'hlt0).length := by rw [List.take_succ_eq_append_getElem hlt0, List.flatten_append, List.length_append]; simp only [List.flatten_cons, List.flatten_nil, List.append_nil]
      have cx : wr.cell? ⟨gq, oq + j, none⟩ = some (.int .i64 (((L.take j).flatten.length + (L[j]'hlt0).length : Nat) : Int)) := by
        have q := hx j (.int .i64 (((L.take j).flatten.length + (L[j]'hlt0).length : Nat) : Int)) (by
          unfold endC
          rw [List.getElem?_map, endsOf_get L 0 j hlt0, hto]
          simp)
        exact (BW.cell (World.block_lt_of_cell? _ _ q)).trans q
      have HLJ := HL.out _ (List.getElem_mem hlt0)
      obtain ⟨⟨y, hxy, hy⟩, hgood⟩ := HLJ
      have hpos : 0 < (L[j]'hlt0).length := by rw [hxy]; simp
      obtain ⟨g, off, rfl, li⟩ := HT.out.1 (by have := HN.out; omega)
      have LP : LiesA wr g (off + (L.take j).flatten.length * 4) (L[j]'hlt0) := (lies_piece (by rw [← PT]; exact li)).later BW
      have fits : ∀ t ∈ L[j]'hlt0, Fit t := fun t ht => HT.out.2 t (by rw [PT]; exact List.mem_append_right _ (List.mem_append_left _ ht))
      have TX := textL_take L j hlt0
      have JR : joinR (L[j]'hlt0) = if 16384 < (joinL (L[j]'hlt0)).length then .error 3 else .ok (joinL (L[j]'hlt0)) := by
        unfold joinR
        rw [if_pos (List.all_eq_true.2 (fun t ht => (hgood t ht).1))]
      have JE : joinL (L[j]'hlt0) = (joinL y ++ [59]) ++ [32] := by rw [hxy, joinL_app]; simp [joinL, writ]
      have LE : lineT (L[j]'hlt0) = (joinL y ++ [59]) ++ [10] := by rw [hxy, lineT_eq]; simp
      have Q := join_any (some ⟨g, off + (L.take j).flatten.length * 4, none⟩) (L[j]'hlt0) (cap1 - (L.take j).flatten.length) wr (La.later BW) ⟨fun _ => ⟨g, _, rfl, LP⟩, fits⟩ (by omega)
      have TL1 := textL_le L (j + 1)
      have HB1 : Hid (16384 < (textL (L.take (j + 1))).length → R = .error 3) := ⟨fun q => by rw [HR.out]; exact linesR_big q⟩
      have HTO : Hid ((L.take (j + 1)).flatten.length = (L.take j).flatten.length + (L[j]'hlt0).length) := ⟨hto⟩
      generalize L[j]'hlt0 = x at *
      generalize hF : (L.take j).flatten.length = F at *
      generalize hU : joinL y ++ [59] = U at *
      rw [JE] at JR
      rw [JR] at Q
      obtain ⟨A, hA⟩ : ∃ A, textL (L.take j) = A := ⟨_, rfl⟩
      obtain ⟨A1, hA1⟩ : ∃ A1, textL (L.take (j + 1)) = A1 := ⟨_, rfl⟩
      rw [hA] at IB HLEN
      obtain ⟨X, hX⟩ : ∃ X, x.length = X := ⟨_, rfl⟩
      rw [hX] at cx hsum hpos Q HTO
      have HA1 : Hid (A1 = A ++ (U ++ [10])) := ⟨by rw [← hA1, TX, hA, LE]⟩
      rw [hA1] at HB1
      have HA2 : Hid (textL (L.take (j + 1)) = A1) := ⟨hA1⟩
      clear PT hx li LP fits TX JR JE LE TL1 hxy hgood hto hlt0 hF hU hA hA1 hX hy
      have i1 : (0 : Int) ≤ F := by omega
      have i2 : (F : Int) ≤ ((F + X : Nat) : Int) := by omega
      have i3 : ((F + X : Nat) : Int) ≤ cap1 := by omega
      have i4 : F + X - F = X := by omega
      have i5 : ¬ cap1 - F = 0 := by omega
      have hlt' : (j : Int) < ne := by omega
      by_cases big : 16384 < (U ++ [32]).length
      · rw [if_pos big] at Q
        simp only [joinS, joinE] at Q
        have HX : Hid (R = .error 3) := ⟨HB1.out (by rw [HA1.out]; simp only [List.length_append, List.length_cons, List.length_nil] at big ⊢; omega)⟩
        clear big
        go_wp2_with (go_at_call 20; refine Q.mono ?_; rintro r w1 ⟨rfl, B1⟩)
        go_ret2
        rw [HX.out]
        exact ⟨rfl, BW.trans (Joins.below_le B1 BW.size)⟩
      · rw [if_neg big] at Q
        simp only [joinS, joinE] at Q
        have HUL : Hid (U.length ≤ 16384) := ⟨by simp only [List.length_append, List.length_cons, List.length_nil] at big; omega⟩
        have TS : ∀ w', Calls Tryz.prog 22 #[.string (str (U ++ [32])), .string ⟨#[32]⟩] w' fun e w'' => e = .returned (.string (str U)) ∧ w'' = w' := fun w' => by
          have q := Tryz.strings_TrimSuffix (str (U ++ [32])) ⟨#[32]⟩ w' (by rw [str_size]; simp; have := HUL.out; omega)
          rw [trim_line] at q
          exact q
        obtain ⟨Z, hZ⟩ : ∃ Z, str (U ++ [32]) = Z := ⟨_, rfl⟩
        rw [hZ] at Q TS
        obtain ⟨m, hm⟩ : ∃ m, A1.length = m := ⟨_, rfl⟩
        have HM : Hid (A1.length = m) := ⟨hm⟩
        have HIB : Hid (Lib.IsBuilderF 71 5 w.heap.size w.heap.size (Lib.byteCells A) wr) := ⟨IB⟩
        clear big hm hZ IB
        by_cases big2 : 16384 < m
        · have hb' : (16384 : Int) < m := by omega
          go_wp2_with (first
            | (go_at_call 20; refine Q.mono ?_; rintro r w1 ⟨rfl, B1⟩; have I1 := bF_later HIB.out B1; have C1 := BW.trans (Joins.below_le B1 BW.size); have S1 := B1.size)
            | (go_at_call 22; refine (TS _).mono ?_; rintro r w2 ⟨rfl, hw⟩; subst w2)
            | (go_at_call_of 21 (Value.string { data := #[10] }); refine (Tryz.Builder_WriteString_k w.heap.size w.heap.size _ ⟨#[10]⟩ _ (.inr I3) (by rw [List.length_append, Lib.byteCells_length, Lib.strCells_length, str_size]; have := HLEN.out; have := HUL.out; show _ + 1 ≤ _; omega) (by have := B3.size; omega)).mono ?_; rintro r w4 ⟨rfl, I4, B4, _⟩)
            | (go_at_call 21; refine (Tryz.Builder_WriteString_k w.heap.size w.heap.size _ (str U) _ I1 (by rw [Lib.byteCells_length, str_size]; have := HLEN.out; have := HUL.out; omega) (by omega)).mono ?_; rintro r w3 ⟨rfl, I3, B3, _⟩)
            | (go_at_call 23; refine (Tryz.Builder_Len_f w.heap.size w.heap.size _ _ (.inr I4)).mono ?_; rintro r w5 ⟨rfl, hw⟩; subst w5; rw [show ((Lib.byteCells A ++ Lib.strCells (str U)) ++ Lib.strCells ⟨#[10]⟩).length = m by rw [← HM.out, HA1.out]; simp [Lib.byteCells_length, Lib.strCells_length, str_size]; rfl]))
          have HX : Hid (R = .error 3) := ⟨HB1.out (by rw [HM.out]; exact big2)⟩
          go_ret2
          rw [HX.out]
          exact ⟨rfl, (C1.trans B3).trans B4⟩
        · have hb' : ¬ (16384 : Int) < m := by omega
          go_wp2_with (first
            | (go_at_call 20; refine Q.mono ?_; rintro r w1 ⟨rfl, B1⟩; have I1 := bF_later HIB.out B1; have C1 := BW.trans (Joins.below_le B1 BW.size); have S1 := B1.size)
            | (go_at_call 22; refine (TS _).mono ?_; rintro r w2 ⟨rfl, hw⟩; subst w2)
            | (go_at_call_of 21 (Value.string { data := #[10] }); refine (Tryz.Builder_WriteString_k w.heap.size w.heap.size _ ⟨#[10]⟩ _ (.inr I3) (by rw [List.length_append, Lib.byteCells_length, Lib.strCells_length, str_size]; have := HLEN.out; have := HUL.out; show _ + 1 ≤ _; omega) (by have := B3.size; omega)).mono ?_; rintro r w4 ⟨rfl, I4, B4, _⟩)
            | (go_at_call 21; refine (Tryz.Builder_WriteString_k w.heap.size w.heap.size _ (str U) _ I1 (by rw [Lib.byteCells_length, str_size]; have := HLEN.out; have := HUL.out; omega) (by omega)).mono ?_; rintro r w3 ⟨rfl, I3, B3, _⟩)
            | (go_at_call 23; refine (Tryz.Builder_Len_f w.heap.size w.heap.size _ _ (.inr I4)).mono ?_; rintro r w5 ⟨rfl, hw⟩; subst w5; rw [show ((Lib.byteCells A ++ Lib.strCells (str U)) ++ Lib.strCells ⟨#[10]⟩).length = m by rw [← HM.out, HA1.out]; simp [Lib.byteCells_length, Lib.strCells_length, str_size]; rfl]))
          go_roundw
          case rel => exact ⟨j + 1, by go_num, by rw [HTO.out]; go_num, by omega, by rw [HA2.out, HA1.out, ← List.append_assoc, Lib.byteCells_append, Lib.byteCells_append]; exact .inr I4, ⟨by rw [HA2.out, HM.out]; omega⟩, (C1.trans B3).trans B4⟩
          case measure => simp [intOf]; omega
    · obtain rfl : j = ne := by omega
      have e1 : L.take j = L := List.take_of_length_le (by rw [HNE.out]; exact Nat.le_refl _)
      rw [e1] at IB HLEN
      have HX : Hid (R = .ok (textL L)) := ⟨by rw [HR.out, if_neg (by have := HLEN.out; omega)]⟩
      have Q := Tryz.Builder_String_any_k w.heap.size w.heap.size (textL L) wr IB hbq
      generalize textL L = acc at *
      clear IB HLEN
      go_wp2_with (go_at_call 24; refine Q.mono ?_; rintro r w1 ⟨rfl, _, B1, _⟩)
      go_ret2
      rw [HX.out]
      exact ⟨rfl, BW.trans B1⟩

end Go.Proofs.YtofgnpehlheeiaaGreatDoor
