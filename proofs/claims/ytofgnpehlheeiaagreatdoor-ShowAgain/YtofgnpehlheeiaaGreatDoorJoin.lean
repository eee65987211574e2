/- Package lex's Join. -/
import Derived.Test.YtofgnpehlheeiaaGreatDoorTkn
namespace Go.Proofs.YtofgnpehlheeiaaGreatDoor
open Go.RowKit
set_option linter.unusedVariables false

theorem bF_later {T e : TypeId} {B b : Nat} {bs : List Value} {w w' : World} (h : Lib.IsBuilderF T e B b bs w) (hb : Below w.heap.size w w') : Lib.IsBuilderF T e B b bs w' := by
  have one : ∀ p, Lib.BuilderAtF T e B b p bs w → Lib.BuilderAtF T e B b p bs w' := fun p h => by
    have hlt := h.lt
    obtain ⟨hB, v, hv, hown, hne⟩ := h
    exact ⟨hB, v, (hb.block b hlt).trans hv, hown.kept (row := none) ⟨hb.os, hb.tape, hb.output, hb.size, fun k hk _ => hb.block k hk⟩ (by cases v.ownBlock <;> simp), hne⟩
  exact h.elim (fun x => .inl (one _ x)) (fun x => .inr (one _ x))
def joinS : Except Int (List UInt8) → List UInt8
  | .ok l => l
  | .error _ => []
def joinE : Except Int (List UInt8) → Int
  | .ok _ => 0
  | .error e => e
theorem join_snoc (ts : List ATok) (k : Nat) (h : k < ts.length) : joinL (ts.take (k + 1)) = joinL (ts.take k) ++ writ (ts[k]'h) ++ [32] := by
  unfold joinL
  rw [List.take_succ_eq_append_getElem h, List.flatMap_append]
  simp
theorem join_le (ts : List ATok) (k : Nat) : (joinL (ts.take k)).length ≤ (joinL ts).length := by
  have : joinL ts = joinL (ts.take k) ++ joinL (ts.drop k) := by
    unfold joinL
    rw [← List.flatMap_append, List.take_append_drop]
  rw [this, List.length_append]
  omega
theorem join_bad {ts : List ATok} {k : Nat} (h : k < ts.length) (hb : okT (ts[k]'h) = false) : joinR ts = .error 2 := by
  unfold joinR
  rw [if_neg]
  intro q
  have := List.all_eq_true.1 q _ (List.getElem_mem h)
  rw [hb] at this
  cases this
theorem all_of {ts : List ATok} (h : ∀ i (hi : i < ts.length), okT (ts[i]'hi) = true) : ts.all okT = true :=
  List.all_eq_true.2 fun t ht => by
    obtain ⟨i, hi, rfl⟩ := List.mem_iff_getElem.1 ht
    exact h i hi
theorem tok_at {w wr : World} {ga : Option Addr} {ts : List ATok} (T : IsToks w ga ts) (BR : Below w.heap.size w wr) (k : Nat) (hk : k < ts.length) :
    ∃ g off, ga = some ⟨g, off, none⟩ ∧ wr.cell? ⟨g, off + k * 4, none⟩ = some (.int .i64 (ts[k]'hk).kind) ∧ wr.cell? ⟨g, off + k * 4 + 1, none⟩ = some (.string (str (ts[k]'hk).text)) ∧
      wr.cell? ⟨g, off + k * 4 + 2, none⟩ = some (.int .i64 (ts[k]'hk).num) ∧ wr.cell? ⟨g, off + k * 4 + 3, none⟩ = some (.int .i64 (ts[k]'hk).at') := by
  obtain ⟨g, off, e, l⟩ := T.1 (by omega)
  exact ⟨g, off, e, (l.later BR) k hk⟩

set_option maxRecDepth 100000 in
set_option maxHeartbeats 4000000 in
theorem join_any (ga : Option Addr) (ts : List ATok) (cap : Nat) (w : World) (L : Laid w) (T : IsToks w ga ts) (hn : ts.length ≤ 140737488351232) :
    Calls Tryz.prog 20 #[.slice ga ts.length cap] w fun e w' => e = .returned (.tuple #[.string (str (joinS (joinR ts))), .int .i64 (joinE (joinR ts))]) ∧ Below w.heap.size w w' := by
  obtain ⟨n, hnn⟩ : ∃ n, ts.length = n := ⟨_, rfl⟩
  have HN : Hid (ts.length = n) := ⟨hnn⟩
  have HT : Hid (IsToks w ga ts) := ⟨T⟩
  rw [hnn] at hn ⊢
  clear hnn T
  go_enter Tryz.func20, Tryz.ntmps20
  go_wp2
  go_loopw [11] (fun c wr => ∃ k : Nat, c = .int .i64 k ∧ k ≤ n ∧ Hid (∀ i (hi : i < ts.length), i < k → okT (ts[i]'hi) = true) ∧ Below w.heap.size w wr) (fun c _ => n - (intOf c).toNat)
  case atStart => exact ⟨0, rfl, Nat.zero_le _, ⟨fun i _ h => absurd h (Nat.not_lt_zero _)⟩, Below.refl _ _⟩
  case round =>
    obtain ⟨k, rfl, hk, HA, BR⟩ := hrel
    by_cases hlt : k < n
    · have hkl : k < ts.length := by rw [HN.out]; exact hlt
      obtain ⟨g, off, rfl, c0, c1, c2, c3⟩ := tok_at HT.out BR k hkl
      have F := HT.out.2 _ (List.getElem_mem hkl)
      have B0 := Joins.below_alloc1 wr (Obj.cells #[Value.int .i64 (ts[k]'hkl).kind, .string (str (ts[k]'hkl).text), .int .i64 (ts[k]'hkl).num, .int .i64 (ts[k]'hkl).at'] 58)
      have Q := isToken_any (ts[k]'hkl) F _ ((L.later BR).later B0)
      unfold atokV at Q
      have HB : Hid (okT (ts[k]'hkl) = false → joinR ts = .error 2) := ⟨join_bad hkl⟩
      have HC : Hid (okT (ts[k]'hkl) = true → ∀ i (hi : i < ts.length), i < k + 1 → okT (ts[i]'hi) = true) := ⟨fun q i hi hik => by
        rcases Nat.lt_or_ge i k with t | t
        · exact HA.out i hi t
        · obtain rfl : i = k := by omega
          exact q⟩
      generalize ts[k]'hkl = t at *
      obtain ⟨tk, tx, tn, ta⟩ := t
      simp only at c0 c1 c2 c3 Q
      have hlt' : (k : Int) < n := by omega
      generalize okT ⟨tk, tx, tn, ta⟩ = b at *
      clear HA F hkl B0
      cases b
      · go_wp2_with (go_at_call 39; refine Q.mono ?_; rintro e w1 ⟨rfl, B1⟩)
        go_ret2
        rw [HB.out (by simp)]
        exact ⟨rfl, BR.trans (Joins.below_le (far1 B1) BR.size)⟩
      · go_wp2_with (go_at_call 39; refine Q.mono ?_; rintro e w1 ⟨rfl, B1⟩)
        go_roundw
        case rel => exact ⟨k + 1, by go_num, by omega, ⟨HC.out (by simp)⟩, BR.trans (Joins.below_le (far1 B1) BR.size)⟩
        case measure => simp [intOf]; omega
    · obtain rfl : k = n := by omega
      obtain ⟨wb, rfl⟩ : ∃ x : World, x = wr := ⟨_, rfl⟩
      have HALL : Hid (ts.all okT = true) := ⟨all_of (fun i hi => HA.out i hi (by rw [← HN.out]; exact hi))⟩
      clear HA
      have BF := Lib.IsBuilderF.of (Lib.fresh_isBuilder 71 5 wb)
      have B0 := BR.trans (Joins.below_le (Joins.below_alloc1 wb (.cells #[.pointer none, .slice none 0 0] 71)) BR.size)
      have HBF : Hid (Lib.IsBuilderF 71 5 wb.heap.size wb.heap.size [] (wb.alloc (.cells #[.pointer none, .slice none 0 0] 71))) := ⟨BF⟩
      have BS := BR.size
      clear BF
      go_wp2
      go_loopw [21] (fun c wr => ∃ j : Nat, c = .int .i64 j ∧ j ≤ k ∧ Lib.IsBuilderF 71 5 wb.heap.size wb.heap.size (Lib.byteCells (joinL (ts.take j))) wr ∧ (joinL (ts.take j)).length ≤ 16384 ∧ Below w.heap.size w wr) (fun c _ => k - (intOf c).toNat)
      case atStart => exact ⟨0, rfl, Nat.zero_le _, HBF.out, by simp [joinL], B0⟩
      case round =>
        obtain ⟨j, rfl, hj, IB, hlen, BQ⟩ := hrel
        by_cases hjl : j < k
        · have hkl : j < ts.length := by rw [HN.out]; exact hjl
          obtain ⟨g, off, rfl, c0, c1, c2, c3⟩ := tok_at HT.out BQ j hkl
          have F := HT.out.2 _ (List.getElem_mem hkl)
          have OK := List.all_eq_true.1 HALL.out _ (List.getElem_mem hkl)
          have LW := (writ_read OK F.2.1).2.2
          have B1 := Joins.below_alloc1 wr (Obj.cells #[Value.int .i64 (ts[j]'hkl).kind, .string (str (ts[j]'hkl).text), .int .i64 (ts[j]'hkl).num, .int .i64 (ts[j]'hkl).at'] 58)
          have Q := written_any (ts[j]'hkl) F _ ((L.later BQ).later B1)
          have JS := join_snoc ts j hkl
          have JL := join_le ts (j + 1)
          have IB1 := bF_later IB B1
          have hbq : wb.heap.size ≤ wr.heap.size := by rcases IB with q | q <;> exact Nat.le_of_lt q.lt
          unfold atokV at Q
          generalize ts[j]'hkl = t at *
          obtain ⟨tk, tx, tn, ta⟩ := t
          simp only at c0 c1 c2 c3 Q IB1
          generalize writ ⟨tk, tx, tn, ta⟩ = u at *
          generalize joinL (ts.take j) = acc at *
          generalize hjn : joinL (ts.take (j + 1)) = nx at *
          have hlt' : (j : Int) < k := by omega
          have us : (str u).size = u.length := str_size u
          have HLW : Hid (u.length ≤ 32) := ⟨LW⟩
          have HJS : Hid (nx = acc ++ u ++ [32]) := ⟨JS⟩
          have HJL : Hid (nx.length ≤ (joinL ts).length) := ⟨JL⟩
          have HAL : Hid (acc.length ≤ 16384) := ⟨hlen⟩
          have HIB : Hid (Lib.IsBuilderF 71 5 wb.heap.size wb.heap.size (Lib.byteCells acc) (wr.alloc (Obj.cells #[Value.int .i64 tk, .string (str tx), .int .i64 tn, .int .i64 ta] 58))) := ⟨IB1⟩
          have HJN : Hid (joinL (ts.take (j + 1)) = nx) := ⟨hjn⟩
          have HUS : Hid ((str u).size = u.length) := ⟨us⟩
          have hnl : nx.length = acc.length + u.length + 1 := by rw [JS]; simp; omega
          have BQB : Hid (wb.heap.size ≤ wr.heap.size) := ⟨hbq⟩
          clear F OK B1 IB IB1 LW JS JL hlen hjn us hkl
          obtain ⟨m, hm⟩ : ∃ m : Nat, nx.length = m := ⟨_, rfl⟩
          have HM : Hid (nx.length = m) := ⟨hm⟩
          rw [hm] at hnl
          clear hm
          by_cases big : 16384 < m
          · have hb' : (16384 : Int) < m := by omega
            clear hnl
            go_wp2_with (first
              | (go_at_call 40; refine Q.mono ?_; rintro e w1 ⟨rfl, B1⟩; have I1 := bF_later HIB.out B1; have C1 := BQ.trans (Joins.below_le (far1 B1) BQ.size); have S1 := (far1 B1).size; have BQB' := BQB.out)
              | (go_at_call 21; refine (Tryz.Builder_WriteString_k wb.heap.size wb.heap.size _ (str u) _ I1 (by rw [Lib.byteCells_length, HUS.out]; have := HLW.out; have := HAL.out; omega) (by omega)).mono ?_; rintro e w2 ⟨rfl, I2, B2, _⟩)
              | (go_at_call 41; refine (Tryz.Builder_WriteByte_k wb.heap.size wb.heap.size _ 32 _ (.inr I2) (by rw [List.length_append, Lib.byteCells_length, Lib.strCells_length, HUS.out]; have := HLW.out; have := HAL.out; omega) (by have := B2.size; omega)).mono ?_; rintro e w3 ⟨rfl, I3, B3, _⟩)
              | (go_at_call 23; refine (Tryz.Builder_Len_f wb.heap.size wb.heap.size _ _ (.inr I3)).mono ?_; rintro e w4 ⟨rfl, hw⟩; subst w4; rw [show ((Lib.byteCells acc ++ Lib.strCells (str u)) ++ [Value.int .u8 32]).length = m by rw [← HM.out, HJS.out]; simp [Lib.byteCells_length, Lib.strCells_length, str_size]]))
            have HX : Hid (joinR ts = .error 3) := ⟨by
              unfold joinR
              rw [if_pos HALL.out, if_pos (by have := HJL.out; have := HM.out; omega)]⟩
            have C2 := C1.trans (Joins.below_le B2 BS)
            have C3 := C2.trans (Joins.below_le B3 BS)
            go_ret2
            rw [HX.out]
            exact ⟨rfl, C3⟩
          · have hb' : ¬ (16384 : Int) < m := by omega
            clear hnl
            go_wp2_with (first
              | (go_at_call 40; refine Q.mono ?_; rintro e w1 ⟨rfl, B1⟩; have I1 := bF_later HIB.out B1; have C1 := BQ.trans (Joins.below_le (far1 B1) BQ.size); have S1 := (far1 B1).size; have BQB' := BQB.out)
              | (go_at_call 21; refine (Tryz.Builder_WriteString_k wb.heap.size wb.heap.size _ (str u) _ I1 (by rw [Lib.byteCells_length, HUS.out]; have := HLW.out; have := HAL.out; omega) (by omega)).mono ?_; rintro e w2 ⟨rfl, I2, B2, _⟩)
              | (go_at_call 41; refine (Tryz.Builder_WriteByte_k wb.heap.size wb.heap.size _ 32 _ (.inr I2) (by rw [List.length_append, Lib.byteCells_length, Lib.strCells_length, HUS.out]; have := HLW.out; have := HAL.out; omega) (by have := B2.size; omega)).mono ?_; rintro e w3 ⟨rfl, I3, B3, _⟩)
              | (go_at_call 23; refine (Tryz.Builder_Len_f wb.heap.size wb.heap.size _ _ (.inr I3)).mono ?_; rintro e w4 ⟨rfl, hw⟩; subst w4; rw [show ((Lib.byteCells acc ++ Lib.strCells (str u)) ++ [Value.int .u8 32]).length = m by rw [← HM.out, HJS.out]; simp [Lib.byteCells_length, Lib.strCells_length, str_size]]))
            have C2 := C1.trans (Joins.below_le B2 BS)
            have C3 := C2.trans (Joins.below_le B3 BS)
            go_roundw
            case rel => exact ⟨j + 1, by go_num, by omega, by rw [HJN.out, HJS.out, Lib.byteCells_append, Lib.byteCells_append]; exact .inr I3, by rw [HJN.out, HM.out]; omega, C3⟩
            case measure => simp [intOf]; omega
        · obtain rfl : j = k := by omega
          have HX : Hid (joinR ts = .ok (joinL (ts.take j))) := ⟨by
            have ht : ts.take j = ts := List.take_of_length_le (by rw [HN.out]; exact Nat.le_refl _)
            rw [ht] at hlen ⊢
            unfold joinR
            rw [if_pos HALL.out, if_neg (by omega)]⟩
          have hbq : wb.heap.size ≤ wr.heap.size := by rcases IB with q | q <;> exact Nat.le_of_lt q.lt
          have Q := Tryz.Builder_String_any_k wb.heap.size wb.heap.size (joinL (ts.take j)) wr IB hbq
          generalize joinL (ts.take j) = acc at *
          clear IB hlen
          go_wp2_with (go_at_call 24; refine Q.mono ?_; rintro e w1 ⟨rfl, _, B1, _⟩)
          go_ret2
          rw [HX.out]
          exact ⟨rfl, BQ.trans (Joins.below_le B1 BS)⟩

end Go.Proofs.YtofgnpehlheeiaaGreatDoor
