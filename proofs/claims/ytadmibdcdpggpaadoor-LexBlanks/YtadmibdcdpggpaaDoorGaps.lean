/- The law's own blanks and remarks; a slice of texts that came in, opened. -/
import Derived.Test.YtadmibdcdpggpaaDoorRefJoin
import Derived.Test.YtadmibdcdpggpaaDoorNamed
namespace Go.Proofs.YtadmibdcdpggpaaDoor
open Go.RowKit
set_option linter.unusedVariables false

/-- blanks and remarks by a text, as the law makes them -/
def pieceG (c : UInt8) : List UInt8 := if c.toNat % 4 = 0 then [45, 45, c, 61, 10] else if c.toNat % 4 = 1 then [10] else if c.toNat % 4 = 2 then [13] else [32]
def gapP (l : List UInt8) : List UInt8 := l.flatMap pieceG
def gapL (l : List UInt8) : List UInt8 := gapP (l.take 12) ++ [32]
theorem gap_piece (c : UInt8) : Gap (pieceG c) := by
  unfold pieceG
  by_cases h0 : c.toNat % 4 = 0
  · rw [if_pos h0]
    exact gap_remark (g := []) (by omega) gap_nil
  · rw [if_neg h0]
    by_cases h1 : c.toNat % 4 = 1
    · rw [if_pos h1]; exact gap_blank (by decide) gap_nil
    · rw [if_neg h1]
      by_cases h2 : c.toNat % 4 = 2
      · rw [if_pos h2]; exact gap_blank (by decide) gap_nil
      · rw [if_neg h2]; exact gap_blank (by decide) gap_nil
theorem gap_P : ∀ l, Gap (gapP l)
  | [] => gap_nil
  | c :: r => by unfold gapP; rw [List.flatMap_cons]; exact gap_app (gap_piece c) (gap_P r)
theorem gap_L (l : List UInt8) : Gap (gapL l) := gap_app (gap_P _) (gap_blank (by decide) gap_nil)
theorem piece_len (c : UInt8) : (pieceG c).length ≤ 5 := by
  unfold pieceG
  repeat' split
  all_goals simp
theorem gapP_len : ∀ l : List UInt8, (gapP l).length ≤ 5 * l.length
  | [] => by simp [gapP]
  | c :: r => by
    have := piece_len c
    have ih := gapP_len r
    unfold gapP at ih ⊢
    rw [List.flatMap_cons, List.length_append, List.length_cons]
    omega
theorem gapL_len (l : List UInt8) : (gapL l).length ≤ 61 := by
  have := gapP_len (l.take 12)
  unfold gapL
  rw [List.length_append]
  simp only [List.length_take, List.length_cons, List.length_nil] at this ⊢
  omega
theorem gapP_snoc (l : List UInt8) (k : Nat) (h : k < l.length) : gapP (l.take (k + 1)) = gapP (l.take k) ++ pieceG (l[k]'h) := by
  unfold gapP
  rw [take_snoc l k h, List.flatMap_append]
  simp

def IsStrs (w : World) (a : Option Addr) (ss : List (List UInt8)) : Prop := (0 < ss.length → ∃ g off, a = some ⟨g, off, none⟩ ∧ ∀ (i : Nat) (h : i < ss.length), w.cell? ⟨g, off + i, none⟩ = some (.string (str (ss[i]'h)))) ∧ ∀ s ∈ ss, s.length ≤ 9223372036854775807
section
variable {H : Type} {enc : TypeId × Value → H} {w : World} {base : Nat} {spare : Nat → Bool} {held : Bool}
theorem open_strs {a : Option Addr} {len cap : Nat} {d : DataW H} {p : List MemPlace} (h : DataW.Trod enc Tryd.prog w base spare held 34 (.slice a len cap) d p) : ∃ ss : List (List UInt8), ss.length = len ∧ IsStrs w a ss := by
  have c9 : Tryd.prog.cellsOf 9 = 1 := by kernel_rfl
  obtain ⟨fuel, hf⟩ := h
  rcases Deep.open_slice1 Tryd.underlying34 c9 hf with ⟨hcs, _⟩ | ⟨x, l, c, m, n, V, D, Pl, hcs, _, hl, hm, hmm, hx0, hx⟩
  · simp [Value.cells] at hcs
    obtain ⟨rfl, rfl, rfl⟩ := hcs
    exact ⟨[], rfl, fun q => absurd q (Nat.lt_irrefl _), fun t ht => by cases ht⟩
  · simp [Value.cells] at hcs
    obtain ⟨rfl, rfl, rfl⟩ := hcs
    have hlm : len ≤ m := by rw [hmm]; split <;> omega
    obtain ⟨S, hS⟩ := Deep.choose_lt (α := List UInt8) (n := len) (p := fun i s => w.cell? (x.add i) = some (.string (str s)) ∧ s.length ≤ 9223372036854775807) (fun i hi => by
      obtain ⟨hc, ht⟩ := hx i (by omega)
      obtain ⟨s, e, _, hs⟩ := DataW.trod_string Tryd.underlying9 ht
      simp only [List.cons.injEq, and_true] at e
      refine ⟨s.data.toList, ?_, ?_⟩
      · rw [hc, e, ← str_eq (s := s) rfl]
      · rw [size_list]; unfold maxLen at hs; omega)
    refine ⟨(List.range len).map S, by simp, fun hq => ?_, fun t ht => ?_⟩
    · simp at hq
      obtain ⟨B, O, spot⟩ := x
      have hs : spot = none := by
        obtain ⟨hc0, _⟩ := hS 0 hq
        simp [Addr.add] at hc0
        simpa using World.cell?_spot hc0
      subst hs
      refine ⟨B, O, rfl, fun i hi => ?_⟩
      simp at hi
      obtain ⟨hc, _⟩ := hS i hi
      have e : (⟨B, O, none⟩ : Addr).add i = ⟨B, O + i, none⟩ := by simp [Addr.add]
      rw [e] at hc
      simp only [List.getElem_map, List.getElem_range]
      exact hc
    · obtain ⟨i, hi, rfl⟩ := List.mem_map.1 ht
      exact (hS i (List.mem_range.1 hi)).2
end
theorem news5 {W : World} {g : Nat} {a b c d e : Value} {ty : TypeId} (h : W.heap[g]? = some (.cells #[a, b, c, d, e] ty (0, 0))) : ∀ j u, [a, b, c, d, e][j]? = some u → W.cell? ((⟨g, 0, none⟩ : Addr).add j) = some u := World.news_of_block h

set_option maxRecDepth 100000 in
set_option maxHeartbeats 4000000 in
theorem gap_any (s : ByteArray) (hs : s.size ≤ 9223372036854775807) (w : World) :
    Calls Tryd.prog 19 #[.string s] w fun e w' => e = .returned (.string (str (gapL s.data.toList))) ∧ Below w.heap.size w w' := by
  go_enter Tryd.func19, Tryd.ntmps19
  go_wp2
  go_loopw [3, 4] (fun v c wr => ∃ k : Nat, c = .int .i64 k ∧ k ≤ s.size ∧ k ≤ 12 ∧ BRow wr w.heap.size v (gapP (s.data.toList.take k)) ∧ Below w.heap.size w wr) (fun _ c _ => 12 - (intOf c).toNat)
  case atStart => exact ⟨0, rfl, Nat.zero_le _, Nat.zero_le _, BRow.made w, Joins.below_alloc1 _ _⟩
  case round =>
    obtain ⟨k, rfl, hk, hk12, RW, BR⟩ := hrel
    have hlen := gapP_len (s.data.toList.take k)
    simp only [List.length_take] at hlen
    by_cases hlt : k < s.size ∧ k < 12
    · obtain ⟨hlt, h12⟩ := hlt
      have hkl : k < s.data.toList.length := by rw [size_list]; exact hlt
      have SN := gapP_snoc s.data.toList k hkl
      rw [show s.data.toList[k]'hkl = s[k]'hlt from rfl] at SN
      obtain ⟨acc, hacc⟩ : ∃ acc, gapP (s.data.toList.take k) = acc := ⟨_, rfl⟩
      rw [hacc] at RW SN hlen
      obtain ⟨g2, cap2, rfl⟩ := RW.form
      have HR : Hid (BRow wr w.heap.size (.slice (some ⟨g2, 0, none⟩) acc.length cap2) acc) := ⟨RW⟩
      have HSN : Hid (gapP (s.data.toList.take (k + 1)) = acc ++ pieceG (s[k]'hlt)) := ⟨SN⟩
      have HL : Hid (acc.length ≤ 60) := ⟨by omega⟩
      have z1 : (k : Int) < s.size := by omega
      have z2 : (k : Int) < 12 := by omega
      clear hacc RW SN hlen hkl
      have hm4 : (s[k]'hlt).toNat % 4 = 0 ∨ (s[k]'hlt).toNat % 4 = 1 ∨ (s[k]'hlt).toNat % 4 = 2 ∨ (s[k]'hlt).toNat % 4 = 3 := by omega
      rcases hm4 with h | h | h | h
      · have h' : ((s[k]'hlt).toNat : Int) % 4 = 0 := by omega
        have HP : Hid (pieceG (s[k]'hlt) = [45, 45, s[k]'hlt, 61, 10]) := ⟨by unfold pieceG; rw [if_pos h]⟩
        have d10 : (((s[k]'hlt).toNat : Int) != 10) = true := by simp; omega
        clear h
        go_wp2_with (at_builtin; obtain ⟨i0, hi, hz0, hz1, hz2⟩ := info_parts info5; refine wpList_append_own _ rfl _ _ 47 rfl w.heap.size 5 i0 _ 1 1 Tryd.underlying47 hi hz0 hz1 hz2 rfl (by decide) (.slice (some ⟨g2, 0, none⟩) acc.length cap2) acc.length (Lib.byteCells acc) rfl (HR.out.later (Joins.below_alloc1 _ _)).1 ⟨wr.heap.size, 0, none⟩ 5 5 [.int .u8 45, .int .u8 45, .int .u8 ((s[k]'hlt).toNat : Int), .int .u8 61, .int .u8 10] rfl rfl (news5 (heap_alloc_new _ _)) (by simp [Value.oneCell']) (by have := HL.out; unfold maxLen; omega) (by have := HL.out; omega) (by have := BR.size; simp; omega) ?_; intro v3 w3 hown3 hgrow3 hnil3; clear hi hz0 hz1 hz2; have RM3 := brow_more (m := [45, 45, s[k]'hlt, 61, 10]) (BR.trans (Joins.below_le (Joins.below_alloc1 _ _) BR.size)) (HR.out.later (Joins.below_alloc1 _ _)) hown3 hgrow3 (by simpa using hnil3); have HM3 : Hid (BRow w3 w.heap.size v3 (acc ++ [45, 45, s[k]'hlt, 61, 10]) ∧ Below w.heap.size w w3) := ⟨RM3⟩; clear RM3 hown3 hgrow3 hnil3)
        go_roundw
        case rel => exact ⟨k + 1, by go_num, by omega, by omega, by rw [HSN.out, HP.out]; exact HM3.out.1, HM3.out.2⟩
        case measure => simp [intOf]; omega
      · have h' : ((s[k]'hlt).toNat : Int) % 4 = 1 := by omega
        have HP : Hid (pieceG (s[k]'hlt) = [10]) := ⟨by unfold pieceG; rw [if_neg (by omega), if_pos h]⟩
        clear h
        go_wp2_with (at_builtin; obtain ⟨i0, hi, hz0, hz1, hz2⟩ := info_parts info5; refine wpList_append_own _ rfl _ _ 47 rfl w.heap.size 5 i0 _ 1 1 Tryd.underlying47 hi hz0 hz1 hz2 rfl (by decide) (.slice (some ⟨g2, 0, none⟩) acc.length cap2) acc.length (Lib.byteCells acc) rfl (HR.out.later (Joins.below_alloc1 _ _)).1 ⟨wr.heap.size, 0, none⟩ 1 1 [.int .u8 10] rfl rfl (news1 (heap_alloc_new _ _)) (by simp [Value.oneCell']) (by have := HL.out; unfold maxLen; omega) (by have := HL.out; omega) (by have := BR.size; simp; omega) ?_; intro v3 w3 hown3 hgrow3 hnil3; clear hi hz0 hz1 hz2; have RM3 := brow_more (m := [10]) (BR.trans (Joins.below_le (Joins.below_alloc1 _ _) BR.size)) (HR.out.later (Joins.below_alloc1 _ _)) hown3 hgrow3 (by simpa using hnil3); have HM3 : Hid (BRow w3 w.heap.size v3 (acc ++ [10]) ∧ Below w.heap.size w w3) := ⟨RM3⟩; clear RM3 hown3 hgrow3 hnil3)
        go_roundw
        case rel => exact ⟨k + 1, by go_num, by omega, by omega, by rw [HSN.out, HP.out]; exact HM3.out.1, HM3.out.2⟩
        case measure => simp [intOf]; omega
      · have h' : ((s[k]'hlt).toNat : Int) % 4 = 2 := by omega
        have HP : Hid (pieceG (s[k]'hlt) = [13]) := ⟨by unfold pieceG; rw [if_neg (by omega), if_neg (by omega), if_pos h]⟩
        clear h
        go_wp2_with (at_builtin; obtain ⟨i0, hi, hz0, hz1, hz2⟩ := info_parts info5; refine wpList_append_own _ rfl _ _ 47 rfl w.heap.size 5 i0 _ 1 1 Tryd.underlying47 hi hz0 hz1 hz2 rfl (by decide) (.slice (some ⟨g2, 0, none⟩) acc.length cap2) acc.length (Lib.byteCells acc) rfl (HR.out.later (Joins.below_alloc1 _ _)).1 ⟨wr.heap.size, 0, none⟩ 1 1 [.int .u8 13] rfl rfl (news1 (heap_alloc_new _ _)) (by simp [Value.oneCell']) (by have := HL.out; unfold maxLen; omega) (by have := HL.out; omega) (by have := BR.size; simp; omega) ?_; intro v3 w3 hown3 hgrow3 hnil3; clear hi hz0 hz1 hz2; have RM3 := brow_more (m := [13]) (BR.trans (Joins.below_le (Joins.below_alloc1 _ _) BR.size)) (HR.out.later (Joins.below_alloc1 _ _)) hown3 hgrow3 (by simpa using hnil3); have HM3 : Hid (BRow w3 w.heap.size v3 (acc ++ [13]) ∧ Below w.heap.size w w3) := ⟨RM3⟩; clear RM3 hown3 hgrow3 hnil3)
        go_roundw
        case rel => exact ⟨k + 1, by go_num, by omega, by omega, by rw [HSN.out, HP.out]; exact HM3.out.1, HM3.out.2⟩
        case measure => simp [intOf]; omega
      · have h' : ((s[k]'hlt).toNat : Int) % 4 = 3 := by omega
        have HP : Hid (pieceG (s[k]'hlt) = [32]) := ⟨by unfold pieceG; rw [if_neg (by omega), if_neg (by omega), if_neg (by omega)]⟩
        clear h
        go_wp2_with (at_builtin; obtain ⟨i0, hi, hz0, hz1, hz2⟩ := info_parts info5; refine wpList_append_own _ rfl _ _ 47 rfl w.heap.size 5 i0 _ 1 1 Tryd.underlying47 hi hz0 hz1 hz2 rfl (by decide) (.slice (some ⟨g2, 0, none⟩) acc.length cap2) acc.length (Lib.byteCells acc) rfl (HR.out.later (Joins.below_alloc1 _ _)).1 ⟨wr.heap.size, 0, none⟩ 1 1 [.int .u8 32] rfl rfl (news1 (heap_alloc_new _ _)) (by simp [Value.oneCell']) (by have := HL.out; unfold maxLen; omega) (by have := HL.out; omega) (by have := BR.size; simp; omega) ?_; intro v3 w3 hown3 hgrow3 hnil3; clear hi hz0 hz1 hz2; have RM3 := brow_more (m := [32]) (BR.trans (Joins.below_le (Joins.below_alloc1 _ _) BR.size)) (HR.out.later (Joins.below_alloc1 _ _)) hown3 hgrow3 (by simpa using hnil3); have HM3 : Hid (BRow w3 w.heap.size v3 (acc ++ [32]) ∧ Below w.heap.size w w3) := ⟨RM3⟩; clear RM3 hown3 hgrow3 hnil3)
        go_roundw
        case rel => exact ⟨k + 1, by go_num, by omega, by omega, by rw [HSN.out, HP.out]; exact HM3.out.1, HM3.out.2⟩
        case measure => simp [intOf]; omega
    · have HX : Hid (gapP (s.data.toList.take k) = gapP (s.data.toList.take 12)) := ⟨by
        rcases Nat.lt_or_ge k s.size with q | q
        · rw [show k = 12 by omega]
        · have e1 : s.data.toList.take k = s.data.toList := List.take_of_length_le (by rw [size_list]; exact q)
          have e2 : s.data.toList.take 12 = s.data.toList := List.take_of_length_le (by rw [size_list]; omega)
          rw [e1, e2]⟩
      obtain ⟨acc, hacc⟩ : ∃ acc, gapP (s.data.toList.take k) = acc := ⟨_, rfl⟩
      rw [hacc] at RW hlen HX
      obtain ⟨g2, cap2, rfl⟩ := RW.form
      have HR : Hid (BRow wr w.heap.size (.slice (some ⟨g2, 0, none⟩) acc.length cap2) acc) := ⟨RW⟩
      have HL : Hid (acc.length ≤ 60) := ⟨by omega⟩
      clear hacc RW hlen
      by_cases q : k < s.size
      · have z1 : (k : Int) < s.size := by omega
        have z2 : ¬ (k : Int) < 12 := by omega
        go_wp2_with (at_builtin; obtain ⟨i0, hi, hz0, hz1, hz2⟩ := info_parts info5; refine wpList_append_own _ rfl _ _ 47 rfl w.heap.size 5 i0 _ 1 1 Tryd.underlying47 hi hz0 hz1 hz2 rfl (by decide) (.slice (some ⟨g2, 0, none⟩) acc.length cap2) acc.length (Lib.byteCells acc) rfl (HR.out.later (Joins.below_alloc1 _ _)).1 ⟨wr.heap.size, 0, none⟩ 1 1 [.int .u8 32] rfl rfl (news1 (heap_alloc_new _ _)) (by simp [Value.oneCell']) (by have := HL.out; unfold maxLen; omega) (by have := HL.out; omega) (by have := BR.size; simp; omega) ?_; intro v3 w3 hown3 hgrow3 hnil3; clear hi hz0 hz1 hz2; have RM3 := brow_more (m := [32]) (BR.trans (Joins.below_le (Joins.below_alloc1 _ _) BR.size)) (HR.out.later (Joins.below_alloc1 _ _)) hown3 hgrow3 (by simpa using hnil3); obtain ⟨R3, C3⟩ := RM3; clear hown3 hgrow3 hnil3; obtain ⟨al, hal⟩ : ∃ al, acc ++ [32] = al := ⟨_, rfl⟩; rw [hal] at R3; have HAL : Hid (acc ++ [32] = al) := ⟨hal⟩; clear hal; obtain ⟨g4, cap4, rfl⟩ := R3.form; have hC := R3.text; clear R3)
        go_ret
        exact ⟨by unfold gapL; rw [← HX.out, HAL.out]; rfl, C3⟩
      · have z1 : ¬ (k : Int) < s.size := by omega
        go_wp2_with (at_builtin; obtain ⟨i0, hi, hz0, hz1, hz2⟩ := info_parts info5; refine wpList_append_own _ rfl _ _ 47 rfl w.heap.size 5 i0 _ 1 1 Tryd.underlying47 hi hz0 hz1 hz2 rfl (by decide) (.slice (some ⟨g2, 0, none⟩) acc.length cap2) acc.length (Lib.byteCells acc) rfl (HR.out.later (Joins.below_alloc1 _ _)).1 ⟨wr.heap.size, 0, none⟩ 1 1 [.int .u8 32] rfl rfl (news1 (heap_alloc_new _ _)) (by simp [Value.oneCell']) (by have := HL.out; unfold maxLen; omega) (by have := HL.out; omega) (by have := BR.size; simp; omega) ?_; intro v3 w3 hown3 hgrow3 hnil3; clear hi hz0 hz1 hz2; have RM3 := brow_more (m := [32]) (BR.trans (Joins.below_le (Joins.below_alloc1 _ _) BR.size)) (HR.out.later (Joins.below_alloc1 _ _)) hown3 hgrow3 (by simpa using hnil3); obtain ⟨R3, C3⟩ := RM3; clear hown3 hgrow3 hnil3; obtain ⟨al, hal⟩ : ∃ al, acc ++ [32] = al := ⟨_, rfl⟩; rw [hal] at R3; have HAL : Hid (acc ++ [32] = al) := ⟨hal⟩; clear hal; obtain ⟨g4, cap4, rfl⟩ := R3.form; have hC := R3.text; clear R3)
        go_ret
        exact ⟨by unfold gapL; rw [← HX.out, HAL.out]; rfl, C3⟩

end Go.Proofs.YtadmibdcdpggpaaDoor
