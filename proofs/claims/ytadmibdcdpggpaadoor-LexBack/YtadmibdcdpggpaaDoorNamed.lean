/- The law's own list of tokens with just the fields that they have; the comparison without places. -/
import Derived.Test.YtadmibdcdpggpaaDoorJoin
import Derived.Test.YtadmibdcdpggpaaDoorShort
namespace Go.Proofs.YtadmibdcdpggpaaDoor
open Go.RowKit
set_option linter.unusedVariables false

/-- Kinds, texts and numbers lie in memory from a place on, four cells each. -/
def Lies3 (w : World) (g off : Nat) (ts : List T3) : Prop := ∀ (i : Nat) (h : i < ts.length),
  w.cell? ⟨g, off + i * 4, none⟩ = some (.int .i64 (ts[i]'h).kind) ∧ w.cell? ⟨g, off + i * 4 + 1, none⟩ = some (.string (str (ts[i]'h).text)) ∧
  w.cell? ⟨g, off + i * 4 + 2, none⟩ = some (.int .i64 (ts[i]'h).num)
theorem Lies3.later {w w' : World} {g off : Nat} {ts : List T3} (h : Lies3 w g off ts) (hb : Below w.heap.size w w') : Lies3 w' g off ts := fun i hi => by
  obtain ⟨a, b, c⟩ := h i hi
  exact ⟨(hb.cell (World.block_lt_of_cell? _ _ a)).trans a, (hb.cell (World.block_lt_of_cell? _ _ b)).trans b, (hb.cell (World.block_lt_of_cell? _ _ c)).trans c⟩
theorem Lies.three {w : World} {g off : Nat} {ts : List Tok} (h : Lies w g off ts) : Lies3 w g off (ts.map Go.Proofs.YtadmibdcdpggpaaDoor.three) := fun i hi => by
  obtain ⟨a, b, c, _⟩ := h i (by simpa using hi)
  simp only [List.getElem_map, Go.Proofs.YtadmibdcdpggpaaDoor.three]
  exact ⟨a, b, c⟩

set_option maxHeartbeats 20000000 in
theorem same3 (w : World) (ga : Option Addr) (gb : Option Addr) (n cap cap' : Nat) (xs : List T3) (la : xs.length = n)
    (A : 0 < n → ∃ g off, ga = some ⟨g, off, none⟩ ∧ Lies3 w g off xs) (B : 0 < n → ∃ g off, gb = some ⟨g, off, none⟩ ∧ Lies3 w g off xs) (hn : n ≤ 1000000000000000) :
    Calls Tryd.prog 12 #[.slice ga n cap, .slice gb n cap', .bool false] w fun e w' => e = .returned (.bool true) ∧ Below w.heap.size w w' := by
  go_enter Tryd.func12, Tryd.ntmps12
  go_wp2
  go_loopw [7] (fun c wr => ∃ k : Nat, c = .int .i64 k ∧ k ≤ n ∧ Below w.heap.size w wr) (fun c _ => n - (intOf c).toNat)
  case atStart => exact ⟨0, rfl, Nat.zero_le _, Below.refl _ _⟩
  case round =>
    obtain ⟨k, rfl, hk, BR⟩ := hrel
    by_cases hlt : k < n
    · obtain ⟨g, off, rfl, A'⟩ := A (by omega)
      obtain ⟨g', off', rfl, B'⟩ := B (by omega)
      clear A B
      obtain ⟨a0, a1, a2⟩ := A' k (by omega)
      obtain ⟨b0, b1, b2⟩ := B' k (by omega)
      have a0 := (BR.cell (World.block_lt_of_cell? _ _ a0)).trans a0
      have a1 := (BR.cell (World.block_lt_of_cell? _ _ a1)).trans a1
      have a2 := (BR.cell (World.block_lt_of_cell? _ _ a2)).trans a2
      have b0 := (BR.cell (World.block_lt_of_cell? _ _ b0)).trans b0
      have b1 := (BR.cell (World.block_lt_of_cell? _ _ b1)).trans b1
      have b2 := (BR.cell (World.block_lt_of_cell? _ _ b2)).trans b2
      generalize xs[k]'(by omega) = ta at *
      obtain ⟨ka, xa, na⟩ := ta
      simp only at a0 a1 a2 b0 b1 b2
      clear A' B' la
      have hlt' : (k : Int) < n := by omega
      have d2 : ((str xa).toList == (str xa).toList) = true := by simp
      go_wp2
      go_quiet (fail)
      go_wp2
      go_roundw
      case rel => exact ⟨k + 1, by go_num, by omega, drewB BR _⟩
      case measure => simp [intOf]; omega
    · obtain rfl : k = n := by omega
      clear A B la
      go_wp2
      go_ret
      exact ⟨rfl, BR⟩

def atokC (t : ATok) : List Value := [.int .i64 t.kind, .string (str t.text), .int .i64 t.num, .int .i64 t.at']
def cellsA (ts : List ATok) : List Value := ts.flatMap atokC
theorem cellsA_snoc (ts : List ATok) (t : ATok) : cellsA (ts ++ [t]) = cellsA ts ++ atokC t := by simp [cellsA]
def ARow (w : World) (base : Nat) (v : Value) (ts : List ATok) : Prop := w.ownsRow base 38 4 v ts.length (cellsA ts)
theorem ARow.later {w w' : World} {base : Nat} {v : Value} {ts : List ATok} (h : ARow w base v ts) (hb : Below w.heap.size w w') : ARow w' base v ts :=
  World.ownsRow.kept (row := none) h ⟨hb.os, hb.tape, hb.output, hb.size, fun k hk _ => hb.block k hk⟩ (by cases v.ownBlock <;> simp)
theorem cellsA_get : ∀ (ts : List ATok) (i : Nat) (h : i < ts.length), (cellsA ts)[i * 4]? = some (.int .i64 (ts[i]'h).kind) ∧ (cellsA ts)[i * 4 + 1]? = some (.string (str (ts[i]'h).text)) ∧
    (cellsA ts)[i * 4 + 2]? = some (.int .i64 (ts[i]'h).num)
  | [], _, h => absurd h (Nat.not_lt_zero _)
  | t :: r, 0, _ => ⟨rfl, rfl, rfl⟩
  | t :: r, i + 1, h => by
    have ih := cellsA_get r i (by simpa using h)
    have e : ∀ j, (cellsA (t :: r))[(i + 1) * 4 + j]? = (cellsA r)[i * 4 + j]? := fun j => by
      rw [show (i + 1) * 4 + j = i * 4 + j + 4 by omega]
      rfl
    have e0 := e 0
    simp only [Nat.add_zero] at e0
    rw [e0, e 1, e 2]
    exact ih
def threeA (t : ATok) : T3 := ⟨t.kind, t.text, t.num⟩
theorem ARow.form {w : World} {base : Nat} {v : Value} {ts : List ATok} (h : ARow w base v ts) : ∃ ga cap, v = .slice ga ts.length cap ∧ (0 < ts.length → ∃ g off, ga = some ⟨g, off, none⟩ ∧ Lies3 w g off (ts.map threeA)) := by
  rcases h.2 with ⟨rfl, h0⟩ | ⟨g, cap, cur, rfl, hb, hg, X⟩
  · exact ⟨none, 0, by rw [h0], fun q => by omega⟩
  · refine ⟨_, cap, rfl, fun _ => ⟨g, 0, rfl, fun i hi => ?_⟩⟩
    have hi' : i < ts.length := by simpa using hi
    have hh : w.ownsRow base 38 4 (.slice (some ⟨g, 0, none⟩) ts.length cap) ts.length (cellsA ts) := h
    obtain ⟨c0, c1, c2⟩ := cellsA_get ts i hi'
    rw [hh.cellAt _ (by omega), hh.cellAt _ (by omega), hh.cellAt _ (by omega)]
    rw [Nat.zero_add]
    simp only [List.getElem_map, threeA]
    exact ⟨c0, c1, c2⟩
theorem arow_more {w W w1 : World} {v v' : Value} {ts : List ATok} {t : ATok} (hB : Below w.heap.size w W) (h : ARow W w.heap.size v ts)
    (hown : w1.ownsRow w.heap.size 38 4 v' (ts.length + 1) (cellsA ts ++ atokC t)) (hg : W.grownBy w1 v.ownBlock) : ARow w1 w.heap.size v' (ts ++ [t]) ∧ Below w.heap.size w w1 := by
  refine ⟨?_, hB.grown hg hB.size (fun j hj => (h.lt j hj).1)⟩
  unfold ARow
  rw [cellsA_snoc, List.length_append]
  exact hown
/-- the law's own: a token with just the fields that its kind has -/
def nm (t : ATok) : ATok := if t.kind = 4 then ⟨t.kind, [], t.num, t.at'⟩ else ⟨t.kind, t.text, 0, t.at'⟩
theorem nm_three (t : ATok) : threeA (nm t) = nameT t := by
  unfold nm nameT threeA
  by_cases h : t.kind = 4 <;> simp [h]
theorem take_snoc {α : Type} (ts : List α) (k : Nat) (h : k < ts.length) : ts.take (k + 1) = ts.take k ++ [ts[k]'h] := List.take_succ_eq_append_getElem h

set_option maxRecDepth 100000 in
set_option maxHeartbeats 4000000 in
theorem named_any (ga : Option Addr) (ts : List ATok) (cap : Nat) (w : World) (T : IsToks w ga ts) (hn : ts.length ≤ 16384) :
    Calls Tryd.prog 17 #[.slice ga ts.length cap] w fun e w' => ∃ v, e = .returned v ∧ ARow w' w.heap.size v (ts.map nm) ∧ Below w.heap.size w w' := by
  obtain ⟨n, hnn⟩ : ∃ n, ts.length = n := ⟨_, rfl⟩
  have HN : Hid (ts.length = n) := ⟨hnn⟩
  have HT : Hid (IsToks w ga ts) := ⟨T⟩
  rw [hnn] at hn ⊢
  clear hnn T
  go_enter Tryd.func17, Tryd.ntmps17
  go_wp2
  go_loopw [3, 4] (fun v c wr => ∃ k : Nat, c = .int .i64 k ∧ k ≤ n ∧ ARow wr w.heap.size v ((ts.take k).map nm) ∧ Below w.heap.size w wr) (fun _ c _ => n - (intOf c).toNat)
  case atStart => exact ⟨0, rfl, Nat.zero_le _, World.ownsRow_nil _ _ _ _, Below.refl _ _⟩
  case round =>
    obtain ⟨k, rfl, hk, RW, BR⟩ := hrel
    by_cases hlt : k < n
    · have hkl : k < ts.length := by rw [HN.out]; exact hlt
      obtain ⟨g, off, rfl, c0, c1, c2, c3⟩ := tok_at HT.out BR k hkl
      have TS : (ts.take (k + 1)).map nm = (ts.take k).map nm ++ [nm (ts[k]'hkl)] := by rw [take_snoc ts k hkl, List.map_append]; rfl
      have TL : ((ts.take k).map nm).length ≤ k := by simp; omega
      generalize ts[k]'hkl = t at *
      obtain ⟨tk, tx, tn, ta⟩ := t
      simp only at c0 c1 c2 c3
      obtain ⟨acc, hacc⟩ : ∃ acc, (ts.take k).map nm = acc := ⟨_, rfl⟩
      rw [hacc] at RW TS TL
      have HTS : Hid ((ts.take (k + 1)).map nm = acc ++ [nm ⟨tk, tx, tn, ta⟩]) := ⟨TS⟩
      have HR : Hid (ARow wr w.heap.size u3 acc) := ⟨RW⟩
      have HTL : Hid (acc.length ≤ k) := ⟨TL⟩
      have hlt' : (k : Int) < n := by omega
      clear hacc RW TS hkl TL
      by_cases h4 : tk = 4
      · subst h4
        have HM : Hid (nm ⟨4, tx, tn, ta⟩ = ⟨4, [], tn, ta⟩) := ⟨rfl⟩
        go_wp2_with (at_builtin; obtain ⟨i0, hi, hz0, hz1, hz2⟩ := info_parts info38; refine wpList_append_own _ rfl _ _ 22 rfl w.heap.size 38 i0 _ 4 40 Tryd.underlying22 hi hz0 hz1 hz2 rfl (by decide) u3 acc.length (cellsA acc) rfl (HR.out.later (below2_of (Below.refl _ _) _ _)) ⟨wr.heap.size + 1, 0, none⟩ 1 1 (atokC ⟨4, [], tn, ta⟩) rfl rfl (news4 (new2 _ _ _)) (by simp [Value.oneCell', atokC]) (by have := HTL.out; unfold maxLen; omega) (by have := HTL.out; omega) (by have := BR.size; simp; omega) ?_; intro v' w2 hown' hgrow' _; clear hi hz0 hz1 hz2; have RM := arow_more (t := ⟨4, [], tn, ta⟩) (BR.trans (Joins.below_le (below2_of (Below.refl _ _) _ _) BR.size)) (HR.out.later (below2_of (Below.refl _ _) _ _)) hown' hgrow'; have HRM : Hid (ARow w2 w.heap.size v' (acc ++ [⟨4, [], tn, ta⟩]) ∧ Below w.heap.size w w2) := ⟨RM⟩; clear RM hown' hgrow')
        go_roundw
        case rel => exact ⟨k + 1, by go_num, by omega, by rw [HTS.out, HM.out]; exact HRM.out.1, HRM.out.2⟩
        case measure => simp [intOf]; omega
      · have k4 : (tk == 4) = false := by simp; omega
        have HM : Hid (nm ⟨tk, tx, tn, ta⟩ = ⟨tk, tx, 0, ta⟩) := ⟨by unfold nm; simp [h4]⟩
        clear h4
        go_wp2_with (at_builtin; obtain ⟨i0, hi, hz0, hz1, hz2⟩ := info_parts info38; refine wpList_append_own _ rfl _ _ 22 rfl w.heap.size 38 i0 _ 4 40 Tryd.underlying22 hi hz0 hz1 hz2 rfl (by decide) u3 acc.length (cellsA acc) rfl (HR.out.later (below2_of (Below.refl _ _) _ _)) ⟨wr.heap.size + 1, 0, none⟩ 1 1 (atokC ⟨tk, tx, 0, ta⟩) rfl rfl (news4 (new2 _ _ _)) (by simp [Value.oneCell', atokC]) (by have := HTL.out; unfold maxLen; omega) (by have := HTL.out; omega) (by have := BR.size; simp; omega) ?_; intro v' w2 hown' hgrow' _; clear hi hz0 hz1 hz2; have RM := arow_more (t := ⟨tk, tx, 0, ta⟩) (BR.trans (Joins.below_le (below2_of (Below.refl _ _) _ _) BR.size)) (HR.out.later (below2_of (Below.refl _ _) _ _)) hown' hgrow'; have HRM : Hid (ARow w2 w.heap.size v' (acc ++ [⟨tk, tx, 0, ta⟩]) ∧ Below w.heap.size w w2) := ⟨RM⟩; clear RM hown' hgrow')
        go_roundw
        case rel => exact ⟨k + 1, by go_num, by omega, by rw [HTS.out, HM.out]; exact HRM.out.1, HRM.out.2⟩
        case measure => simp [intOf]; omega
    · obtain rfl : k = n := by omega
      have ht : ts.take k = ts := List.take_of_length_le (by rw [HN.out]; exact Nat.le_refl _)
      rw [ht] at RW
      go_wp2
      go_ret
      exact ⟨_, rfl, RW, BR⟩

end Go.Proofs.YtadmibdcdpggpaaDoor
