/- What Scan has told lies in memory. -/
import Derived.Test.YtadmibdcdpggpaaDoorSame
import Derived.Laws.OwnMore
namespace Go.Proofs.YtadmibdcdpggpaaDoor
open Go.RowKit
set_option linter.unusedVariables false

theorem cellsT_length (ts : List Tok) : (cellsT ts).length = ts.length * 4 := by
  induction ts with
  | nil => rfl
  | cons t r ih => simp only [cellsT, List.flatMap_cons, List.length_append] at ih ⊢; rw [ih]; simp [tokC]; omega
theorem cellsT_get : ∀ (ts : List Tok) (i : Nat) (h : i < ts.length), (cellsT ts)[i * 4]? = some (.int .i64 (ts[i]'h).kind) ∧ (cellsT ts)[i * 4 + 1]? = some (.string (str (ts[i]'h).text)) ∧
    (cellsT ts)[i * 4 + 2]? = some (.int .i64 (ts[i]'h).num) ∧ (cellsT ts)[i * 4 + 3]? = some (.int .i64 (ts[i]'h).at')
  | [], _, h => absurd h (Nat.not_lt_zero _)
  | t :: r, 0, _ => ⟨rfl, rfl, rfl, rfl⟩
  | t :: r, i + 1, h => by
    have ih := cellsT_get r i (by simpa using h)
    have e : ∀ j, (cellsT (t :: r))[(i + 1) * 4 + j]? = (cellsT r)[i * 4 + j]? := fun j => by
      rw [show (i + 1) * 4 + j = i * 4 + j + 4 by omega]
      rfl
    have e0 := e 0
    simp only [Nat.add_zero] at e0
    rw [e0, e 1, e 2, e 3]
    exact ih
theorem Row.form {w : World} {base : Nat} {v : Value} {ts : List Tok} (h : Row w base v ts) : ∃ ga cap, v = .slice ga ts.length cap ∧ ts.length ≤ cap ∧ (0 < ts.length → ∃ g off, ga = some ⟨g, off, none⟩ ∧ Lies w g off ts) := by
  rcases h.2 with ⟨rfl, h0⟩ | ⟨g, cap, cur, rfl, hb, hg, X⟩
  · exact ⟨none, 0, by rw [h0], by omega, fun q => by omega⟩
  · refine ⟨_, cap, rfl, ?_, fun _ => ⟨g, 0, rfl, fun i hi => ?_⟩⟩
    · exact X.1
    · have hh : w.ownsRow base 38 4 (.slice (some ⟨g, 0, none⟩) ts.length cap) ts.length (cellsT ts) := h
      obtain ⟨c0, c1, c2, c3⟩ := cellsT_get ts i hi
      rw [hh.cellAt _ (by omega), hh.cellAt _ (by omega), hh.cellAt _ (by omega), hh.cellAt _ (by omega)]
      rw [Nat.zero_add]
      exact ⟨c0, c1, c2, c3⟩
theorem Lies.later {w w' : World} {g off : Nat} {ts : List Tok} (h : Lies w g off ts) (hb : Below w.heap.size w w') : Lies w' g off ts := fun i hi => by
  obtain ⟨a, b, c, d⟩ := h i hi
  exact ⟨(hb.cell (World.block_lt_of_cell? _ _ a)).trans a, (hb.cell (World.block_lt_of_cell? _ _ b)).trans b, (hb.cell (World.block_lt_of_cell? _ _ c)).trans c, (hb.cell (World.block_lt_of_cell? _ _ d)).trans d⟩

def wakeL : List UInt8 := [102, 32, 61, 32, 35, 97, 100, 100, 32, 120, 32, 45, 49, 59]
theorem wake_scan : scanAll wakeL = .ok [⟨1, [102], 0, 0⟩, ⟨5, [61], 0, 2⟩, ⟨3, [35, 97, 100, 100], 0, 4⟩, ⟨1, [120], 0, 9⟩, ⟨4, [], -1, 11⟩, ⟨5, [59], 0, 13⟩] := by rfl
theorem wake_word : wordB [102] 1 = true := by rfl

set_option maxHeartbeats 2000000 in
theorem awake_any (w : World) (L : Laid w) : Calls Tryd.prog 11 #[] w fun e w' => e = .returned (.bool true) ∧ Below w.heap.size w w' := by
  have S := scan_any ⟨#[102, 32, 61, 32, 35, 97, 100, 100, 32, 120, 32, 45, 49, 59]⟩ w L
  rw [show (ByteArray.mk #[102, 32, 61, 32, 35, 97, 100, 100, 32, 120, 32, 45, 49, 59]).data.toList = wakeL from rfl, wake_scan] at S
  simp only [scanA, scanE, scanL] at S
  have Wd := fun w L => word_any ⟨#[102]⟩ (by decide) 1 w L
  rw [show (ByteArray.mk #[102]).data.toList = [102] from rfl, wake_word] at Wd
  go_enter Tryd.func11, Tryd.ntmps11
  go_wp2_with (first
    | (go_at_call 9; refine S.mono ?_; rintro e w1 ⟨v, rfl, R1, B1⟩; obtain ⟨ga, cap, rfl, _, hl⟩ := R1.form; obtain ⟨g, off, rfl, Li⟩ := hl (by decide); have L1 := L.later B1; have q2 := (Li 2 (by decide)).1; have q4 := (Li 4 (by decide)).2.2.1; have q5 := (Li 5 (by decide)).2.2.2; simp at q2 q4 q5; clear R1 Li hl S)
    | (go_at_call 13; refine (Wd _ L1).mono ?_; rintro e w2 ⟨rfl, B2⟩))
  go_ret
  exact ⟨rfl, B1.trans (Joins.below_le B2 B1.size)⟩

end Go.Proofs.YtadmibdcdpggpaaDoor
