/- The law's own helper that tells two lists of a range. -/
import Derived.Test.YtcallmfdigfhnaaBqb
import Derived.Test.YtcallmfdigfhnaaBpj
namespace Go.Proofs.Ytcallmfdigfhnaa
open Go.RowKit
set_option linter.unusedVariables false
set_option linter.unusedSimpArgs false

theorem below_keep {w w2 : World} {o : Obj} (K : Keep w.heap.size ((w.alloc o).alloc o).heap.size ((w.alloc o).alloc o) w2) : Below w.heap.size w w2 := by
  have B := below2 w o o
  refine ⟨K.os.trans B.os, K.tape.trans B.tape, K.output.trans B.output, Nat.le_trans B.size K.size, fun k hk => (K.block k (by simp; omega) (by omega) (by omega)).trans (B.block k hk)⟩
theorem two_nil {W : World} {z n : Nat} (b0 : W.heap[z]? = some (.cells #[.slice none 0 0] 42 (0, 0))) (b1 : W.heap[z + 1]? = some (.cells #[.slice none 0 0] 42 (0, 0))) (le : z + 1 < n) (sz : n ≤ W.heap.size) : Two W z n [] [] :=
  ⟨⟨.slice none 0 0, .slice none 0 0, b0, b1, World.ownsRow_nil _ _ _ _, World.ownsRow_nil _ _ _ _, .inl rfl⟩, le, sz⟩
theorem sl_lists {w : World} {n : Nat} {v : Value} {xs : List Int} (h : w.ownsRow n 3 1 v xs.length (ints xs)) : Sl w v xs := sl_of h
set_option maxRecDepth 100000 in
set_option maxHeartbeats 2000000 in
theorem pairs_any {w : World} {Bs c : Nat} {ga : Option Addr} {L : List (Nat × Nat)} (hL : Ls w Bs ga c L) (h1000 : L.length ≤ 1000) (hga : ∀ g o, ga = some ⟨g, o, none⟩ → g < w.heap.size) :
    Calls Try.prog 22 #[.func (.func 46) #[] #[.pointer (some ⟨Bs, 0, none⟩)]] w fun e w' => ∃ va vb, e = .returned (.tuple #[va, vb]) ∧ Sl w' va (fsI L) ∧ Sl w' vb (nsI L) ∧ Below w.heap.size w w' := by
  have he : ∀ w : World, (binOp .eql 60 (.func (.func 46) #[] #[.pointer (some ⟨Bs, 0, none⟩)]) .nilFunc).run Try.prog w = .ok (.bool false) w := fun _ => rfl
  obtain ⟨b0, b1⟩ := boxes2 w (.cells #[.slice none 0 0] 42)
  have D0 := below2 w (.cells #[.slice none 0 0] 42) (.cells #[.slice none 0 0] 42)
  have lb := (Array.getElem?_eq_some_iff.1 hL.sl).1
  have T := tells_any (z := w.heap.size) (n := ((w.alloc (.cells #[.slice none 0 0] 42)).alloc (.cells #[.slice none 0 0] 42)).heap.size) (hL.stay fun j hj => D0.block j (by
      rcases hj with rfl | ⟨o, e⟩
      · exact lb
      · exact hga j o e)) h1000 (two_nil b0 b1 (by simp) (Nat.le_refl _)) (by
    rintro j (rfl | ⟨o, e⟩)
    · simp; omega
    · have := hga j o e; simp; omega)
  clear b0 b1 hL hga
  go_enter Try.func22, Try.ntmps22
  go_wp2_with (go_at_call 46; refine T.mono ?_; rintro e w2 ⟨⟨u, rfl⟩, T2, K2⟩)
  obtain ⟨⟨va, vb, ba, bb, oa, ob, ap⟩, le, sz⟩ := T2
  have c1 : w2.cell? ⟨w.heap.size, 0, none⟩ = some va := by rw [Joins.cell_of_block ba]; rfl
  have c2 : w2.cell? ⟨w.heap.size + 1, 0, none⟩ = some vb := by rw [Joins.cell_of_block bb]; rfl
  have D := below_keep K2
  have SA := sl_of oa
  have SB := sl_of ob
  clear T ba bb oa ob ap K2 le sz
  go_quiet (fail)
  go_wp2
  go_ret2
  exact ⟨va, vb, rfl, SA.later (below_drewN (Below.refl _ _) _), SB.later (below_drewN (Below.refl _ _) _), below_drewN D _⟩
end Go.Proofs.Ytcallmfdigfhnaa
