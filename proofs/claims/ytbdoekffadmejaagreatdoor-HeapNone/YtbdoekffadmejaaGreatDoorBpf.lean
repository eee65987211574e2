/- Package bump: a space is made. -/
import Derived.Test.YtbdoekffadmejaaGreatDoorBpe
namespace Go.Proofs.YtbdoekffadmejaaGreatDoor.Bp
open Go.RowKit
set_option linter.unusedVariables false
set_option linter.unusedSimpArgs false

abbrev nilS : Value := .slice none 0 0
abbrev cellsS (p a m : Nat) : Array Value := #[.pointer (some ⟨p, 0, none⟩), .pointer (some ⟨a, 0, none⟩), nilS, .map (some m), .int .i64 0, .int .i64 0, .int .i64 0]
theorem size76 : (Tryz.prog.info? 165).map (·.size) = some 7 := by kernel_rfl
theorem empty_any (w : World) (p a : Nat) :
    Calls Tryz.prog 137 #[.pointer (some ⟨p, 0, none⟩), .pointer (some ⟨a, 0, none⟩)] w fun e w' => ∃ m, e = .returned (.agg (cellsS p a m)) ∧ w.heap.size ≤ m ∧ VM 3 w' m 0 (fun _ => none) ∧ Below w.heap.size w w' := by
  have hmm := @run_makeMap Tryz.prog
  go_enter Tryz.func137, Tryz.ntmps137
  go_wp2
  have hb : ((w.alloc (.cells (cellsS p a (w.heap.size + 1)) 165)).alloc (.map #[] 0)).heap[w.heap.size]? = some (.cells (cellsS p a (w.heap.size + 1)) 165 (0, 0)) :=
    (Below.heap_alloc _ _ _ (by simp)).trans (heap_alloc_new w _)
  have V := VM.made 3 (w.alloc (.cells (cellsS p a (w.heap.size + 1)) 165))
  rw [World.size_alloc] at V
  exact bodyPost_ret (results_cell_row Tryz.results137 _ _ w.heap.size 165 _ (0, 0) _ rfl hb Tryz.underlying165 rfl size76) rfl ⟨w.heap.size + 1, rfl, by omega, V, below2 _ _ _⟩
theorem Sp.new {w W : World} {p a m : Nat} (V : VM 3 w m 0 (fun _ => none)) (hW : W = w.alloc (.cells (cellsS p a m) 165)) : Sp W w.heap.size p a m nilS S0.none := by
  subst hW
  refine ⟨heap_alloc_new _ _, World.ownsRow_nil _ _ _ _, ⟨0, _, Nat.zero_le _, V.of_block (Below.heap_alloc _ _ _ V.lt), fun b hb => rfl⟩, ?_, by simp [Value.ownBlock], by simp [Value.ownBlock]⟩
  have := V.lt
  omega
theorem newS_ok (w : World) (p a : Nat) :
    Calls Tryz.prog 146 #[.pointer (some ⟨p, 0, none⟩), .pointer (some ⟨a, 0, none⟩)] w fun e w' => ∃ s m, e = .returned (.tuple #[.pointer (some ⟨s, 0, none⟩), .int .i64 0]) ∧ w.heap.size ≤ s ∧ w.heap.size ≤ m ∧ Sp w' s p a m nilS S0.none ∧ Below w.heap.size w w' := by
  have EM := empty_any w p a
  go_enter Tryz.func146, Tryz.ntmps146
  go_wp2_with (go_at_call 137; refine EM.mono ?_; rintro e w1 ⟨m, rfl, hm, V, B⟩)
  go_ret2
  exact ⟨w1.heap.size, m, rfl, B.size, hm, Sp.new V rfl, B.trans ((Below.refl _ w1).alloc B.size _)⟩
end Go.Proofs.YtbdoekffadmejaaGreatDoor.Bp
