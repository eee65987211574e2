/- A nil space is asked for its range; the law's own helper over it. -/
import Derived.Test.YtcallmfdigfhnaaActs
namespace Go.Proofs.Ytcallmfdigfhnaa
open Go.RowKit Go.Shelf
set_option linter.unusedVariables false

theorem newS_nil (w : World) (x y : Option Addr) (h : x = none ∨ y = none) : Calls Try.prog 21 #[.pointer x, .pointer y] w fun e w' => e = .returned (.tuple #[.pointer none, .int .i64 1]) ∧ w' = w := by
  cases x with
  | none => exact newS_nilP w y
  | some x =>
    rcases h with h | rfl
    · cases h
    · exact newS_nilA w x
theorem each_nil (w : World) : Calls Try.prog 23 #[.pointer none] w fun e w' => e = .returned (.func (.func 46) #[] #[.pointer (some ⟨w.heap.size, 0, none⟩)]) ∧ w' = w.alloc (.cells #[.slice none 0 0] 73) := by
  go_enter Try.func23, Try.ntmps23
  go_wp2_with (go_at_call 45; refine (told_nil _).mono ?_; rintro e w1 ⟨rfl, hw⟩; rw [hw]; clear hw)
  go_ret
  exact ⟨by simp, rfl⟩
theorem tells_nil {W : World} {B : Nat} {fv : Value} (c : W.cell? ⟨B, 0, none⟩ = some (.slice none 0 0)) :
    Calls Try.prog 46 #[fv, .pointer (some ⟨B, 0, none⟩)] W fun e W' => (∃ v, e = .returned v) ∧ W' = W := by
  go_enter Try.func46, Try.ntmps46
  go_wp2
  go_loop [7] (fun i => i = .int .i64 0) (fun _ => 0)
  case atStart => rfl
  case round =>
    subst hrel
    go_wp2
    go_end0
    exact ⟨⟨_, rfl⟩, rfl⟩
theorem boxes2 (w : World) (o : Obj) : ((w.alloc o).alloc o).heap[w.heap.size]? = some o ∧ ((w.alloc o).alloc o).heap[w.heap.size + 1]? = some o := by
  refine ⟨?_, ?_⟩
  · rw [Below.heap_alloc _ _ _ (by simp)]; exact heap_alloc_new _ _
  · have := heap_alloc_new (w.alloc o) o; simpa using this
set_option maxRecDepth 100000 in
set_option maxHeartbeats 2000000 in
theorem pairs_nil {w : World} {B : Nat} (c : w.cell? ⟨B, 0, none⟩ = some (.slice none 0 0)) :
    Calls Try.prog 22 #[.func (.func 46) #[] #[.pointer (some ⟨B, 0, none⟩)]] w fun e w' => e = .returned (.tuple #[.slice none 0 0, .slice none 0 0]) ∧ Below w.heap.size w w' := by
  have he : ∀ w : World, (binOp .eql 60 (.func (.func 46) #[] #[.pointer (some ⟨B, 0, none⟩)]) .nilFunc).run Try.prog w = .ok (.bool false) w := fun _ => rfl
  obtain ⟨b0, b1⟩ := boxes2 w (.cells #[.slice none 0 0] 42)
  have D := below2 w (.cells #[.slice none 0 0] 42) (.cells #[.slice none 0 0] 42)
  have T := tells_nil (fv := .func (.func 44) #[] #[.pointer (some ⟨w.heap.size, 0, none⟩), .pointer (some ⟨w.heap.size + 1, 0, none⟩)]) (box_alloc (.cells #[.slice none 0 0] 42) (box_alloc (.cells #[.slice none 0 0] 42) c))
  go_enter Try.func22, Try.ntmps22
  have c1 : ((w.alloc (.cells #[.slice none 0 0] 42)).alloc (.cells #[.slice none 0 0] 42)).cell? ⟨w.heap.size, 0, none⟩ = some (.slice none 0 0) := by rw [Joins.cell_of_block b0]; rfl
  have c2 : ((w.alloc (.cells #[.slice none 0 0] 42)).alloc (.cells #[.slice none 0 0] 42)).cell? ⟨w.heap.size + 1, 0, none⟩ = some (.slice none 0 0) := by rw [Joins.cell_of_block b1]; rfl
  go_wp2_with (go_at_call 46; refine T.mono ?_; rintro e w2 ⟨⟨u, rfl⟩, hw⟩; rw [hw]; clear hw)
  clear T b0 b1
  go_quiet (fail)
  go_wp2
  go_ret2
  exact ⟨rfl, below_drewN D _⟩
theorem freeS_nil (w : World) : Calls Try.prog 17 #[.pointer none] w fun e w' => e = .returned (.int .i64 1) ∧ Below w.heap.size w w' := by
  have hb := box_cell w (.pointer none) 34
  have c := hb.1
  refine (callsIn_wide (n := 3)).1 ?_
  refine callsIn_of_wp_marks Try.func17 rfl trivial ?_ rfl
  simp only [Try.ntmps17, List.size_toArray, List.length_cons, List.length_nil, Nat.reduceAdd, Nat.reduceSub, Array.replicate_succ, Array.replicate_zero, List.push_toArray, List.append_toArray, List.nil_append, List.cons_append]
  gi_wp2
  exact ⟨.int .i64 1, by simp [results, Try.f17, go_sem], rfl, (Below.refl _ w).alloc (Nat.le_refl _) _⟩
end Go.Proofs.Ytcallmfdigfhnaa
