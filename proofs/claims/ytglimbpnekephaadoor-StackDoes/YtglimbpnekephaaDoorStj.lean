/- Package stack: Pop. -/
import Derived.Test.YtglimbpnekephaaDoorSti
namespace Go.Proofs.YtglimbpnekephaaDoor
open Go.RowKit Go.Shelf
set_option linter.unusedVariables false
set_option linter.unusedSimpArgs false
attribute [local go_sem] Oper.semAt_some

theorem spots_mkA (p : Nat) (u : Int) (w : World) :
    Calls Tryd.prog 46 #[.func (.func 45) #[.pointer (some ⟨p, 0, none⟩)] #[], .int .i64 u] w fun e w' => e = .returned (.func (.func 56) #[] #[.pointer (some ⟨w.heap.size + 1, 0, none⟩), .pointer (some ⟨w.heap.size, 0, none⟩)]) ∧ w' = (w.alloc (.cells #[.func (.func 45) #[.pointer (some ⟨p, 0, none⟩)] #[]] 82)).alloc (.cells #[.int .i64 u] 3) := by
  go_enter Tryd.func46, Tryd.ntmps46
  go_wp2
  go_ret
  exact ⟨by simp, rfl⟩
theorem spots_mkB (z : Nat) (u : Int) (w : World) :
    Calls Tryd.prog 46 #[.func (.func 59) #[] #[.pointer (some ⟨z, 0, none⟩)], .int .i64 u] w fun e w' => e = .returned (.func (.func 56) #[] #[.pointer (some ⟨w.heap.size + 1, 0, none⟩), .pointer (some ⟨w.heap.size, 0, none⟩)]) ∧ w' = (w.alloc (.cells #[.func (.func 59) #[] #[.pointer (some ⟨z, 0, none⟩)]] 82)).alloc (.cells #[.int .i64 u] 3) := by
  go_enter Tryd.func46, Tryd.ntmps46
  go_wp2
  go_ret
  exact ⟨by simp, rfl⟩
theorem readA {w : World} {p a b F : Nat} {ws us : List Int} (R : RdA w p a b F ws us) (x : Nat) (f : Fr) (hok : Okf f) (h1 : ∀ i, i < f.ps.length → us.getD (x + i) 0 = f.ps.getD i 0) (h2 : us.getD (x + f.ps.length) 0 = last f) (h3 : x + f.ps.length < us.length) :
    Calls Tryd.prog 47 #[.func (.func 45) #[.pointer (some ⟨p, 0, none⟩)] #[], .int .i64 x, .int .i64 f.ps.length] w fun e w' => ∃ o cp, e = .returned (fv f o cp) ∧ PS w' o cp f.ps ∧ (∀ ad, o = some ad → w.heap.size ≤ ad.block) ∧ Below w.heap.size w w' := by
  by_cases hn : f.ps.length = 0
  · exact read0_A R x f hok h1 h2 h3 hn
  · exact read1_A R x f hok h1 h2 h3 (by omega)
theorem readB {w : World} {z g cap : Nat} {us : List Int} (R : RdB w z g cap us) (x : Nat) (f : Fr) (hok : Okf f) (h1 : ∀ i, i < f.ps.length → us.getD (x + i) 0 = f.ps.getD i 0) (h2 : us.getD (x + f.ps.length) 0 = last f) (h3 : x + f.ps.length < us.length) :
    Calls Tryd.prog 47 #[.func (.func 59) #[] #[.pointer (some ⟨z, 0, none⟩)], .int .i64 x, .int .i64 f.ps.length] w fun e w' => ∃ o cp, e = .returned (fv f o cp) ∧ PS w' o cp f.ps ∧ (∀ ad, o = some ad → w.heap.size ≤ ad.block) ∧ Below w.heap.size w w' := by
  by_cases hn : f.ps.length = 0
  · exact read0_B R x f hok h1 h2 h3 hn
  · exact read1_B R x f hok h1 h2 h3 (by omega)
theorem pop_nil (w : World) : Calls Tryd.prog 19 #[.pointer none] w fun e w' => e = .returned (.tuple #[.agg #[.int .i64 0, .int .i64 0, .int .i64 0, .slice none 0 0], .int .i64 1]) ∧ Below w.heap.size w w' := by
  refine (callsIn_wide (n := 3)).1 ?_
  refine callsIn_of_wp_marks Tryd.func19 rfl trivial ?_ rfl
  simp only [Tryd.ntmps19, List.size_toArray, List.length_cons, List.length_nil, Nat.reduceAdd, Nat.reduceSub, Array.replicate_succ, Array.replicate_zero, List.push_toArray, List.append_toArray, List.nil_append, List.cons_append]
  gi_wp2
  refine ⟨.tuple #[.agg #[.int .i64 0, .int .i64 0, .int .i64 0, .slice none 0 0], .int .i64 1], by simp [results, Tryd.f19, go_sem], rfl, by go_grown⟩
end Go.Proofs.YtglimbpnekephaaDoor
