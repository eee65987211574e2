/- do: a call of a space of both sides. -/
import Derived.Test.YtcallmfdigfhnaaBqd
import Derived.Deep.RegionHeld3
namespace Go.Proofs.Ytcallmfdigfhnaa
open Go.RowKit
set_option linter.unusedVariables false
set_option linter.unusedSimpArgs false

set_option maxRecDepth 100000 in
set_option maxHeartbeats 4000000 in
theorem do_lay {lo B q : Nat} {w : World} {s m : Bool → Nat} {v : Bool → Value} {S : Bool → S0} {p a pb ab N M : Nat} {f : Nat → Int} {xs : List Int} {x : Bool → Nat} {r : Bool → Nat → Value} {y yb c : Nat} (h : Al lo B q w s m v S S p a pb ab N M f f xs x r y yb c) (hU : ∀ i, Us (S i)) (hl : ∀ i, (S i).l.length ≤ 999) (hM : M ≤ 524288) (k0 k1 : Int) (b : Bool) (hk : k0 = 0 ∨ k0 = 1 ∨ k0 = 2) :
    Calls Try.prog 10 #[pt q, .agg #[.int .i64 k0, .int .i64 k1, .bool b]] w fun e w' => e = .returned (.bool true) ∧ Fin lo B q w w' s S p a pb ab N M x y yb c := by
  have O0 := (Below.refl _ w).alloc (Nat.le_refl _) (.cells #[.int .i64 k0, .int .i64 k1, .bool b] 29)
  have O1 : Below w.heap.size w (w.alloc (.cells #[.int .i64 k0, .int .i64 k1, .bool b] 29)).drew := O0.trans ⟨rfl, rfl, rfl, Nat.le_refl _, fun _ _ => rfl⟩
  have A0 := h.later O0
  have A1 := h.later O1
  have bx : (w.alloc (.cells #[.int .i64 k0, .int .i64 k1, .bool b] 29)).heap[w.heap.size]? = some (.cells #[.int .i64 k0, .int .i64 k1, .bool b] 29 (0, 0)) := heap_alloc_new _ _
  have z2 : (w.alloc (.cells #[.int .i64 k0, .int .i64 k1, .bool b] 29)).cell? ⟨w.heap.size, 2, none⟩ = some (.bool b) := by rw [Joins.cell_of_block bx]; rfl
  have u0 : (w.alloc (.cells #[.int .i64 k0, .int .i64 k1, .bool b] 29)).drew.cell? ⟨w.heap.size, 0, none⟩ = some (.int .i64 k0) := by
    have : (w.alloc (.cells #[.int .i64 k0, .int .i64 k1, .bool b] 29)).drew.heap[w.heap.size]? = _ := bx
    rw [Joins.cell_of_block this]; rfl
  have u1 : (w.alloc (.cells #[.int .i64 k0, .int .i64 k1, .bool b] 29)).drew.cell? ⟨w.heap.size, 1, none⟩ = some (.int .i64 k1) := by
    have : (w.alloc (.cells #[.int .i64 k0, .int .i64 k1, .bool b] 29)).drew.heap[w.heap.size]? = _ := bx
    rw [Joins.cell_of_block this]; rfl
  obtain ⟨y1, y2⟩ := A0.cq b
  have npx : ¬ pO s m v p a pb ab w.heap.size := fun z => by have := h.ltP _ z; omega
  have HA1 := Hid.mk A1
  have HB1 := Hid.mk (O1.mono h.lq)
  have HU := Hid.mk hU
  have HNP := Hid.mk npx
  have HQ := Hid.mk h.lq
  have hl1 := Hid.mk hl
  unfold pt at *
  rcases hk with rfl | rfl | rfl
  all_goals cases b
  · simp only [nt, if_true, if_false, Bool.false_eq_true, Nat.add_zero, Nat.reduceAdd] at y1 y2
    go_enter Try.func10, Try.ntmps10
    go_wp2
    go_region
    clear y1 y2 z2 O0 O1 A0 A1 bx h hU npx hl
    generalize hW : (w.alloc (.cells #[.int .i64 0, .int .i64 k1, .bool false] 29)).drew = W1 at *
    have LP := HA1.out.layP false (by have := hl1.out false; omega) k1
    have F1 := (HA1.out.tw.sy false).fit
    have G1 := (HA1.out.tw.sy false).good
    have HFG := Hid.mk (And.intro F1 G1)
    clear F1 G1
    obtain ⟨A, hA⟩ : ∃ A, layA f N M (S false).nx k1 = A := ⟨_, rfl⟩
    obtain ⟨E, hE⟩ : ∃ E, layE f N M (S false).nx k1 = E := ⟨_, rfl⟩
    have HAE := Hid.mk (And.intro hA hE)
    rw [hA, hE] at LP
    clear hA hE
    have nA : (A == A) = true := by simp
    have nE : (E == E) = true := by simp
    go_wp2_with (first
      | (go_at_call 13; refine LP.mono ?_; rintro e w2 ⟨rfl, v2, xs2, A2, B2, C2⟩; have t1 : w2.cell? ⟨w.heap.size, 1, none⟩ = some (.int .i64 k1) := (World.cell?_of_block (w := W1) (a := ⟨w.heap.size, 1, none⟩) (C2.block _ (by have := World.block_lt_of_cell? _ _ u1; simpa using this) HNP.out)).trans u1; have LD := A2.layD false HFG.out.1 (by have := hl1.out false; omega) HFG.out.2 hM k1; rw [HAE.out.1, HAE.out.2] at LD; have HB2 := Hid.mk (HB1.out.trans B2); clear A2 B2 C2 LP)
      | (go_at_call 28; refine LD.mono ?_; rintro e w3 ⟨rfl, r3, A3, B3⟩; have HA3 := Hid.mk A3; have HB3 := Hid.mk (HB2.out.trans B3); clear A3 B3 LD))
    go_ret
    refine ⟨rfl, _, _, _, _, _, _, HA3.out, bool_cases _ false ?_ ?_, bool_cases _ false ?_ ?_, HB3.out⟩
    · rw [updB_same]; exact us_lay (HU.out false) k1
    · rw [updB_not]; exact HU.out (!false)
    · rw [updB_same]; exact lay_len k1
    · rw [updB_not]; omega
  · simp only [nt, if_true, if_false, Bool.false_eq_true, Nat.add_zero, Nat.reduceAdd] at y1 y2
    go_enter Try.func10, Try.ntmps10
    go_wp2
    go_region
    clear y1 y2 z2 O0 O1 A0 A1 bx h hU npx hl
    generalize hW : (w.alloc (.cells #[.int .i64 0, .int .i64 k1, .bool true] 29)).drew = W1 at *
    have LP := HA1.out.layP true (by have := hl1.out true; omega) k1
    have F1 := (HA1.out.tw.sy true).fit
    have G1 := (HA1.out.tw.sy true).good
    have HFG := Hid.mk (And.intro F1 G1)
    clear F1 G1
    obtain ⟨A, hA⟩ : ∃ A, layA f N M (S true).nx k1 = A := ⟨_, rfl⟩
    obtain ⟨E, hE⟩ : ∃ E, layE f N M (S true).nx k1 = E := ⟨_, rfl⟩
    have HAE := Hid.mk (And.intro hA hE)
    rw [hA, hE] at LP
    clear hA hE
    have nA : (A == A) = true := by simp
    have nE : (E == E) = true := by simp
    go_wp2_with (first
      | (go_at_call 13; refine LP.mono ?_; rintro e w2 ⟨rfl, v2, xs2, A2, B2, C2⟩; have t1 : w2.cell? ⟨w.heap.size, 1, none⟩ = some (.int .i64 k1) := (World.cell?_of_block (w := W1) (a := ⟨w.heap.size, 1, none⟩) (C2.block _ (by have := World.block_lt_of_cell? _ _ u1; simpa using this) HNP.out)).trans u1; have LD := A2.layD true HFG.out.1 (by have := hl1.out true; omega) HFG.out.2 hM k1; rw [HAE.out.1, HAE.out.2] at LD; have HB2 := Hid.mk (HB1.out.trans B2); clear A2 B2 C2 LP)
      | (go_at_call 28; refine LD.mono ?_; rintro e w3 ⟨rfl, r3, A3, B3⟩; have HA3 := Hid.mk A3; have HB3 := Hid.mk (HB2.out.trans B3); clear A3 B3 LD))
    go_ret
    refine ⟨rfl, _, _, _, _, _, _, HA3.out, bool_cases _ true ?_ ?_, bool_cases _ true ?_ ?_, HB3.out⟩
    · rw [updB_same]; exact us_lay (HU.out true) k1
    · rw [updB_not]; exact HU.out (!true)
    · rw [updB_same]; exact lay_len k1
    · rw [updB_not]; omega
  · simp only [nt, if_true, if_false, Bool.false_eq_true, Nat.add_zero, Nat.reduceAdd] at y1 y2
    go_enter Try.func10, Try.ntmps10
    go_wp2
    go_region
    clear y1 y2 z2 O0 O1 A0 A1 bx h hU npx hl
    generalize hW : (w.alloc (.cells #[.int .i64 1, .int .i64 k1, .bool false] 29)).drew = W1 at *
    have LP := HA1.out.layP false (by have := hl1.out false; omega) k1
    have F1 := (HA1.out.tw.sy false).fit
    have G1 := (HA1.out.tw.sy false).good
    have HFG := Hid.mk (And.intro F1 G1)
    clear F1 G1
    obtain ⟨A, hA⟩ : ∃ A, layA f N M (S false).nx k1 = A := ⟨_, rfl⟩
    obtain ⟨E, hE⟩ : ∃ E, layE f N M (S false).nx k1 = E := ⟨_, rfl⟩
    have HAE := Hid.mk (And.intro hA hE)
    rw [hA, hE] at LP
    clear hA hE
    have nA : (A == A) = true := by simp
    have nE : (E == E) = true := by simp
    go_wp2_with (first
      | (go_at_call 13; refine LP.mono ?_; rintro e w2 ⟨rfl, v2, xs2, A2, B2, C2⟩; have t1 : w2.cell? ⟨w.heap.size, 1, none⟩ = some (.int .i64 k1) := (World.cell?_of_block (w := W1) (a := ⟨w.heap.size, 1, none⟩) (C2.block _ (by have := World.block_lt_of_cell? _ _ u1; simpa using this) HNP.out)).trans u1; have LD := A2.layD false HFG.out.1 (by have := hl1.out false; omega) HFG.out.2 hM k1; rw [HAE.out.1, HAE.out.2] at LD; have HB2 := Hid.mk (HB1.out.trans B2); clear A2 B2 C2 LP)
      | (go_at_call 28; refine LD.mono ?_; rintro e w3 ⟨rfl, r3, A3, B3⟩; have HA3 := Hid.mk A3; have HB3 := Hid.mk (HB2.out.trans B3); clear A3 B3 LD))
    go_ret
    refine ⟨rfl, _, _, _, _, _, _, HA3.out, bool_cases _ false ?_ ?_, bool_cases _ false ?_ ?_, HB3.out⟩
    · rw [updB_same]; exact us_lay (HU.out false) k1
    · rw [updB_not]; exact HU.out (!false)
    · rw [updB_same]; exact lay_len k1
    · rw [updB_not]; omega
  · simp only [nt, if_true, if_false, Bool.false_eq_true, Nat.add_zero, Nat.reduceAdd] at y1 y2
    go_enter Try.func10, Try.ntmps10
    go_wp2
    go_region
    clear y1 y2 z2 O0 O1 A0 A1 bx h hU npx hl
    generalize hW : (w.alloc (.cells #[.int .i64 1, .int .i64 k1, .bool true] 29)).drew = W1 at *
    have LP := HA1.out.layP true (by have := hl1.out true; omega) k1
    have F1 := (HA1.out.tw.sy true).fit
    have G1 := (HA1.out.tw.sy true).good
    have HFG := Hid.mk (And.intro F1 G1)
    clear F1 G1
    obtain ⟨A, hA⟩ : ∃ A, layA f N M (S true).nx k1 = A := ⟨_, rfl⟩
    obtain ⟨E, hE⟩ : ∃ E, layE f N M (S true).nx k1 = E := ⟨_, rfl⟩
    have HAE := Hid.mk (And.intro hA hE)
    rw [hA, hE] at LP
    clear hA hE
    have nA : (A == A) = true := by simp
    have nE : (E == E) = true := by simp
    go_wp2_with (first
      | (go_at_call 13; refine LP.mono ?_; rintro e w2 ⟨rfl, v2, xs2, A2, B2, C2⟩; have t1 : w2.cell? ⟨w.heap.size, 1, none⟩ = some (.int .i64 k1) := (World.cell?_of_block (w := W1) (a := ⟨w.heap.size, 1, none⟩) (C2.block _ (by have := World.block_lt_of_cell? _ _ u1; simpa using this) HNP.out)).trans u1; have LD := A2.layD true HFG.out.1 (by have := hl1.out true; omega) HFG.out.2 hM k1; rw [HAE.out.1, HAE.out.2] at LD; have HB2 := Hid.mk (HB1.out.trans B2); clear A2 B2 C2 LP)
      | (go_at_call 28; refine LD.mono ?_; rintro e w3 ⟨rfl, r3, A3, B3⟩; have HA3 := Hid.mk A3; have HB3 := Hid.mk (HB2.out.trans B3); clear A3 B3 LD))
    go_ret
    refine ⟨rfl, _, _, _, _, _, _, HA3.out, bool_cases _ true ?_ ?_, bool_cases _ true ?_ ?_, HB3.out⟩
    · rw [updB_same]; exact us_lay (HU.out true) k1
    · rw [updB_not]; exact HU.out (!true)
    · rw [updB_same]; exact lay_len k1
    · rw [updB_not]; omega
  · simp only [nt, if_true, if_false, Bool.false_eq_true, Nat.add_zero, Nat.reduceAdd] at y1 y2
    go_enter Try.func10, Try.ntmps10
    go_wp2
    go_region
    clear y1 y2 z2 O0 O1 A0 A1 bx h hU npx hl
    generalize hW : (w.alloc (.cells #[.int .i64 2, .int .i64 k1, .bool false] 29)).drew = W1 at *
    have LP := HA1.out.layP false (by have := hl1.out false; omega) k1
    have F1 := (HA1.out.tw.sy false).fit
    have G1 := (HA1.out.tw.sy false).good
    have HFG := Hid.mk (And.intro F1 G1)
    clear F1 G1
    obtain ⟨A, hA⟩ : ∃ A, layA f N M (S false).nx k1 = A := ⟨_, rfl⟩
    obtain ⟨E, hE⟩ : ∃ E, layE f N M (S false).nx k1 = E := ⟨_, rfl⟩
    have HAE := Hid.mk (And.intro hA hE)
    rw [hA, hE] at LP
    clear hA hE
    have nA : (A == A) = true := by simp
    have nE : (E == E) = true := by simp
    go_wp2_with (first
      | (go_at_call 13; refine LP.mono ?_; rintro e w2 ⟨rfl, v2, xs2, A2, B2, C2⟩; have t1 : w2.cell? ⟨w.heap.size, 1, none⟩ = some (.int .i64 k1) := (World.cell?_of_block (w := W1) (a := ⟨w.heap.size, 1, none⟩) (C2.block _ (by have := World.block_lt_of_cell? _ _ u1; simpa using this) HNP.out)).trans u1; have LD := A2.layD false HFG.out.1 (by have := hl1.out false; omega) HFG.out.2 hM k1; rw [HAE.out.1, HAE.out.2] at LD; have HB2 := Hid.mk (HB1.out.trans B2); clear A2 B2 C2 LP)
      | (go_at_call 28; refine LD.mono ?_; rintro e w3 ⟨rfl, r3, A3, B3⟩; have HA3 := Hid.mk A3; have HB3 := Hid.mk (HB2.out.trans B3); clear A3 B3 LD))
    go_ret
    refine ⟨rfl, _, _, _, _, _, _, HA3.out, bool_cases _ false ?_ ?_, bool_cases _ false ?_ ?_, HB3.out⟩
    · rw [updB_same]; exact us_lay (HU.out false) k1
    · rw [updB_not]; exact HU.out (!false)
    · rw [updB_same]; exact lay_len k1
    · rw [updB_not]; omega
  · simp only [nt, if_true, if_false, Bool.false_eq_true, Nat.add_zero, Nat.reduceAdd] at y1 y2
    go_enter Try.func10, Try.ntmps10
    go_wp2
    go_region
    clear y1 y2 z2 O0 O1 A0 A1 bx h hU npx hl
    generalize hW : (w.alloc (.cells #[.int .i64 2, .int .i64 k1, .bool true] 29)).drew = W1 at *
    have LP := HA1.out.layP true (by have := hl1.out true; omega) k1
    have F1 := (HA1.out.tw.sy true).fit
    have G1 := (HA1.out.tw.sy true).good
    have HFG := Hid.mk (And.intro F1 G1)
    clear F1 G1
    obtain ⟨A, hA⟩ : ∃ A, layA f N M (S true).nx k1 = A := ⟨_, rfl⟩
    obtain ⟨E, hE⟩ : ∃ E, layE f N M (S true).nx k1 = E := ⟨_, rfl⟩
    have HAE := Hid.mk (And.intro hA hE)
    rw [hA, hE] at LP
    clear hA hE
    have nA : (A == A) = true := by simp
    have nE : (E == E) = true := by simp
    go_wp2_with (first
      | (go_at_call 13; refine LP.mono ?_; rintro e w2 ⟨rfl, v2, xs2, A2, B2, C2⟩; have t1 : w2.cell? ⟨w.heap.size, 1, none⟩ = some (.int .i64 k1) := (World.cell?_of_block (w := W1) (a := ⟨w.heap.size, 1, none⟩) (C2.block _ (by have := World.block_lt_of_cell? _ _ u1; simpa using this) HNP.out)).trans u1; have LD := A2.layD true HFG.out.1 (by have := hl1.out true; omega) HFG.out.2 hM k1; rw [HAE.out.1, HAE.out.2] at LD; have HB2 := Hid.mk (HB1.out.trans B2); clear A2 B2 C2 LP)
      | (go_at_call 28; refine LD.mono ?_; rintro e w3 ⟨rfl, r3, A3, B3⟩; have HA3 := Hid.mk A3; have HB3 := Hid.mk (HB2.out.trans B3); clear A3 B3 LD))
    go_ret
    refine ⟨rfl, _, _, _, _, _, _, HA3.out, bool_cases _ true ?_ ?_, bool_cases _ true ?_ ?_, HB3.out⟩
    · rw [updB_same]; exact us_lay (HU.out true) k1
    · rw [updB_not]; exact HU.out (!true)
    · rw [updB_same]; exact lay_len k1
    · rw [updB_not]; omega
set_option maxRecDepth 100000 in
set_option maxHeartbeats 4000000 in
theorem do_free {lo B q : Nat} {w : World} {s m : Bool → Nat} {v : Bool → Value} {S : Bool → S0} {p a pb ab N M : Nat} {f : Nat → Int} {xs : List Int} {x : Bool → Nat} {r : Bool → Nat → Value} {y yb c : Nat} (h : Al lo B q w s m v S S p a pb ab N M f f xs x r y yb c) (hU : ∀ i, Us (S i)) (hl : ∀ i, (S i).l.length ≤ 999) (hM : M ≤ 524288) (k0 k1 : Int) (b : Bool) (hk : k0 = 3) :
    Calls Try.prog 10 #[pt q, .agg #[.int .i64 k0, .int .i64 k1, .bool b]] w fun e w' => e = .returned (.bool true) ∧ Fin lo B q w w' s S p a pb ab N M x y yb c := by
  have O0 := (Below.refl _ w).alloc (Nat.le_refl _) (.cells #[.int .i64 k0, .int .i64 k1, .bool b] 29)
  have O1 : Below w.heap.size w (w.alloc (.cells #[.int .i64 k0, .int .i64 k1, .bool b] 29)).drew := O0.trans ⟨rfl, rfl, rfl, Nat.le_refl _, fun _ _ => rfl⟩
  have A0 := h.later O0
  have A1 := h.later O1
  have bx : (w.alloc (.cells #[.int .i64 k0, .int .i64 k1, .bool b] 29)).heap[w.heap.size]? = some (.cells #[.int .i64 k0, .int .i64 k1, .bool b] 29 (0, 0)) := heap_alloc_new _ _
  have z2 : (w.alloc (.cells #[.int .i64 k0, .int .i64 k1, .bool b] 29)).cell? ⟨w.heap.size, 2, none⟩ = some (.bool b) := by rw [Joins.cell_of_block bx]; rfl
  have u0 : (w.alloc (.cells #[.int .i64 k0, .int .i64 k1, .bool b] 29)).drew.cell? ⟨w.heap.size, 0, none⟩ = some (.int .i64 k0) := by
    have : (w.alloc (.cells #[.int .i64 k0, .int .i64 k1, .bool b] 29)).drew.heap[w.heap.size]? = _ := bx
    rw [Joins.cell_of_block this]; rfl
  have u1 : (w.alloc (.cells #[.int .i64 k0, .int .i64 k1, .bool b] 29)).drew.cell? ⟨w.heap.size, 1, none⟩ = some (.int .i64 k1) := by
    have : (w.alloc (.cells #[.int .i64 k0, .int .i64 k1, .bool b] 29)).drew.heap[w.heap.size]? = _ := bx
    rw [Joins.cell_of_block this]; rfl
  obtain ⟨y1, y2⟩ := A0.cq b
  have npx : ¬ pO s m v p a pb ab w.heap.size := fun z => by have := h.ltP _ z; omega
  have HA1 := Hid.mk A1
  have HB1 := Hid.mk (O1.mono h.lq)
  have HU := Hid.mk hU
  have HNP := Hid.mk npx
  have HQ := Hid.mk h.lq
  have hl1 := Hid.mk hl
  unfold pt at *
  subst hk
  cases b
  · simp only [nt, if_true, if_false, Bool.false_eq_true, Nat.add_zero, Nat.reduceAdd] at y1 y2
    go_enter Try.func10, Try.ntmps10
    go_wp2
    go_region
    clear y1 y2 z2 O0 O1 A0 A1 bx h hU npx hl
    generalize hW : (w.alloc (.cells #[.int .i64 3, .int .i64 k1, .bool false] 29)).drew = W1 at *
    have G1 := (HA1.out.tw.sy false).good
    have FD := HA1.out.freeD false (by have := hl1.out false; omega) G1
    clear G1
    go_wp2_with (first
      | (go_at_call 29; refine FD.mono ?_; rintro e w2 ⟨⟨u, rfl⟩, r2, A2, B2⟩; have FP := A2.freeP false (by have := hl1.out false; omega); have HB2 := Hid.mk (HB1.out.trans B2); clear A2 B2 FD)
      | (go_at_call 17; refine FP.mono ?_; rintro e w3 ⟨rfl, m3, v3, A3, B3⟩; have HA3 := Hid.mk A3; have HB3 := Hid.mk (HB2.out.trans B3); clear A3 B3 FP))
    go_ret
    refine ⟨rfl, _, _, _, _, _, _, HA3.out, bool_cases _ false ?_ ?_, bool_cases _ false ?_ ?_, HB3.out⟩
    · rw [updB_same]; exact us_none
    · rw [updB_not]; exact HU.out (!false)
    · rw [updB_same]; simp [S0.none]
    · rw [updB_not]; omega
  · simp only [nt, if_true, if_false, Bool.false_eq_true, Nat.add_zero, Nat.reduceAdd] at y1 y2
    go_enter Try.func10, Try.ntmps10
    go_wp2
    go_region
    clear y1 y2 z2 O0 O1 A0 A1 bx h hU npx hl
    generalize hW : (w.alloc (.cells #[.int .i64 3, .int .i64 k1, .bool true] 29)).drew = W1 at *
    have G1 := (HA1.out.tw.sy true).good
    have FD := HA1.out.freeD true (by have := hl1.out true; omega) G1
    clear G1
    go_wp2_with (first
      | (go_at_call 29; refine FD.mono ?_; rintro e w2 ⟨⟨u, rfl⟩, r2, A2, B2⟩; have FP := A2.freeP true (by have := hl1.out true; omega); have HB2 := Hid.mk (HB1.out.trans B2); clear A2 B2 FD)
      | (go_at_call 17; refine FP.mono ?_; rintro e w3 ⟨rfl, m3, v3, A3, B3⟩; have HA3 := Hid.mk A3; have HB3 := Hid.mk (HB2.out.trans B3); clear A3 B3 FP))
    go_ret
    refine ⟨rfl, _, _, _, _, _, _, HA3.out, bool_cases _ true ?_ ?_, bool_cases _ true ?_ ?_, HB3.out⟩
    · rw [updB_same]; exact us_none
    · rw [updB_not]; exact HU.out (!true)
    · rw [updB_same]; simp [S0.none]
    · rw [updB_not]; omega
set_option maxRecDepth 100000 in
set_option maxHeartbeats 4000000 in
theorem do_has {lo B q : Nat} {w : World} {s m : Bool → Nat} {v : Bool → Value} {S : Bool → S0} {p a pb ab N M : Nat} {f : Nat → Int} {xs : List Int} {x : Bool → Nat} {r : Bool → Nat → Value} {y yb c : Nat} (h : Al lo B q w s m v S S p a pb ab N M f f xs x r y yb c) (hU : ∀ i, Us (S i)) (hl : ∀ i, (S i).l.length ≤ 999) (hM : M ≤ 524288) (k0 k1 : Int) (b : Bool) (hk : k0 ≠ 0 ∧ k0 ≠ 1 ∧ k0 ≠ 2 ∧ k0 ≠ 3) (i1 : isI k1) :
    Calls Try.prog 10 #[pt q, .agg #[.int .i64 k0, .int .i64 k1, .bool b]] w fun e w' => e = .returned (.bool true) ∧ Fin lo B q w w' s S p a pb ab N M x y yb c := by
  have O0 := (Below.refl _ w).alloc (Nat.le_refl _) (.cells #[.int .i64 k0, .int .i64 k1, .bool b] 29)
  have O1 : Below w.heap.size w (w.alloc (.cells #[.int .i64 k0, .int .i64 k1, .bool b] 29)).drew := O0.trans ⟨rfl, rfl, rfl, Nat.le_refl _, fun _ _ => rfl⟩
  have A0 := h.later O0
  have A1 := h.later O1
  have bx : (w.alloc (.cells #[.int .i64 k0, .int .i64 k1, .bool b] 29)).heap[w.heap.size]? = some (.cells #[.int .i64 k0, .int .i64 k1, .bool b] 29 (0, 0)) := heap_alloc_new _ _
  have z2 : (w.alloc (.cells #[.int .i64 k0, .int .i64 k1, .bool b] 29)).cell? ⟨w.heap.size, 2, none⟩ = some (.bool b) := by rw [Joins.cell_of_block bx]; rfl
  have u0 : (w.alloc (.cells #[.int .i64 k0, .int .i64 k1, .bool b] 29)).drew.cell? ⟨w.heap.size, 0, none⟩ = some (.int .i64 k0) := by
    have : (w.alloc (.cells #[.int .i64 k0, .int .i64 k1, .bool b] 29)).drew.heap[w.heap.size]? = _ := bx
    rw [Joins.cell_of_block this]; rfl
  have u1 : (w.alloc (.cells #[.int .i64 k0, .int .i64 k1, .bool b] 29)).drew.cell? ⟨w.heap.size, 1, none⟩ = some (.int .i64 k1) := by
    have : (w.alloc (.cells #[.int .i64 k0, .int .i64 k1, .bool b] 29)).drew.heap[w.heap.size]? = _ := bx
    rw [Joins.cell_of_block this]; rfl
  obtain ⟨y1, y2⟩ := A0.cq b
  have npx : ¬ pO s m v p a pb ab w.heap.size := fun z => by have := h.ltP _ z; omega
  have HA1 := Hid.mk A1
  have HB1 := Hid.mk (O1.mono h.lq)
  have HU := Hid.mk hU
  have HNP := Hid.mk npx
  have HQ := Hid.mk h.lq
  have hl1 := Hid.mk hl
  unfold pt at *
  have q0 : (k0 == 0) = false := by simp; omega
  have q1 : (k0 == 1) = false := by simp; omega
  have q2 : (k0 == 2) = false := by simp; omega
  have q3 : (k0 == 3) = false := by simp; omega
  clear hk
  cases b
  · simp only [nt, if_true, if_false, Bool.false_eq_true, Nat.add_zero, Nat.reduceAdd] at y1 y2
    go_enter Try.func10, Try.ntmps10
    go_wp2
    go_region
    clear y1 y2 z2 O0 O1 A0 A1 bx h hU npx hl
    generalize hW : (w.alloc (.cells #[.int .i64 k0, .int .i64 k1, .bool false] 29)).drew = W1 at *
    have BD : Below W1.heap.size W1 W1.drew := ⟨rfl, rfl, rfl, Nat.le_refl _, fun _ _ => rfl⟩
    have HA2 := Hid.mk (HA1.out.later BD)
    have HB2 := Hid.mk (HB1.out.trans (BD.mono (HA1.out.lq)))
    have HS : Calls Try.prog 24 #[.pointer (some ⟨s false, 0, none⟩), .int .i64 k1] W1.drew fun e w' => e = .returned (.bool (decide (0 ≤ k1) && hasL (S false).l k1.toNat)) ∧ w' = W1.drew := has_any (HA2.out.tw.sy false).sp k1 i1
    have HD := rhas_any (HA2.out.rs false) (by have := hl1.out false; omega) k1
    obtain ⟨t, ht⟩ : ∃ t, (decide (0 ≤ k1) && hasL (S false).l k1.toNat) = t := ⟨_, rfl⟩
    rw [ht] at HS HD
    clear ht BD
    go_wp2
    go_region_held3 (fun W' => W'.cell? ⟨w.heap.size, 1, none⟩ = some (.int .i64 k1)) (go_keep) (first
      | (go_at_call 24; refine HS.mono ?_; rintro e w2 ⟨rfl, hw⟩; rw [hw]; clear hw)
      | (go_at_call 30; refine HD.mono ?_; rintro e w2 ⟨rfl, hw⟩; rw [hw]; clear hw))
    all_goals go_wp2
    all_goals go_ret
    all_goals exact ⟨by simp, m, v, S, f, xs, r, HA2.out, HU.out, fun i => by omega, HB2.out⟩
  · simp only [nt, if_true, if_false, Bool.false_eq_true, Nat.add_zero, Nat.reduceAdd] at y1 y2
    go_enter Try.func10, Try.ntmps10
    go_wp2
    go_region
    clear y1 y2 z2 O0 O1 A0 A1 bx h hU npx hl
    generalize hW : (w.alloc (.cells #[.int .i64 k0, .int .i64 k1, .bool true] 29)).drew = W1 at *
    have BD : Below W1.heap.size W1 W1.drew := ⟨rfl, rfl, rfl, Nat.le_refl _, fun _ _ => rfl⟩
    have HA2 := Hid.mk (HA1.out.later BD)
    have HB2 := Hid.mk (HB1.out.trans (BD.mono (HA1.out.lq)))
    have HS : Calls Try.prog 24 #[.pointer (some ⟨s true, 0, none⟩), .int .i64 k1] W1.drew fun e w' => e = .returned (.bool (decide (0 ≤ k1) && hasL (S true).l k1.toNat)) ∧ w' = W1.drew := has_any (HA2.out.tw.sy true).sp k1 i1
    have HD := rhas_any (HA2.out.rs true) (by have := hl1.out true; omega) k1
    obtain ⟨t, ht⟩ : ∃ t, (decide (0 ≤ k1) && hasL (S true).l k1.toNat) = t := ⟨_, rfl⟩
    rw [ht] at HS HD
    clear ht BD
    go_wp2
    go_region_held3 (fun W' => W'.cell? ⟨w.heap.size, 1, none⟩ = some (.int .i64 k1)) (go_keep) (first
      | (go_at_call 24; refine HS.mono ?_; rintro e w2 ⟨rfl, hw⟩; rw [hw]; clear hw)
      | (go_at_call 30; refine HD.mono ?_; rintro e w2 ⟨rfl, hw⟩; rw [hw]; clear hw))
    all_goals go_wp2
    all_goals go_ret
    all_goals exact ⟨by simp, m, v, S, f, xs, r, HA2.out, HU.out, fun i => by omega, HB2.out⟩
theorem do_any {lo B q : Nat} {w : World} {s m : Bool → Nat} {v : Bool → Value} {S : Bool → S0} {p a pb ab N M : Nat} {f : Nat → Int} {xs : List Int} {x : Bool → Nat} {r : Bool → Nat → Value} {y yb c : Nat} (h : Al lo B q w s m v S S p a pb ab N M f f xs x r y yb c) (hU : ∀ i, Us (S i)) (hl : ∀ i, (S i).l.length ≤ 999) (hM : M ≤ 524288) (k0 k1 : Int) (b : Bool) (i1 : isI k1) :
    Calls Try.prog 10 #[pt q, .agg #[.int .i64 k0, .int .i64 k1, .bool b]] w fun e w' => e = .returned (.bool true) ∧ Fin lo B q w w' s S p a pb ab N M x y yb c := by
  by_cases h1 : k0 = 0 ∨ k0 = 1 ∨ k0 = 2
  · exact do_lay h hU hl hM k0 k1 b h1
  · by_cases h3 : k0 = 3
    · exact do_free h hU hl hM k0 k1 b h3
    · exact do_has h hU hl hM k0 k1 b ⟨fun e => h1 (.inl e), fun e => h1 (.inr (.inl e)), fun e => h1 (.inr (.inr e)), h3⟩ i1
end Go.Proofs.Ytcallmfdigfhnaa
