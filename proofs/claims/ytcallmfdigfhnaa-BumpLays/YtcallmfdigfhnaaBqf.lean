/- told: all that is told of both sides is alike. -/
import Derived.Test.YtcallmfdigfhnaaBqe
namespace Go.Proofs.Ytcallmfdigfhnaa
open Go.RowKit
set_option linter.unusedVariables false
set_option linter.unusedSimpArgs false

theorem Al.cq0 {lo B q : Nat} {w : World} {s m : Bool → Nat} {v : Bool → Value} {S T : Bool → S0} {p a pb ab N M : Nat} {f g : Nat → Int} {xs : List Int} {x : Bool → Nat} {r : Bool → Nat → Value} {y yb c : Nat} (h : Al lo B q w s m v S T p a pb ab N M f g xs x r y yb c) : w.cell? ⟨q, 0, none⟩ = some (.pointer (some ⟨p, 0, none⟩)) ∧ w.cell? ⟨q, 4, none⟩ = some (.pointer (some ⟨x false, 0, none⟩)) ∧ w.cell? ⟨x false, 0, none⟩ = some (.pointer (some ⟨y, 0, none⟩)) :=
  ⟨by rw [Joins.cell_of_block h.box]; rfl, by rw [Joins.cell_of_block h.box]; rfl, (Rh.cells (h.rs false)).1⟩
set_option maxRecDepth 100000 in
set_option maxHeartbeats 8000000 in
theorem told_all {lo B q : Nat} {w : World} {s m : Bool → Nat} {v : Bool → Value} {S : Bool → S0} {p a pb ab N M : Nat} {f : Nat → Int} {xs : List Int} {x : Bool → Nat} {r : Bool → Nat → Value} {y yb c : Nat} (h : Al lo B q w s m v S S p a pb ab N M f f xs x r y yb c) (hU : ∀ i, Us (S i)) (hl : ∀ i, (S i).l.length ≤ 1000) :
    Calls Try.prog 11 #[pt q] w fun e w' => e = .returned (.bool true) ∧ Below w.heap.size w w' := by
  have Hh := Hid.mk h
  have HU := Hid.mk hU
  have hl1 := Hid.mk hl
  clear h hU hl
  unfold pt
  go_enter Try.func11, Try.ntmps11
  go_wp2
  go_loopw [3] (fun i wr => ∃ z : Int, i = .int .i64 z ∧ (z = 0 ∨ z = 1 ∨ z = 2) ∧ Hid (Below w.heap.size w wr)) (fun i _ => (2 - intOf i).toNat)
  case atStart => exact ⟨0, rfl, by omega, ⟨Below.refl _ _⟩⟩
  case round =>
    obtain ⟨z, rfl, hz, HBr⟩ := hrel
    rcases hz with rfl | rfl | rfl
    · have HH := Hid.mk (Hh.out.later HBr.out)
      have HB := HBr
      have EA := each_any (HH.out.tw.sy false).sp (by have := hl1.out false; omega)
      have q1 := (HH.out.cq false).1
      have q2 := (HH.out.cq false).2
      have q3 := (Rh.cells (HH.out.rs false)).2.2.2.1
      have q4 := (Rh.cells (HH.out.rs false)).2.2.2.2.1
      have q5 := (Rh.cells (HH.out.rs false)).2.2.2.2.2.1
      simp only [nt, pt, if_true, if_false, Bool.false_eq_true, Nat.add_zero, Nat.reduceAdd] at q1 q2 q3 q4 q5
      have hvlt : ∀ k, (v false).ownBlock = some k → k < wr.heap.size := fun k z => (HH.out.tw.sy false).sp.lt k (.inr (.inr z))
      have HV := Hid.mk hvlt
      clear hvlt
      go_wp2_with (first
        | (go_at_call 23; refine EA.mono ?_; rintro e w1 ⟨Bs, ga, rfl, _, L1, hga, B1⟩; have PA := pairs_any L1 (by have := hl1.out false; omega) (fun g o e => Nat.lt_of_lt_of_le (HV.out g (hga g o e)) B1.size); replace HH := Hid.mk (HH.out.later B1); replace HB := Hid.mk (HB.out.trans (B1.mono HB.out.size)); clear EA L1 hga B1)
        | (go_at_call 22; refine PA.mono ?_; rintro e w2 ⟨va, vb, rfl, SA, SB, B2⟩; replace HH := Hid.mk (HH.out.later B2); replace HB := Hid.mk (HB.out.trans (B2.mono HB.out.size)); have HSA := Hid.mk SA; have HSB := Hid.mk SB; clear PA SA SB B2))
      have BD : Below w2.heap.size w2 w2.drew := ⟨rfl, rfl, rfl, Nat.le_refl _, fun _ _ => rfl⟩
      replace HH := Hid.mk (HH.out.later BD)
      replace HB := Hid.mk (HB.out.trans (BD.mono HB.out.size))
      replace HSA := Hid.mk (HSA.out.later BD)
      replace HSB := Hid.mk (HSB.out.later BD)
      have K1 : True := trivial
      clear q1 q2 q3 q4 q5
      clear BD
      have q1 := (HH.out.cq false).1
      have q2 := (HH.out.cq false).2
      have q3 := (Rh.cells (HH.out.rs false)).2.2.2.1
      have q4 := (Rh.cells (HH.out.rs false)).2.2.2.2.1
      have q5 := (Rh.cells (HH.out.rs false)).2.2.2.2.2.1
      simp only [nt, pt, if_true, if_false, Bool.false_eq_true, Nat.add_zero, Nat.reduceAdd] at q1 q2 q3 q4 q5
      have HLA : Hid ((fsI (S false).l).length ≤ 10000) := ⟨by have := hl1.out false; simp [fsI]; omega⟩
      have HLB : Hid ((nsI (S false).l).length ≤ 10000) := ⟨by have := hl1.out false; simp [nsI]; omega⟩
      go_region_held3 (fun W' => W'.cell? ⟨q, 2, none⟩ = some (.pointer (some ⟨s false, 0, none⟩)) ∧ W'.cell? ⟨q, 4, none⟩ = some (.pointer (some ⟨x false, 0, none⟩)) ∧ W'.cell? ⟨x false, 3, none⟩ = some (.int .i64 ((S false).bl : Int)) ∧ W'.cell? ⟨x false, 4, none⟩ = some (r false 1) ∧ W'.cell? ⟨x false, 5, none⟩ = some (r false 2)) (go_keep) (first
        | (have zz := K1; go_at_call 31; refine (same_true HSA.out (sl_of ((HH.out.rs false).row 1 (by omega))) HLA.out).mono ?_; rintro e w4 ⟨rfl, B4⟩; replace HH := Hid.mk (HH.out.later B4); replace HB := Hid.mk (HB.out.trans (B4.mono HB.out.size)); replace HSB := Hid.mk (HSB.out.later B4); have K2 : True := trivial; clear q1 q2 q3 q4 q5 zz K1 HSA B4; have q1 := (HH.out.cq false).1; have q2 := (HH.out.cq false).2; have q3 := (Rh.cells (HH.out.rs false)).2.2.2.1; have q4 := (Rh.cells (HH.out.rs false)).2.2.2.2.1; have q5 := (Rh.cells (HH.out.rs false)).2.2.2.2.2.1; simp only [nt, pt, if_true, if_false, Bool.false_eq_true, Nat.add_zero, Nat.reduceAdd] at q1 q2 q3 q4 q5)
        | (have zz := K2; go_at_call 31; refine (same_true HSB.out (sl_of ((HH.out.rs false).row 2 (by omega))) HLB.out).mono ?_; rintro e w4 ⟨rfl, B4⟩; replace HH := Hid.mk (HH.out.later B4); replace HB := Hid.mk (HB.out.trans (B4.mono HB.out.size)); clear q1 q2 q3 q4 q5 zz K2 HSB B4; have q1 := (HH.out.cq false).1; have q2 := (HH.out.cq false).2; have q3 := (Rh.cells (HH.out.rs false)).2.2.2.1; have q4 := (Rh.cells (HH.out.rs false)).2.2.2.2.1; have q5 := (Rh.cells (HH.out.rs false)).2.2.2.2.2.1; simp only [nt, pt, if_true, if_false, Bool.false_eq_true, Nat.add_zero, Nat.reduceAdd] at q1 q2 q3 q4 q5)
        | (go_at_call 16; refine (used_any (HH.out.tw.sy false).sp).mono ?_; rintro e w4 ⟨rfl, hw⟩; rw [hw]; clear hw)
        | (go_at_call 32; refine (rused_any (HH.out.rs false) (HU.out false) (hl1.out false)).mono ?_; rintro e w4 ⟨rfl, hw⟩; rw [hw]; clear hw)
        | (go_at_call 15; refine (blocks_any (HH.out.tw.sy false).sp).mono ?_; rintro e w4 ⟨rfl, hw⟩; rw [hw]; clear hw))
      all_goals clear q1 q2 q3 q4 q5
      all_goals go_wp2
      all_goals go_roundw
      all_goals first
        | (case rel => exact ⟨_, rfl, by omega, HB⟩)
        | skip
      all_goals (case measure => simp [intOf])
    · have HH := Hid.mk (Hh.out.later HBr.out)
      have HB := HBr
      have EA := each_any (HH.out.tw.sy true).sp (by have := hl1.out true; omega)
      have q1 := (HH.out.cq true).1
      have q2 := (HH.out.cq true).2
      have q3 := (Rh.cells (HH.out.rs true)).2.2.2.1
      have q4 := (Rh.cells (HH.out.rs true)).2.2.2.2.1
      have q5 := (Rh.cells (HH.out.rs true)).2.2.2.2.2.1
      simp only [nt, pt, if_true, if_false, Bool.false_eq_true, Nat.add_zero, Nat.reduceAdd] at q1 q2 q3 q4 q5
      have hvlt : ∀ k, (v true).ownBlock = some k → k < wr.heap.size := fun k z => (HH.out.tw.sy true).sp.lt k (.inr (.inr z))
      have HV := Hid.mk hvlt
      clear hvlt
      go_wp2_with (first
        | (go_at_call 23; refine EA.mono ?_; rintro e w1 ⟨Bs, ga, rfl, _, L1, hga, B1⟩; have PA := pairs_any L1 (by have := hl1.out true; omega) (fun g o e => Nat.lt_of_lt_of_le (HV.out g (hga g o e)) B1.size); replace HH := Hid.mk (HH.out.later B1); replace HB := Hid.mk (HB.out.trans (B1.mono HB.out.size)); clear EA L1 hga B1)
        | (go_at_call 22; refine PA.mono ?_; rintro e w2 ⟨va, vb, rfl, SA, SB, B2⟩; replace HH := Hid.mk (HH.out.later B2); replace HB := Hid.mk (HB.out.trans (B2.mono HB.out.size)); have HSA := Hid.mk SA; have HSB := Hid.mk SB; clear PA SA SB B2))
      have BD : Below w2.heap.size w2 w2.drew := ⟨rfl, rfl, rfl, Nat.le_refl _, fun _ _ => rfl⟩
      replace HH := Hid.mk (HH.out.later BD)
      replace HB := Hid.mk (HB.out.trans (BD.mono HB.out.size))
      replace HSA := Hid.mk (HSA.out.later BD)
      replace HSB := Hid.mk (HSB.out.later BD)
      have K1 : True := trivial
      clear q1 q2 q3 q4 q5
      clear BD
      have q1 := (HH.out.cq true).1
      have q2 := (HH.out.cq true).2
      have q3 := (Rh.cells (HH.out.rs true)).2.2.2.1
      have q4 := (Rh.cells (HH.out.rs true)).2.2.2.2.1
      have q5 := (Rh.cells (HH.out.rs true)).2.2.2.2.2.1
      simp only [nt, pt, if_true, if_false, Bool.false_eq_true, Nat.add_zero, Nat.reduceAdd] at q1 q2 q3 q4 q5
      have HLA : Hid ((fsI (S true).l).length ≤ 10000) := ⟨by have := hl1.out true; simp [fsI]; omega⟩
      have HLB : Hid ((nsI (S true).l).length ≤ 10000) := ⟨by have := hl1.out true; simp [nsI]; omega⟩
      go_region_held3 (fun W' => W'.cell? ⟨q, 3, none⟩ = some (.pointer (some ⟨s true, 0, none⟩)) ∧ W'.cell? ⟨q, 5, none⟩ = some (.pointer (some ⟨x true, 0, none⟩)) ∧ W'.cell? ⟨x true, 3, none⟩ = some (.int .i64 ((S true).bl : Int)) ∧ W'.cell? ⟨x true, 4, none⟩ = some (r true 1) ∧ W'.cell? ⟨x true, 5, none⟩ = some (r true 2)) (go_keep) (first
        | (have zz := K1; go_at_call 31; refine (same_true HSA.out (sl_of ((HH.out.rs true).row 1 (by omega))) HLA.out).mono ?_; rintro e w4 ⟨rfl, B4⟩; replace HH := Hid.mk (HH.out.later B4); replace HB := Hid.mk (HB.out.trans (B4.mono HB.out.size)); replace HSB := Hid.mk (HSB.out.later B4); have K2 : True := trivial; clear q1 q2 q3 q4 q5 zz K1 HSA B4; have q1 := (HH.out.cq true).1; have q2 := (HH.out.cq true).2; have q3 := (Rh.cells (HH.out.rs true)).2.2.2.1; have q4 := (Rh.cells (HH.out.rs true)).2.2.2.2.1; have q5 := (Rh.cells (HH.out.rs true)).2.2.2.2.2.1; simp only [nt, pt, if_true, if_false, Bool.false_eq_true, Nat.add_zero, Nat.reduceAdd] at q1 q2 q3 q4 q5)
        | (have zz := K2; go_at_call 31; refine (same_true HSB.out (sl_of ((HH.out.rs true).row 2 (by omega))) HLB.out).mono ?_; rintro e w4 ⟨rfl, B4⟩; replace HH := Hid.mk (HH.out.later B4); replace HB := Hid.mk (HB.out.trans (B4.mono HB.out.size)); clear q1 q2 q3 q4 q5 zz K2 HSB B4; have q1 := (HH.out.cq true).1; have q2 := (HH.out.cq true).2; have q3 := (Rh.cells (HH.out.rs true)).2.2.2.1; have q4 := (Rh.cells (HH.out.rs true)).2.2.2.2.1; have q5 := (Rh.cells (HH.out.rs true)).2.2.2.2.2.1; simp only [nt, pt, if_true, if_false, Bool.false_eq_true, Nat.add_zero, Nat.reduceAdd] at q1 q2 q3 q4 q5)
        | (go_at_call 16; refine (used_any (HH.out.tw.sy true).sp).mono ?_; rintro e w4 ⟨rfl, hw⟩; rw [hw]; clear hw)
        | (go_at_call 32; refine (rused_any (HH.out.rs true) (HU.out true) (hl1.out true)).mono ?_; rintro e w4 ⟨rfl, hw⟩; rw [hw]; clear hw)
        | (go_at_call 15; refine (blocks_any (HH.out.tw.sy true).sp).mono ?_; rintro e w4 ⟨rfl, hw⟩; rw [hw]; clear hw))
      all_goals clear q1 q2 q3 q4 q5
      all_goals go_wp2
      all_goals go_roundw
      all_goals first
        | (case rel => exact ⟨_, rfl, by omega, HB⟩)
        | skip
      all_goals (case measure => simp [intOf])
    · have HH := Hid.mk ((Hh.out.later HBr.out).later (W' := wr.drew) ⟨rfl, rfl, rfl, Nat.le_refl _, fun _ _ => rfl⟩)
      have HB := Hid.mk (HBr.out.trans (show Below w.heap.size wr wr.drew from ⟨rfl, rfl, rfl, Nat.le_refl _, fun _ _ => rfl⟩))
      obtain ⟨q1, q2, q3⟩ := HH.out.cq0
      have HG := Hid.mk (HH.out.tw.sy false).good
      obtain ⟨LL, hLL⟩ : ∃ LL, left f N = LL := ⟨_, rfl⟩
      have HLL := Hid.mk hLL
      clear hLL
      go_wp2
      go_region_held3 (fun W' => W'.cell? ⟨q, 0, none⟩ = some (.pointer (some ⟨p, 0, none⟩)) ∧ W'.cell? ⟨q, 4, none⟩ = some (.pointer (some ⟨x false, 0, none⟩)) ∧ W'.cell? ⟨x false, 0, none⟩ = some (.pointer (some ⟨y, 0, none⟩))) (go_keep) (first
        | (go_at_call 18; refine (left_ok (HH.out.tw.sy false).pool).mono ?_; rw [HLL.out]; rintro e w4 ⟨rfl, B4⟩; replace HH := Hid.mk (HH.out.later B4); replace HB := Hid.mk (HB.out.trans (B4.mono HB.out.size)); clear q1 q2 q3 B4; obtain ⟨q1, q2, q3⟩ := HH.out.cq0)
        | (go_at_call 33; refine (rleft_ok HH.out.ref HG.out).mono ?_; rw [HLL.out]; rintro e w4 ⟨rfl, hw⟩; rw [hw]; clear hw))
      all_goals go_wp2
      all_goals go_ret
      all_goals exact ⟨by simp, HB.out⟩
end Go.Proofs.Ytcallmfdigfhnaa
