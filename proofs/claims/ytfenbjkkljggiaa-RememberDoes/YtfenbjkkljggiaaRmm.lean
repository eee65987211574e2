/- A call of both lists: answered alike, and both have the same behind it. -/
import Derived.Test.YtfenbjkkljggiaaRml
import Derived.Test.YtfenbjkkljggiaaActs
namespace Go.Proofs.Ytfenbjkkljggiaa
open Go.RowKit
set_option linter.unusedVariables false
set_option linter.unusedSimpArgs false

/-- what a call of both leaves -/
def Fin (lo : Nat) (w w' : World) (s sb x ob n : Nat) : Prop := ∃ (m : Nat → Nat) (V : Nat → Value) (L : Nat → List Int), Ls lo w' s sb n m L ∧ Rs lo w' x ob n V L ∧ Below lo w w'
theorem bx0 {w : World} {b : Nat} {k0 k1 k2 : Value} (h : w.heap[b]? = some (.cells #[k0, k1, k2] 33 (0, 0))) : w.cell? ⟨b, 0, none⟩ = some k0 := by rw [Joins.cell_of_block h]; rfl
theorem bx1 {w : World} {b : Nat} {k0 k1 k2 : Value} (h : w.heap[b]? = some (.cells #[k0, k1, k2] 33 (0, 0))) : w.cell? ⟨b, 1, none⟩ = some k1 := by rw [Joins.cell_of_block h]; rfl
theorem bx2 {w : World} {b : Nat} {k0 k1 k2 : Value} (h : w.heap[b]? = some (.cells #[k0, k1, k2] 33 (0, 0))) : w.cell? ⟨b, 2, none⟩ = some k2 := by rw [Joins.cell_of_block h]; rfl

set_option maxRecDepth 100000 in
set_option maxHeartbeats 4000000 in
theorem do_put {lo : Nat} {w : World} {s sb x ob n : Nat} {m : Nat → Nat} {V : Nat → Value} {L : Nat → List Int} (h : Ls lo w s sb n m L) (g : Rs lo w x ob n V L) (hlo : lo ≤ w.heap.size) (k0 k1 k2 : Int) (hk : k0 = 0 ∨ k0 = 1) :
    Calls Try.prog 11 #[pv s, pv x, .agg #[.int .i64 k0, .int .i64 k1, .int .i64 k2]] w fun e w' => e = .returned (.bool true) ∧ Fin lo w w' s sb x ob n := by
  have B0 : Below w.heap.size w (w.alloc (.cells #[.int .i64 k0, .int .i64 k1, .int .i64 k2] 33)).drew := ((Below.refl _ w).alloc (Nat.le_refl _) _).trans ⟨rfl, rfl, rfl, Nat.le_refl _, fun _ _ => rfl⟩
  have HS := Hid.mk (h.later B0)
  have HR := Hid.mk (g.later B0)
  have HB := Hid.mk (B0.mono hlo)
  have HX : Hid ((w.alloc (.cells #[.int .i64 k0, .int .i64 k1, .int .i64 k2] 33)).drew.heap[w.heap.size]? = some (.cells #[.int .i64 k0, .int .i64 k1, .int .i64 k2] 33 (0, 0))) := ⟨heap_alloc_new _ _⟩
  clear h g B0
  rcases hk with rfl | rfl
  all_goals
    go_enter Try.func11, Try.ntmps11
    go_wp2
    go_region_held3 (fun W' => W'.cell? ⟨w.heap.size, 1, none⟩ = some (.int .i64 k1) ∧ W'.cell? ⟨w.heap.size, 2, none⟩ = some (.int .i64 k2)) (go_keep) (first
      | (go_at_call 17; refine (put_any HS.out k1 k2).mono ?_; rintro e w4 ⟨rfl, H4, K4⟩; replace HS := Hid.mk H4; replace HR := Hid.mk (HR.out.kpP K4); replace HB := Hid.mk (HB.out.trans K4.bel); replace HX := Hid.mk (K4.keep _ _ HX.out (notXP _ _ _ (by decide))); (try replace HSB := Hid.mk (HSB.out.kp K4 (fun cur => notXP _ _ _ (by decide)))); have r1 := bx1 HX.out; have r2 := bx2 HX.out; clear H4 K4)
      | (go_at_call 21; refine (rput_any HR.out k1 k2).mono ?_; rintro e w5 ⟨rfl, V5, H5, K5⟩; replace HR := Hid.mk H5; replace HS := Hid.mk (HS.out.kpR K5); replace HB := Hid.mk (HB.out.trans K5.bel); replace HX := Hid.mk (K5.keep _ _ HX.out (notXR _ _ _ (by decide))); (try replace HSA := Hid.mk (HSA.out.kp K5 (fun cur => notXR _ _ _ (by decide)))); have r1 := bx1 HX.out; have r2 := bx2 HX.out; clear H5 K5))
    all_goals go_wp2
    all_goals go_ret
    all_goals exact ⟨by simp, _, _, _, HS.out, HR.out, HB.out⟩

set_option maxRecDepth 100000 in
set_option maxHeartbeats 4000000 in
theorem do_drop {lo : Nat} {w : World} {s sb x ob n : Nat} {m : Nat → Nat} {V : Nat → Value} {L : Nat → List Int} (h : Ls lo w s sb n m L) (g : Rs lo w x ob n V L) (hlo : lo ≤ w.heap.size) (k0 k1 k2 : Int) (hk : k0 = 2) :
    Calls Try.prog 11 #[pv s, pv x, .agg #[.int .i64 k0, .int .i64 k1, .int .i64 k2]] w fun e w' => e = .returned (.bool true) ∧ Fin lo w w' s sb x ob n := by
  have B0 : Below w.heap.size w (w.alloc (.cells #[.int .i64 k0, .int .i64 k1, .int .i64 k2] 33)).drew := ((Below.refl _ w).alloc (Nat.le_refl _) _).trans ⟨rfl, rfl, rfl, Nat.le_refl _, fun _ _ => rfl⟩
  have HS := Hid.mk (h.later B0)
  have HR := Hid.mk (g.later B0)
  have HB := Hid.mk (B0.mono hlo)
  have HX : Hid ((w.alloc (.cells #[.int .i64 k0, .int .i64 k1, .int .i64 k2] 33)).drew.heap[w.heap.size]? = some (.cells #[.int .i64 k0, .int .i64 k1, .int .i64 k2] 33 (0, 0))) := ⟨heap_alloc_new _ _⟩
  clear h g B0
  subst hk
  all_goals
    go_enter Try.func11, Try.ntmps11
    go_wp2
    go_region_held3 (fun W' => W'.cell? ⟨w.heap.size, 1, none⟩ = some (.int .i64 k1) ∧ W'.cell? ⟨w.heap.size, 2, none⟩ = some (.int .i64 k2)) (go_keep) (first
      | (go_at_call 18; refine (drop_any HS.out k1 k2).mono ?_; rintro e w4 ⟨rfl, H4, K4⟩; replace HS := Hid.mk H4; replace HR := Hid.mk (HR.out.kpP K4); replace HB := Hid.mk (HB.out.trans K4.bel); replace HX := Hid.mk (K4.keep _ _ HX.out (notXP _ _ _ (by decide))); (try replace HSB := Hid.mk (HSB.out.kp K4 (fun cur => notXP _ _ _ (by decide)))); have r1 := bx1 HX.out; have r2 := bx2 HX.out; clear H4 K4)
      | (go_at_call 22; refine (rdrop_any HR.out k1 k2).mono ?_; rintro e w5 ⟨rfl, V5, H5, K5⟩; replace HR := Hid.mk H5; replace HS := Hid.mk (HS.out.kpR K5); replace HB := Hid.mk (HB.out.trans K5.bel); replace HX := Hid.mk (K5.keep _ _ HX.out (notXR _ _ _ (by decide))); (try replace HSA := Hid.mk (HSA.out.kp K5 (fun cur => notXR _ _ _ (by decide)))); have r1 := bx1 HX.out; have r2 := bx2 HX.out; clear H5 K5))
    all_goals go_wp2
    all_goals go_ret
    all_goals exact ⟨by simp, _, _, _, HS.out, HR.out, HB.out⟩

set_option maxRecDepth 100000 in
set_option maxHeartbeats 4000000 in
theorem do_take {lo : Nat} {w : World} {s sb x ob n : Nat} {m : Nat → Nat} {V : Nat → Value} {L : Nat → List Int} (h : Ls lo w s sb n m L) (g : Rs lo w x ob n V L) (hlo : lo ≤ w.heap.size) (k0 k1 k2 : Int) (hk : k0 = 3) :
    Calls Try.prog 11 #[pv s, pv x, .agg #[.int .i64 k0, .int .i64 k1, .int .i64 k2]] w fun e w' => e = .returned (.bool true) ∧ Fin lo w w' s sb x ob n := by
  have B0 : Below w.heap.size w (w.alloc (.cells #[.int .i64 k0, .int .i64 k1, .int .i64 k2] 33)).drew := ((Below.refl _ w).alloc (Nat.le_refl _) _).trans ⟨rfl, rfl, rfl, Nat.le_refl _, fun _ _ => rfl⟩
  have HS := Hid.mk (h.later B0)
  have HR := Hid.mk (g.later B0)
  have HB := Hid.mk (B0.mono hlo)
  have HX : Hid ((w.alloc (.cells #[.int .i64 k0, .int .i64 k1, .int .i64 k2] 33)).drew.heap[w.heap.size]? = some (.cells #[.int .i64 k0, .int .i64 k1, .int .i64 k2] 33 (0, 0))) := ⟨heap_alloc_new _ _⟩
  have hlen := (allS_gd h.gd k1).len
  have HLEN : Hid ((allS n L k1).length ≤ 600000) := ⟨by omega⟩
  clear h g B0 hlen
  subst hk
  go_enter Try.func11, Try.ntmps11
  go_wp2
  go_region_held3 (fun W' => W'.cell? ⟨w.heap.size, 1, none⟩ = some (.int .i64 k1)) (go_keep) (first
    | (go_at_call 19; refine (take_any HS.out (Nat.le_trans hlo HB.out.size) k1).mono ?_; rintro e w4 ⟨v4, m4, rfl, SA, H4, K4⟩; replace HS := Hid.mk H4; have HSA := Hid.mk SA; replace HR := Hid.mk (HR.out.kpP K4); replace HB := Hid.mk (HB.out.trans K4.bel); replace HX := Hid.mk (K4.keep _ _ HX.out (notXP _ _ _ (by decide))); (try replace HSB := Hid.mk (HSB.out.kp K4 (fun cur => notXP _ _ _ (by decide)))); have r1 := bx1 HX.out; have r2 := bx2 HX.out; clear H4 K4 SA)
    | (go_at_call 23; refine (rtake_any HR.out k1).mono ?_; rintro e w5 ⟨v5, V5, rfl, SB, H5, K5⟩; replace HR := Hid.mk H5; have HSB := Hid.mk SB; replace HS := Hid.mk (HS.out.kpR K5); replace HB := Hid.mk (HB.out.trans K5.bel); replace HX := Hid.mk (K5.keep _ _ HX.out (notXR _ _ _ (by decide))); (try replace HSA := Hid.mk (HSA.out.kp K5 (fun cur => notXR _ _ _ (by decide)))); have r1 := bx1 HX.out; have r2 := bx2 HX.out; clear H5 K5 SB)
    | (go_at_call 14; refine (same_true HSA.out HSB.out HLEN.out).mono ?_; rintro e w6 ⟨rfl, B6⟩; replace HB := Hid.mk (HB.out.trans (B6.mono (Nat.le_trans hlo HB.out.size))); replace HX := Hid.mk ((B6.block _ (Array.getElem?_eq_some_iff.1 HX.out).1).trans HX.out); replace HS := Hid.mk (HS.out.later B6); replace HR := Hid.mk (HR.out.later B6); (try replace HSA := Hid.mk (HSA.out.later B6)); (try replace HSB := Hid.mk (HSB.out.later B6)); have r1 := bx1 HX.out; have r2 := bx2 HX.out; clear B6))
  all_goals go_wp2
  all_goals go_ret
  all_goals exact ⟨rfl, _, _, _, HS.out, HR.out, HB.out⟩

set_option maxRecDepth 100000 in
set_option maxHeartbeats 4000000 in
theorem do_has {lo : Nat} {w : World} {s sb x ob n : Nat} {m : Nat → Nat} {V : Nat → Value} {L : Nat → List Int} (h : Ls lo w s sb n m L) (g : Rs lo w x ob n V L) (hlo : lo ≤ w.heap.size) (k0 k1 k2 : Int) (hk : k0 ≠ 0 ∧ k0 ≠ 1 ∧ k0 ≠ 2 ∧ k0 ≠ 3) (hI : isI k2) :
    Calls Try.prog 11 #[pv s, pv x, .agg #[.int .i64 k0, .int .i64 k1, .int .i64 k2]] w fun e w' => e = .returned (.bool true) ∧ Fin lo w w' s sb x ob n := by
  have B0 : Below w.heap.size w (w.alloc (.cells #[.int .i64 k0, .int .i64 k1, .int .i64 k2] 33)).drew := ((Below.refl _ w).alloc (Nat.le_refl _) _).trans ⟨rfl, rfl, rfl, Nat.le_refl _, fun _ _ => rfl⟩
  have HS := Hid.mk (h.later B0)
  have HR := Hid.mk (g.later B0)
  have HB := Hid.mk (B0.mono hlo)
  have HX : Hid ((w.alloc (.cells #[.int .i64 k0, .int .i64 k1, .int .i64 k2] 33)).drew.heap[w.heap.size]? = some (.cells #[.int .i64 k0, .int .i64 k1, .int .i64 k2] 33 (0, 0))) := ⟨heap_alloc_new _ _⟩
  have hlen := (allS_gd h.gd k1).len
  have HLEN : Hid ((allS n L k1).length ≤ 600000) := ⟨by omega⟩
  have HI := Hid.mk hI
  clear h g B0 hlen hI
  have q0 : (k0 == 0) = false := by simp; omega
  have q1 : (k0 == 1) = false := by simp; omega
  have q2 : (k0 == 2) = false := by simp; omega
  have q3 : (k0 == 3) = false := by simp; omega
  clear hk
  obtain ⟨b, hb⟩ : ∃ b, hasS n L k1 k2 = b := ⟨_, rfl⟩
  have HBL := Hid.mk hb
  clear hb
  cases b
  all_goals
    go_enter Try.func11, Try.ntmps11
    go_wp2
    go_region_held3 (fun W' => W'.cell? ⟨w.heap.size, 1, none⟩ = some (.int .i64 k1) ∧ W'.cell? ⟨w.heap.size, 2, none⟩ = some (.int .i64 k2)) (go_keep) (first
      | (go_at_call 20; refine (has_any HS.out k1 k2 HI.out).mono ?_; rw [HBL.out]; rintro e w4 ⟨rfl, B4⟩; replace HB := Hid.mk (HB.out.trans (B4.mono (Nat.le_trans hlo HB.out.size))); replace HX := Hid.mk ((B4.block _ (Array.getElem?_eq_some_iff.1 HX.out).1).trans HX.out); replace HS := Hid.mk (HS.out.later B4); replace HR := Hid.mk (HR.out.later B4); (try replace HSA := Hid.mk (HSA.out.later B4)); (try replace HSB := Hid.mk (HSB.out.later B4)); have r1 := bx1 HX.out; have r2 := bx2 HX.out; clear B4)
      | (go_at_call 24; refine (rhas_any HR.out k1 k2).mono ?_; rw [HBL.out]; rintro e w4 ⟨rfl, hw⟩; subst hw; have r1 := bx1 HX.out; have r2 := bx2 HX.out)
      | (go_at_call 15; refine (all_any HS.out k1).mono ?_; rintro e w4 ⟨v4, rfl, RA, _, B4⟩; replace HB := Hid.mk (HB.out.trans (B4.mono (Nat.le_trans hlo HB.out.size))); replace HX := Hid.mk ((B4.block _ (Array.getElem?_eq_some_iff.1 HX.out).1).trans HX.out); replace HS := Hid.mk (HS.out.later B4); replace HR := Hid.mk (HR.out.later B4); (try replace HSA := Hid.mk (HSA.out.later B4)); (try replace HSB := Hid.mk (HSB.out.later B4)); have r1 := bx1 HX.out; have r2 := bx2 HX.out; have HSA := Hid.mk (sl_of RA); clear B4 RA)
      | (go_at_call 16; refine (rall_any HR.out k1).mono ?_; rintro e w4 ⟨v5, rfl, SB, hw⟩; subst hw; have HSB := Hid.mk SB; clear SB; have r1 := bx1 HX.out; have r2 := bx2 HX.out)
      | (go_at_call 14; refine (same_true HSA.out HSB.out HLEN.out).mono ?_; rintro e w6 ⟨rfl, B6⟩; replace HB := Hid.mk (HB.out.trans (B6.mono (Nat.le_trans hlo HB.out.size))); replace HX := Hid.mk ((B6.block _ (Array.getElem?_eq_some_iff.1 HX.out).1).trans HX.out); replace HS := Hid.mk (HS.out.later B6); replace HR := Hid.mk (HR.out.later B6); (try replace HSA := Hid.mk (HSA.out.later B6)); (try replace HSB := Hid.mk (HSB.out.later B6)); have r1 := bx1 HX.out; have r2 := bx2 HX.out; clear B6))
    all_goals go_wp2
    all_goals go_ret
    all_goals exact ⟨by simp, _, _, _, HS.out, HR.out, HB.out⟩

theorem do_any {lo : Nat} {w : World} {s sb x ob n : Nat} {m : Nat → Nat} {V : Nat → Value} {L : Nat → List Int} (h : Ls lo w s sb n m L) (g : Rs lo w x ob n V L) (hlo : lo ≤ w.heap.size) (k0 k1 k2 : Int) (hI : isI k2) :
    Calls Try.prog 11 #[pv s, pv x, .agg #[.int .i64 k0, .int .i64 k1, .int .i64 k2]] w fun e w' => e = .returned (.bool true) ∧ Fin lo w w' s sb x ob n := by
  by_cases h0 : k0 = 0 ∨ k0 = 1
  · exact do_put h g hlo k0 k1 k2 h0
  · by_cases h2 : k0 = 2
    · exact do_drop h g hlo k0 k1 k2 h2
    · by_cases h3 : k0 = 3
      · exact do_take h g hlo k0 k1 k2 h3
      · exact do_has h g hlo k0 k1 k2 ⟨fun e => h0 (.inl e), fun e => h0 (.inr e), h2, h3⟩ hI
end Go.Proofs.Ytfenbjkkljggiaa
