/- Package heap: is there a closure in a list that has a pointer to what was set aside. -/
import Derived.Test.YtbdoekffadmejaaGreatDoorHmw
namespace Go.Proofs.YtbdoekffadmejaaGreatDoor
open Go.RowKit
set_option linter.unusedVariables false
set_option linter.unusedSimpArgs false
set_option maxRecDepth 100000

section
variable {w w' : World} {γ γ' : Nat → Tg} {h : Nat} {k : Value} {A : Ad} {H : Hs} {B : Wa} {K : Wk}
/-- Has a closure a pointer to what was set aside. -/
abbrev asd (H : Hs) (K : Wk) (x : Int) : Bool := anyP (fun p => (K.av p).isSome) H x
set_option maxHeartbeats 1000000 in
theorem index_aside (q : Wm w γ h A H B K) {v : Value} {l : List Int} (r : w.ownsRow 0 3 1 v l.length (ints l)) (hl : ∀ x ∈ l, 0 ≤ x ∧ x ≤ 900000) (hn : l.length ≤ 9000000) :
    Calls Tryz.prog 133 #[v, .func (.func 80) #[pt h] #[]] w fun e w' => ∃ z : Int, e = .returned (.int .i64 z) ∧ decide (z ≥ 0) = l.any (asd H K) ∧ Below w.heap.size w w' := by
  obtain ⟨ga, cap, rfl, it⟩ := row_item r
  have CA := fun (W : World) (b : Below w.heap.size w W) (x : Int) (hx : 0 ≤ x ∧ x ≤ 900000) => aside80 (q.later b) x hx
  have HI : Hid (∀ (W : World), Below w.heap.size w W → ∀ j, (hj : j < l.length) → ∃ b, ga = some ⟨b, 0, none⟩ ∧ W.cell? ⟨b, j, none⟩ = some (.int .i64 l[j])) := ⟨fun W b j hj => by
    obtain ⟨c, e1, e2, e3⟩ := it j hj
    exact ⟨c, e1, (b.cell (p := ⟨c, j, none⟩) e2).trans (e3.trans (by unfold ints; rw [List.getElem?_map, List.getElem?_eq_getElem hj]; rfl))⟩⟩
  have HL := Hid.mk hl
  clear q r it hl
  obtain ⟨n, hm⟩ : ∃ n, l.length = n := ⟨_, rfl⟩
  have HM := Hid.mk hm
  rw [hm] at hn ⊢
  clear hm
  go_enter Tryz.func133, Tryz.ntmps133
  go_wp2
  go_loopw [8] (fun i wr => ∃ k : Nat, i = .int .i64 k ∧ k ≤ n ∧ Hid (∀ j, (hj : j < l.length) → j < k → asd H K l[j] = false) ∧ Hid (Below w.heap.size w wr)) (fun i _ => n - (intOf i).toNat)
  case atStart => exact ⟨0, rfl, Nat.zero_le _, ⟨fun j _ hj => absurd hj (Nat.not_lt_zero _)⟩, ⟨Below.refl _ _⟩⟩
  case round =>
    obtain ⟨k, rfl, hk, HF, HB⟩ := hrel
    by_cases hlt : k < n
    · have hlt' : (k : Int) < n := by omega
      have hkl : k < l.length := by rw [HM.out]; exact hlt
      obtain ⟨b, rfl, ck⟩ := HI.out _ HB.out k hkl
      have AK := CA _ HB.out _ (HL.out _ (List.getElem_mem hkl))
      have HE : Hid (∀ j, (hj : j < l.length) → j = k → asd H K l[j] = asd H K l[k]) := ⟨fun j hj e => by subst e; rfl⟩
      have HA : Hid (asd H K l[k] = true → l.any (asd H K) = true) := ⟨fun e => List.any_eq_true.2 ⟨l[k], List.getElem_mem hkl, e⟩⟩
      unfold asd at *
      generalize l[k] = y at ck AK HE HA
      cases hz : anyP (fun p => (K.av p).isSome) H y with
      | true =>
        rw [hz] at AK
        go_wp2_with (go_at_call 80; refine AK.mono ?_; rintro e w2 ⟨rfl, B2⟩; have HB2 := Hid.mk (HB.out.trans (B2.mono HB.out.size)); clear B2)
        go_ret
        exact ⟨k, rfl, by rw [HA.out hz]; simp, HB2.out⟩
      | false =>
        rw [hz] at AK
        go_wp2_with (go_at_call 80; refine AK.mono ?_; rintro e w2 ⟨rfl, B2⟩; have HB2 := Hid.mk (HB.out.trans (B2.mono HB.out.size)); clear B2)
        go_roundw
        case rel => exact ⟨k + 1, by go_num, by omega, ⟨fun j hj1 hj => (Nat.lt_succ_iff_lt_or_eq.1 hj).elim (HF.out j hj1) (fun e => (HE.out j hj1 e).trans hz)⟩, HB2⟩
        case measure => simp [intOf]; omega
    · obtain rfl : k = n := by omega
      have e : Hid (l.any (asd H K) = false) := ⟨List.any_eq_false.2 (fun y hy => by
        obtain ⟨j, hj, rfl⟩ := List.getElem_of_mem hy
        rw [HF.out j hj (by have := HM.out; omega)]; simp)⟩
      go_wp2
      go_ret
      exact ⟨-1, rfl, by rw [e.out]; decide, HB.out⟩
theorem contains_aside (q : Wm w γ h A H B K) {v : Value} {l : List Int} (r : w.ownsRow 0 3 1 v l.length (ints l)) (hl : ∀ x ∈ l, 0 ≤ x ∧ x ≤ 900000) (hn : l.length ≤ 9000000) :
    Calls Tryz.prog 79 #[v, .func (.func 80) #[pt h] #[]] w fun e w' => e = .returned (.bool (l.any (asd H K))) ∧ Below w.heap.size w w' := by
  have I := index_aside q r hl hn
  generalize l.any (asd H K) = t at *
  clear q r hl
  go_enter Tryz.func79, Tryz.ntmps79
  go_wp2_with (go_at_call 133; refine I.mono ?_; rintro e w1 ⟨z, rfl, hz, B1⟩)
  go_ret
  exact ⟨by first | rw [hz] | (rw [← hz]; rfl), B1⟩
end
end Go.Proofs.YtbdoekffadmejaaGreatDoor
