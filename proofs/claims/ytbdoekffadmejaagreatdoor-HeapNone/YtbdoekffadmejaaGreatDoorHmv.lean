/- Package heap: has a closure such a pointer; is there such a one in a list. -/
import Derived.Test.YtbdoekffadmejaaGreatDoorHmu
namespace Go.Proofs.YtbdoekffadmejaaGreatDoor
open Go.RowKit
set_option linter.unusedVariables false
set_option linter.unusedSimpArgs false
set_option maxRecDepth 100000

/-- Has a closure a pointer of which q says so. -/
def anyP (q : Int → Bool) (H : Hs) (x : Int) : Bool := (List.range (Wo.unP (Bp.Ar.readW H.xs x)).toNat).any fun j => q (ptrW H.xs (x + 1 + j))
theorem ptr_isI {xs : List Int} (h : ∀ x ∈ xs, 0 ≤ x ∧ x ≤ 18446744073709551615) (i : Int) : isI (ptrW xs i) := by
  have := read_in h i
  unfold ptrW wrap64 isI Bp.isI
  omega
section
variable {w w' : World} {γ γ' : Nat → Tg} {h : Nat} {k : Value} {A : Ad} {H : Hs} {B : Wa} {K : Wk}
set_option maxHeartbeats 1000000 in
theorem has_aside (q : Wm w γ h A H B K) (x : Int) (hx : 0 ≤ x ∧ x ≤ 900000) :
    Calls Tryz.prog 134 #[pt h, .int .i64 x, .func (.func 67) #[pt h] #[]] w fun e w' => e = .returned (.bool (anyP (fun p => (K.av p).isSome) H x)) ∧ Below w.heap.size w w' := by
  have CA := fun (W : World) (b : Below w.heap.size w W) (p : Int) (hp : isI p) => aside_any (q.later b) p hp
  have q0 := q.hm
  clear q
  have HD := head_any q0 x
  unfold hdV at HD
  have fl := fld2
  have PR := fun (W : World) (b : Below w.heap.size w W) (j : Int) (hj : 0 ≤ j ∧ j ≤ 1000000) => pointer_any (q0.later b) x j (by omega) hj
  have HP : Hid (∀ j : Nat, isI (ptrW H.xs (x + 1 + j))) := ⟨fun j => ptr_isI q0.word _⟩
  have HN := Hid.mk (unP_in (Bp.Ar.readW H.xs x))
  unfold anyP
  obtain ⟨n, hn⟩ : ∃ n : Nat, (Wo.unP (Bp.Ar.readW H.xs x)).toNat = n := ⟨_, rfl⟩
  have hn1 : Wo.unP (Bp.Ar.readW H.xs x) = n := by have := HN.out; omega
  have hn2 : n ≤ 4095 := by have := HN.out; omega
  rw [hn]
  rw [hn1] at HD
  clear hn hn1 HN
  generalize Wo.unK (Bp.Ar.readW H.xs x) = u1 at *
  generalize Wo.unI (Bp.Ar.readW H.xs x) = u2 at *
  generalize Wo.unN (Bp.Ar.readW H.xs x) = u3 at *
  have HX := Hid.mk q0
  clear q0
  go_enter Tryz.func134, Tryz.ntmps134
  go_wp2_with (go_at_call 50; refine HD.mono ?_; rintro e w1 ⟨rfl, B1⟩; have HB1 := Hid.mk B1; clear B1)
  go_loopw [12] (fun i wr => ∃ k : Nat, i = .int .i64 k ∧ k ≤ n ∧ Hid (∀ j, j < k → (fun p => (K.av p).isSome) (ptrW H.xs (x + 1 + j)) = false) ∧ Hid (Below w.heap.size w wr)) (fun i _ => n - (intOf i).toNat)
  case atStart => exact ⟨0, rfl, Nat.zero_le _, ⟨fun j hj => absurd hj (Nat.not_lt_zero _)⟩, HB1⟩
  case round =>
    obtain ⟨k, rfl, hk, HF, HB⟩ := hrel
    by_cases hlt : k < n
    · have hlt' : (k : Int) < n := by omega
      have P1 := PR _ HB.out k (by omega)
      have AK := fun (W : World) (b : Below w.heap.size w W) => CA W b _ (HP.out k)
      have HV := Hid.mk HF.out
      generalize hp : ptrW H.xs (x + 1 + k) = p at P1 AK
      cases hz : (fun p => (K.av p).isSome) p with
      | true =>
        have e : Hid (((List.range n).any fun j => (fun p => (K.av p).isSome) (ptrW H.xs (x + 1 + j))) = true) := ⟨List.any_eq_true.2 ⟨k, by simpa using hlt, by rw [hp]; exact hz⟩⟩
        have AK := fun (W : World) (b : Below w.heap.size w W) => (AK W b)
        simp only [hz] at AK
        go_wp2_with (first
          | (go_at_call 52; refine P1.mono ?_; rintro e w2 ⟨rfl, hw⟩; rw [hw]; clear hw)
          | (go_at_call 67; refine (AK _ HB.out).mono ?_; rintro e w2 ⟨rfl, B2⟩; have HB2 := Hid.mk (HB.out.trans (B2.mono HB.out.size)); clear B2))
        go_ret
        exact ⟨by rw [e.out]; rfl, HB2.out⟩
      | false =>
        simp only [hz] at AK
        go_wp2_with (first
          | (go_at_call 52; refine P1.mono ?_; rintro e w2 ⟨rfl, hw⟩; rw [hw]; clear hw)
          | (go_at_call 67; refine (AK _ HB.out).mono ?_; rintro e w2 ⟨rfl, B2⟩; have HB2 := Hid.mk (HB.out.trans (B2.mono HB.out.size)); clear B2))
        go_roundw
        case rel => exact ⟨k + 1, by go_num, by omega, ⟨fun j hj => (Nat.lt_succ_iff_lt_or_eq.1 hj).elim (HF.out j) (fun e => by rw [e, hp]; exact hz)⟩, HB2⟩
        case measure => simp [intOf]; omega
    · obtain rfl : k = n := by omega
      have e : Hid (((List.range k).any fun j => (fun p => (K.av p).isSome) (ptrW H.xs (x + 1 + j))) = false) := ⟨List.any_eq_false.2 (fun j hj => by rw [HF.out j (by simpa using hj)]; simp)⟩
      go_wp2
      go_ret
      exact ⟨by rw [e.out]; rfl, HB.out⟩
theorem younger_any (q : Hm w γ h k A H) (x : Int) (hx : isI x) {b1 b2 : Nat} (c1 : w.cell? ⟨b1, 0, none⟩ = some (pt h)) (c2 : w.cell? ⟨b2, 0, none⟩ = some (.int .i64 x)) (p : Int) (hp : isI p) :
    Calls Tryz.prog 138 #[.int .i64 p, pt b1, pt b2] w fun e w' => e = .returned (.bool (youngB H p x)) ∧ Below w.heap.size w w' := by
  have Y := young_any q p x hp hx
  clear q
  go_enter Tryz.func138, Tryz.ntmps138
  go_wp2_with (go_at_call 126; refine Y.mono ?_; rintro e w1 ⟨rfl, B1⟩)
  go_ret
  exact ⟨rfl, B1⟩
set_option maxHeartbeats 1000000 in
theorem has_younger (q0 : Hm w γ h k A H) {b1 b2 : Nat} (x : Int) (hx : 0 ≤ x ∧ x ≤ 900000) (c1 : w.cell? ⟨b1, 0, none⟩ = some (pt h)) (c2 : w.cell? ⟨b2, 0, none⟩ = some (.int .i64 x)) :
    Calls Tryz.prog 134 #[pt h, .int .i64 x, .func (.func 138) #[] #[pt b1, pt b2]] w fun e w' => e = .returned (.bool (anyP (fun p => youngB H p x) H x)) ∧ Below w.heap.size w w' := by
  have CA := fun (W : World) (b : Below w.heap.size w W) (p : Int) (hp : isI p) => younger_any (q0.later b) x ⟨by omega, by omega⟩ ((b.cell (World.block_lt_of_cell? _ _ c1)).trans c1) ((b.cell (World.block_lt_of_cell? _ _ c2)).trans c2) p hp
  have HD := head_any q0 x
  unfold hdV at HD
  have fl := fld2
  have PR := fun (W : World) (b : Below w.heap.size w W) (j : Int) (hj : 0 ≤ j ∧ j ≤ 1000000) => pointer_any (q0.later b) x j (by omega) hj
  have HP : Hid (∀ j : Nat, isI (ptrW H.xs (x + 1 + j))) := ⟨fun j => ptr_isI q0.word _⟩
  have HN := Hid.mk (unP_in (Bp.Ar.readW H.xs x))
  unfold anyP
  obtain ⟨n, hn⟩ : ∃ n : Nat, (Wo.unP (Bp.Ar.readW H.xs x)).toNat = n := ⟨_, rfl⟩
  have hn1 : Wo.unP (Bp.Ar.readW H.xs x) = n := by have := HN.out; omega
  have hn2 : n ≤ 4095 := by have := HN.out; omega
  rw [hn]
  rw [hn1] at HD
  clear hn hn1 HN
  generalize Wo.unK (Bp.Ar.readW H.xs x) = u1 at *
  generalize Wo.unI (Bp.Ar.readW H.xs x) = u2 at *
  generalize Wo.unN (Bp.Ar.readW H.xs x) = u3 at *
  have HX := Hid.mk q0
  clear q0
  go_enter Tryz.func134, Tryz.ntmps134
  go_wp2_with (go_at_call 50; refine HD.mono ?_; rintro e w1 ⟨rfl, B1⟩; have HB1 := Hid.mk B1; clear B1)
  go_loopw [12] (fun i wr => ∃ k : Nat, i = .int .i64 k ∧ k ≤ n ∧ Hid (∀ j, j < k → (fun p => youngB H p x) (ptrW H.xs (x + 1 + j)) = false) ∧ Hid (Below w.heap.size w wr)) (fun i _ => n - (intOf i).toNat)
  case atStart => exact ⟨0, rfl, Nat.zero_le _, ⟨fun j hj => absurd hj (Nat.not_lt_zero _)⟩, HB1⟩
  case round =>
    obtain ⟨k, rfl, hk, HF, HB⟩ := hrel
    by_cases hlt : k < n
    · have hlt' : (k : Int) < n := by omega
      have P1 := PR _ HB.out k (by omega)
      have AK := fun (W : World) (b : Below w.heap.size w W) => CA W b _ (HP.out k)
      have HV := Hid.mk HF.out
      generalize hp : ptrW H.xs (x + 1 + k) = p at P1 AK
      cases hz : (fun p => youngB H p x) p with
      | true =>
        have e : Hid (((List.range n).any fun j => (fun p => youngB H p x) (ptrW H.xs (x + 1 + j))) = true) := ⟨List.any_eq_true.2 ⟨k, by simpa using hlt, by rw [hp]; exact hz⟩⟩
        have AK := fun (W : World) (b : Below w.heap.size w W) => (AK W b)
        simp only [hz] at AK
        go_wp2_with (first
          | (go_at_call 52; refine P1.mono ?_; rintro e w2 ⟨rfl, hw⟩; rw [hw]; clear hw)
          | (go_at_call 138; refine (AK _ HB.out).mono ?_; rintro e w2 ⟨rfl, B2⟩; have HB2 := Hid.mk (HB.out.trans (B2.mono HB.out.size)); clear B2))
        go_ret
        exact ⟨by rw [e.out]; rfl, HB2.out⟩
      | false =>
        simp only [hz] at AK
        go_wp2_with (first
          | (go_at_call 52; refine P1.mono ?_; rintro e w2 ⟨rfl, hw⟩; rw [hw]; clear hw)
          | (go_at_call 138; refine (AK _ HB.out).mono ?_; rintro e w2 ⟨rfl, B2⟩; have HB2 := Hid.mk (HB.out.trans (B2.mono HB.out.size)); clear B2))
        go_roundw
        case rel => exact ⟨k + 1, by go_num, by omega, ⟨fun j hj => (Nat.lt_succ_iff_lt_or_eq.1 hj).elim (HF.out j) (fun e => by rw [e, hp]; exact hz)⟩, HB2⟩
        case measure => simp [intOf]; omega
    · obtain rfl : k = n := by omega
      have e : Hid (((List.range k).any fun j => (fun p => youngB H p x) (ptrW H.xs (x + 1 + j))) = false) := ⟨List.any_eq_false.2 (fun j hj => by rw [HF.out j (by simpa using hj)]; simp)⟩
      go_wp2
      go_ret
      exact ⟨by rw [e.out]; rfl, HB.out⟩
end
end Go.Proofs.YtbdoekffadmejaaGreatDoor
