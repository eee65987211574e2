/- Package stable: what Map defers, slots copied, an address turned by a function. -/
import Derived.Test.YtejjobemafdlbaaSbg
import Derived.Defers
import Derived.Recover
namespace Go.Proofs.Ytejjobemafdlbaa
open Go.RowKit
set_option linter.unusedVariables false
set_option linter.unusedSimpArgs false

/-- slots in a row -/
def Rw (w : World) (g n : Nat) (A T : Nat → Int) : Prop :=
  ∃ cur, w.heap[g]? = some (.cells cur 53 (0, 0)) ∧ ∀ i, i < n → cur[i * 2]? = some (.int .i64 (A i)) ∧ cur[i * 2 + 1]? = some (.int .i64 (T i))
section
variable {w w' : World} {g n : Nat} {A T : Nat → Int}
theorem Rw.c0 (h : Rw w g n A T) (i : Nat) (hi : i < n) : w.cell? ⟨g, i * 2, none⟩ = some (.int .i64 (A i)) := by
  obtain ⟨cur, h1, h2⟩ := h
  rw [Joins.cell_of_block h1]; exact (h2 i hi).1
theorem Rw.c1 (h : Rw w g n A T) (i : Nat) (hi : i < n) : w.cell? ⟨g, i * 2 + 1, none⟩ = some (.int .i64 (T i)) := by
  obtain ⟨cur, h1, h2⟩ := h
  rw [Joins.cell_of_block h1]; exact (h2 i hi).2
theorem Rw.z (h : Rw w g n A T) (i : Nat) : w.frozen? ⟨g, i, none⟩ = false := by
  obtain ⟨cur, h1, h2⟩ := h
  exact Joins.unfrozen_of_block h1 i
theorem Rw.lt (h : Rw w g n A T) : g < w.heap.size := by
  obtain ⟨cur, h1, h2⟩ := h
  exact (Array.getElem?_eq_some_iff.1 h1).1
theorem Rw.block (h : Rw w g n A T) (e : w'.heap[g]? = w.heap[g]?) : Rw w' g n A T := by
  obtain ⟨cur, h1, h2⟩ := h
  exact ⟨cur, e.trans h1, h2⟩
theorem Rw.later (h : Rw w g n A T) (B : Below w.heap.size w w') : Rw w' g n A T := h.block (B.block g h.lt)
theorem Rw.congr {B : Nat → Int} (h : Rw w g n A T) (e : ∀ i, i < n → B i = A i) : Rw w g n B T := by
  obtain ⟨cur, h1, h2⟩ := h
  exact ⟨cur, h1, fun i hi => by rw [e i hi]; exact h2 i hi⟩
theorem Rw.setA (h : Rw w g n A T) {i : Nat} (hi : i < n) (x : Int) : Rw (w.setCell ⟨g, i * 2, none⟩ (.int .i64 x)) g n (upd A i x) T := by
  obtain ⟨cur, r1, r2⟩ := h
  refine ⟨_, Joins.block_setCell r1 _, fun j hj => ?_⟩
  obtain ⟨e1, e2⟩ := r2 j hj
  obtain ⟨d1, d2⟩ := r2 i hi
  have sz := (Array.getElem?_eq_some_iff.1 d1).1
  simp only [Array.getElem?_setIfInBounds]
  by_cases e : j = i
  · subst e
    rw [upd_at]
    refine ⟨by simp [sz], ?_⟩
    rw [if_neg (by omega)]; exact e2
  · rw [upd_far _ _ _ e, if_neg (by omega), if_neg (by omega)]
    exact ⟨e1, e2⟩
end

set_option maxHeartbeats 1000000 in
theorem after_idle (w : World) : CallsD Try.prog 33 #[] .returning w fun e u' w' => e = .returned (.tuple #[]) ∧ u' = .returning ∧ w' = w := by
  refine callsD_of_wpS Try.func33 rfl fun c₀ cs hu => ?_
  apply wpS_region
  simp [wpOpsS, go_sem, recoverD, hu, Try.ntmps33, Exit.thenS]
  exact ⟨rfl, _, rfl, _, results_none rfl _ _ _, rfl, by first | rfl | exact hu, rfl⟩

def slotsV (n : Nat) (A T : Nat → Int) : List Value := (List.range (n * 2)).map fun j => if j % 2 = 0 then Value.int .i64 (A (j / 2)) else .int .i64 (T (j / 2))
theorem slotsV_len (n : Nat) (A T : Nat → Int) : (slotsV n A T).length = n * 2 := by simp [slotsV]
theorem slotsV_get (n : Nat) (A T : Nat → Int) {i : Nat} (hi : i < n) : (slotsV n A T)[i * 2]? = some (.int .i64 (A i)) ∧ (slotsV n A T)[i * 2 + 1]? = some (.int .i64 (T i)) := by
  constructor
  · simp [slotsV, hi]
  · have h : i * 2 + 1 < n * 2 := by omega
    have e : (i * 2 + 1) / 2 = i := by omega
    simp [slotsV, h, e]
theorem slotsV_one (n : Nat) (A T : Nat → Int) : ∀ u ∈ slotsV n A T, u.oneCell' = true := by
  intro u hu
  obtain ⟨j, _, rfl⟩ := List.mem_map.1 hu
  split <;> rfl
theorem Rw.news {w : World} {g n : Nat} {A T : Nat → Int} (h : Rw w g n A T) : ∀ j u, (slotsV n A T)[j]? = some u → w.cell? ((⟨g, 0, none⟩ : Addr).add j) = some u := by
  intro j u hu
  have hj : j < n * 2 := by have := (List.getElem?_eq_some_iff.1 hu).1; rwa [slotsV_len] at this
  rw [add0]
  have g1 := slotsV_get n A T (i := j / 2) (by omega)
  rcases (show j % 2 = 0 ∨ j % 2 = 1 by omega) with e | e
  · rw [show j / 2 * 2 = j by omega] at g1
    rw [g1.1] at hu
    have := h.c0 (j / 2) (by omega)
    rw [show j / 2 * 2 = j by omega] at this
    rw [this, hu]
  · rw [show j / 2 * 2 + 1 = j by omega] at g1
    rw [g1.2] at hu
    have := h.c1 (j / 2) (by omega)
    rw [show j / 2 * 2 + 1 = j by omega] at this
    rw [this, hu]
theorem rw_of {w : World} {b n : Nat} {v : Value} {A T : Nat → Int} (h : w.ownsRow b 53 2 v n (slotsV n A T)) (hn : 0 < n) : ∃ g cap, v = .slice (some ⟨g, 0, none⟩) n cap ∧ n ≤ cap ∧ b ≤ g ∧ Rw w g n A T := by
  rcases h.2 with ⟨_, h2⟩ | ⟨g, cap, cur, hv, hb, hg, h1, h2, h3, h4⟩
  · omega
  · refine ⟨g, cap, hv, h1, hb, cur, hg, fun i hi => ?_⟩
    have gt := slotsV_get n A T hi
    rw [← h4] at gt
    rw [List.getElem?_take_of_lt (by omega), List.getElem?_take_of_lt (by omega)] at gt
    simpa using gt
set_option maxHeartbeats 1000000 in
theorem clone_any {w : World} {sb n : Nat} {A T : Nat → Int} (h : Rw w sb n A T) (hn : 1 ≤ n ∧ n ≤ 256) :
    Calls Try.prog 34 #[.slice (some ⟨sb, 0, none⟩) n n] w fun e w' => ∃ g cap, e = .returned (.slice (some ⟨g, 0, none⟩) n cap) ∧ n ≤ cap ∧ w.heap.size ≤ g ∧ Rw w' g n A T ∧ Below w.heap.size w w' := by
  obtain ⟨i0, hi, hz0, hz1, hz2⟩ := info_parts info53
  have HH := Hid.mk h
  clear h
  have he : ∀ w : World, (binOp .eql 50 (.slice (some ⟨sb, 0, none⟩) n n) (.slice none 0 0)).run Try.prog w = .ok (.bool false) w := fun _ => rfl
  go_enter Try.func34, Try.ntmps34
  go_wp2_with (at_builtin; refine wpList_append_T rfl _ _ 50 rfl w.heap.size 53 i0 _ 2 16 Try.underlying50 hi hz0 hz1 hz2 rfl (by decide) (.slice (some ⟨w.heap.size, 0, none⟩) 0 0) 0 [] rfl (Or.inl ⟨rfl, rfl, _, rfl⟩) (some ⟨sb, 0, none⟩) n n (slotsV n A T) rfl (slotsV_len _ _ _) (fun _ => ⟨_, rfl, (HH.out.later ((Below.refl _ _).alloc (Nat.le_refl _) _)).news⟩) (slotsV_one _ _ _) n (by omega) (slotsV n A T) rfl (by unfold maxLen; omega) (by omega) (by simp) ?_; intro ga cap w1 hown hgr; have HO := Hid.mk hown; have HG := Hid.mk hgr; clear hown hgr)
  go_ret
  rcases HO.out with ⟨h0, _⟩ | ⟨h0, hO⟩
  · omega
  · obtain ⟨g, c, hv, q1, q2, q3⟩ := rw_of hO h0
    obtain ⟨row, g1, g2⟩ := HG.out
    refine ⟨g, c, by rw [hv]; rfl, q1, q2, q3, ((Below.refl _ w).alloc (Nat.le_refl _) _).grown g1 (by simp) (fun k e => absurd (g2 k e).1 (by omega))⟩
/-- an address turned, by whatever function that tells F -/
theorem clos18_any (w : World) (y : Nat) (a n : Int) (hy : w.cell? ⟨y, 0, none⟩ = some (.int .i64 n)) (ha : 0 ≤ a ∧ a ≤ 524288) (hn : -9223372036854775808 ≤ n ∧ n ≤ 9223372036854775807) :
    Calls Try.prog 18 #[.int .i64 a, pv y] w fun e w' => e = .returned (.int .i64 (byI a n)) ∧ w' = w := by
  have BY := by_any w a n ha hn
  go_enter Try.func18, Try.ntmps18
  go_wp2_with (go_at_call 19; refine BY.mono ?_; rintro e w1 ⟨rfl, hw⟩; rw [hw]; clear hw)
  go_ret
  exact ⟨rfl, rfl⟩
theorem clos24_any (w : World) (y : Nat) (a n : Int) (hy : w.cell? ⟨y, 0, none⟩ = some (.int .i64 n)) (ha : 0 ≤ a ∧ a ≤ 524288) (hn : -9223372036854775808 ≤ n ∧ n ≤ 9223372036854775807) :
    Calls Try.prog 24 #[.int .i64 a, pv y] w fun e w' => e = .returned (.int .i64 (byI a n)) ∧ w' = w := by
  have BY := by_any w a n ha hn
  go_enter Try.func24, Try.ntmps24
  go_wp2_with (go_at_call 19; refine BY.mono ?_; rintro e w1 ⟨rfl, hw⟩; rw [hw]; clear hw)
  go_ret
  exact ⟨rfl, rfl⟩
theorem turned18_any (w : World) (y : Nat) (a n : Int) (hy : w.cell? ⟨y, 0, none⟩ = some (.int .i64 n)) (ha : 0 ≤ a ∧ a ≤ 524288) (hn : -9223372036854775808 ≤ n ∧ n ≤ 9223372036854775807) :
    Calls Try.prog 35 #[.int .i64 a, .func (.func 18) #[] #[pv y]] w fun e w' => e = .returned (.int .i64 (trn (fun x => byI x n) a)) ∧ w' = w := by
  have CL := clos18_any w y a n hy ha hn
  obtain ⟨t, ht⟩ : ∃ t, byI a n = t := ⟨_, rfl⟩
  have e : trn (fun x => byI x n) a = if isA t then t else a := by simp [trn, ht]
  rw [ht] at CL
  rw [e]
  have IA := isaddr_any w t
  clear e ht
  cases hA : isA t with
  | true =>
    rw [hA] at IA
    rw [if_pos rfl]
    go_enter Try.func35, Try.ntmps35
    go_wp2_with (first
      | (go_at_call 18; refine CL.mono ?_; rintro e w1 ⟨rfl, hw⟩; rw [hw]; clear hw)
      | (go_at_call 27; refine IA.mono ?_; rintro e w1 ⟨rfl, hw⟩; rw [hw]; clear hw))
    go_ret
    exact ⟨rfl, rfl⟩
  | false =>
    rw [hA] at IA
    rw [if_neg (by decide)]
    go_enter Try.func35, Try.ntmps35
    go_wp2_with (first
      | (go_at_call 18; refine CL.mono ?_; rintro e w1 ⟨rfl, hw⟩; rw [hw]; clear hw)
      | (go_at_call 27; refine IA.mono ?_; rintro e w1 ⟨rfl, hw⟩; rw [hw]; clear hw))
    go_ret
    exact ⟨rfl, rfl⟩
theorem turned24_any (w : World) (y : Nat) (a n : Int) (hy : w.cell? ⟨y, 0, none⟩ = some (.int .i64 n)) (ha : 0 ≤ a ∧ a ≤ 524288) (hn : -9223372036854775808 ≤ n ∧ n ≤ 9223372036854775807) :
    Calls Try.prog 35 #[.int .i64 a, .func (.func 24) #[] #[pv y]] w fun e w' => e = .returned (.int .i64 (trn (fun x => byI x n) a)) ∧ w' = w := by
  have CL := clos24_any w y a n hy ha hn
  obtain ⟨t, ht⟩ : ∃ t, byI a n = t := ⟨_, rfl⟩
  have e : trn (fun x => byI x n) a = if isA t then t else a := by simp [trn, ht]
  rw [ht] at CL
  rw [e]
  have IA := isaddr_any w t
  clear e ht
  cases hA : isA t with
  | true =>
    rw [hA] at IA
    rw [if_pos rfl]
    go_enter Try.func35, Try.ntmps35
    go_wp2_with (first
      | (go_at_call 24; refine CL.mono ?_; rintro e w1 ⟨rfl, hw⟩; rw [hw]; clear hw)
      | (go_at_call 27; refine IA.mono ?_; rintro e w1 ⟨rfl, hw⟩; rw [hw]; clear hw))
    go_ret
    exact ⟨rfl, rfl⟩
  | false =>
    rw [hA] at IA
    rw [if_neg (by decide)]
    go_enter Try.func35, Try.ntmps35
    go_wp2_with (first
      | (go_at_call 24; refine CL.mono ?_; rintro e w1 ⟨rfl, hw⟩; rw [hw]; clear hw)
      | (go_at_call 27; refine IA.mono ?_; rintro e w1 ⟨rfl, hw⟩; rw [hw]; clear hw))
    go_ret
    exact ⟨rfl, rfl⟩
end Go.Proofs.Ytejjobemafdlbaa
