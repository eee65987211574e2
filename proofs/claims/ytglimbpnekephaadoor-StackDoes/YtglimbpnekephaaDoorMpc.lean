/- slices.Reverse, over a row of numbers of one's own. -/
import Derived.Test.YtglimbpnekephaaDoorMpa
import Derived.Test.YtglimbpnekephaaDoorStl
import Derived.Deep.RegionLaw
namespace Go.Proofs.YtglimbpnekephaaDoor
open Go.RowKit
set_option linter.unusedVariables false
set_option linter.unusedSimpArgs false

/-- these numbers lie at the head of block g -/
structure Nm (W : World) (g : Nat) (xs : List Int) : Prop where
  b : ∃ cs : Array Value, Bx W g cs 3 ∧ ∀ k, k < xs.length → cs[k]? = some (.int .i64 (xs.getD k 0))
theorem Nm.cell {W : World} {g : Nat} {xs : List Int} (h : Nm W g xs) (k : Nat) (hk : k < xs.length) : W.cell? ⟨g, k, none⟩ = some (.int .i64 (xs.getD k 0)) := by
  obtain ⟨cs, hb, hc⟩ := h.b
  rw [hb.cell k]
  exact hc k hk
theorem Nm.z {W : World} {g : Nat} {xs : List Int} (h : Nm W g xs) (k : Nat) : W.frozen? ⟨g, k, none⟩ = false := by
  obtain ⟨cs, hb, hc⟩ := h.b
  exact hb.z k
theorem Nm.put {W : World} {g : Nat} {xs : List Int} (h : Nm W g xs) (i : Nat) (v : Int) (hi : i < xs.length) : Nm (W.setCell ⟨g, i, none⟩ (.int .i64 v)) g (xs.set i v) := by
  obtain ⟨cs, hb, hc⟩ := h.b
  refine ⟨⟨_, Joins.block_setCell (i := i) hb _, fun k hk => ?_⟩⟩
  rw [Array.getElem?_setIfInBounds, getD_set]
  have e : i < cs.size := (Array.getElem?_eq_some_iff.1 (hc i hi)).1
  by_cases q : i = k
  · subst q
    simp [hi, e]
  · rw [if_neg q, if_neg (by omega)]
    exact hc k (by simpa using hk)
theorem Nm.drew {W : World} {g : Nat} {xs : List Int} (h : Nm W g xs) : Nm W.drew g xs := ⟨h.b⟩
theorem rev_get (xs : List Int) (k : Nat) (hk : k < xs.length) : xs.reverse.getD k 0 = xs.getD (xs.length - 1 - k) 0 := by
  simp only [List.getD_eq_getElem?_getD]
  rw [List.getElem?_reverse hk]
theorem grown_dd {w u : World} {r : Option Nat} (G : w.grownBy u r) : w.grownBy u.drew r := ⟨G.os, G.tape, G.output, G.size, fun k hk hr => G.block k hk hr⟩
set_option maxRecDepth 100000 in
set_option maxHeartbeats 4000000 in
theorem rev_ok {W : World} {g cap n : Nat} {xs : List Int} (A : Nm W g xs) (hn : xs.length = n) (hc : n ≤ cap) (hs : n ≤ 65536) :
    Calls Tryd.prog 58 #[.slice (some ⟨g, 0, none⟩) n cap] W fun e w' => (∃ v, e = .returned v) ∧ Nm w' g xs.reverse ∧ W.grownBy w' (some g) := by
  have HN := Hid.mk hn
  have HA := Hid.mk A
  clear hn A
  go_enter Tryd.func58, Tryd.ntmps58
  go_wp2
  go_loopw [2, 3] (fun va vb wr => ∃ (i : Nat) (j : Int) (ys : List Int), va = .int .i64 i ∧ vb = .int .i64 j ∧ j = (n : Int) - 1 - i ∧ 2 * i ≤ n ∧ ys.length = n ∧ Hid ((∀ k, k < i → ys.getD k 0 = xs.getD (n - 1 - k) 0) ∧ (∀ k, n - i ≤ k → k < n → ys.getD k 0 = xs.getD (n - 1 - k) 0) ∧ (∀ k, i ≤ k → k < n - i → ys.getD k 0 = xs.getD k 0)) ∧ Hid (Nm wr g ys) ∧ Hid (W.grownBy wr (some g))) (fun va _ _ => n - (intOf va).toNat)
  case atStart => exact ⟨0, _, xs, rfl, rfl, by omega, by omega, HN.out, ⟨⟨fun k h => (by omega), fun k h1 h2 => (by omega), fun k _ _ => rfl⟩⟩, HA, ⟨grown_refl _ _⟩⟩
  case round =>
    obtain ⟨i, j, ys, rfl, rfl, hj, h2, hl, HY, HM, HG⟩ := hrel
    by_cases hlt : 2 * i + 1 < n
    · obtain ⟨m, rfl⟩ : ∃ m : Nat, j = m := ⟨n - 1 - i, by omega⟩
      have hm : m = n - 1 - i := by omega
      have c1 := HM.out.cell i (by omega)
      have c2 := HM.out.cell m (by omega)
      have z1 := HM.out.z i
      have z2 := HM.out.z m
      have l1 : (i : Int) < m := by omega
      have l2 : (i : Int) < n := by omega
      have l3 : (m : Int) < n := by omega
      have l4 : i < n := by omega
      have l5 : m < n := by omega
      have ne1 : ¬ i = m := by omega
      have ne2 : ¬ m = i := by omega
      have HX : Hid (ys.getD i 0 = xs.getD i 0 ∧ ys.getD m 0 = xs.getD m 0) := ⟨HY.out.2.2 i (by omega) (by omega), HY.out.2.2 m (by omega) (by omega)⟩
      have E1 : Hid (Nm ((wr.setCell ⟨g, i, none⟩ (.int .i64 (ys.getD m 0))).setCell ⟨g, m, none⟩ (.int .i64 (ys.getD i 0))) g ((ys.set i (ys.getD m 0)).set m (ys.getD i 0))) := ⟨(HM.out.put i _ (by omega)).put m _ (by simp; omega)⟩
      have E2 : Hid (Nm ((wr.setCell ⟨g, m, none⟩ (.int .i64 (ys.getD i 0))).setCell ⟨g, i, none⟩ (.int .i64 (ys.getD m 0))) g ((ys.set i (ys.getD m 0)).set m (ys.getD i 0))) := ⟨by
        have := (HM.out.put m (ys.getD i 0) (by omega)).put i (ys.getD m 0) (by simp; omega)
        rw [List.set_comm _ _ (by omega)] at this
        exact this⟩
      obtain ⟨yi, hyi⟩ : ∃ v, v = ys.getD i 0 := ⟨_, rfl⟩
      obtain ⟨ym, hym⟩ : ∃ v, v = ys.getD m 0 := ⟨_, rfl⟩
      have HYM : Hid (yi = ys.getD i 0 ∧ ym = ys.getD m 0) := ⟨hyi, hym⟩
      rw [← hyi] at c1 E1 E2
      rw [← hym] at c2 E1 E2
      have HJ : Hid ((m : Int) = (n : Int) - 1 - i ∧ m = n - 1 - i) := ⟨hj, hm⟩
      have HP : Hid ((∀ k, k < i + 1 → ((ys.set i ym).set m yi).getD k 0 = xs.getD (n - 1 - k) 0) ∧ (∀ k, n - (i + 1) ≤ k → k < n → ((ys.set i ym).set m yi).getD k 0 = xs.getD (n - 1 - k) 0) ∧ (∀ k, i + 1 ≤ k → k < n - (i + 1) → ((ys.set i ym).set m yi).getD k 0 = xs.getD k 0)) := ⟨by
        obtain ⟨hx1, hx2⟩ := HX.out
        rw [← hyi] at hx1
        rw [← hym] at hx2
        obtain ⟨a1, a2, a3⟩ := HY.out
        refine ⟨fun k hk => ?_, fun k h1 h2 => ?_, fun k h1 h2 => ?_⟩
        · rw [getD_set, if_neg (by omega), getD_set]
          by_cases q : i = k
          · subst q
            rw [if_pos ⟨rfl, by omega⟩, hx2, hm]
          · rw [if_neg (by omega)]
            exact a1 k (by omega)
        · rw [getD_set]
          by_cases q : m = k
          · subst q
            rw [if_pos ⟨rfl, by simp; omega⟩, hx1]
            congr 1
            omega
          · rw [if_neg (by omega), getD_set, if_neg (by omega)]
            exact a2 k (by omega) h2
        · rw [getD_set, if_neg (by omega), getD_set, if_neg (by omega)]
          exact a3 k (by omega) (by omega)⟩
      clear hyi hym hj hm
      go_wp2
      go_region
      all_goals go_wp2
      all_goals go_roundw
      all_goals first
        | exact ⟨i + 1, _, (ys.set i ym).set m yi, by go_num, rfl, by have := HJ.out; omega, by omega, by simp [hl], HP, ⟨E1.out.drew⟩, ⟨grown_dd (grown_trans HG.out (grown_trans (grown_set _ _ _ _) (grown_set _ _ _ _)))⟩⟩
        | exact ⟨i + 1, _, (ys.set i ym).set m yi, by go_num, rfl, by have := HJ.out; omega, by omega, by simp [hl], HP, ⟨E2.out.drew⟩, ⟨grown_dd (grown_trans HG.out (grown_trans (grown_set _ _ _ _) (grown_set _ _ _ _)))⟩⟩
        | (simp [intOf] <;> omega)
    · have hd : j ≤ i := by omega
      have e : ys = xs.reverse := by
        obtain ⟨a1, a2, a3⟩ := HY.out
        have hn := HN.out
        apply List.ext_getElem?
        intro k
        by_cases hk : k < n
        · have r := rev_get xs k (by omega)
          have : ys.getD k 0 = xs.getD (n - 1 - k) 0 := by
            by_cases q1 : k < i
            · exact a1 k q1
            · by_cases q2 : n - i ≤ k
              · exact a2 k q2 hk
              · rw [a3 k (by omega) (by omega)]
                congr 1
                omega
          rw [hn] at r
          rw [← this] at r
          simp only [List.getD_eq_getElem?_getD] at r
          rw [List.getElem?_eq_getElem (by simp; omega : k < xs.reverse.length), List.getElem?_eq_getElem (by omega : k < ys.length)] at r ⊢
          simpa using r.symm
        · rw [List.getElem?_eq_none (by omega), List.getElem?_eq_none (by simp; omega)]
      subst e
      clear hj
      go_wp2
      go_end0
      exact ⟨⟨_, rfl⟩, HM.out, HG.out⟩
theorem rev_nil (W : World) : Calls Tryd.prog 58 #[.slice none 0 0] W fun e w' => (∃ v, e = .returned v) ∧ w' = W := by
  go_enter Tryd.func58, Tryd.ntmps58
  go_wp2
  go_loopw [2, 3] (fun va vb wr => va = .int .i64 0 ∧ vb = .int .i64 (-1) ∧ wr = W) (fun _ _ _ => 0)
  case atStart => exact ⟨rfl, rfl, rfl⟩
  case round =>
    obtain ⟨rfl, rfl, rfl⟩ := hrel
    go_wp2
    go_end0
    exact ⟨⟨_, rfl⟩, rfl⟩
end Go.Proofs.YtglimbpnekephaaDoor
