/- The document's own Has and Used. -/
import Derived.Test.YtcallmfdigfhnaaBpt
namespace Go.Proofs.Ytcallmfdigfhnaa
open Go.RowKit
set_option linter.unusedVariables false
set_option linter.unusedSimpArgs false

theorem Rh.form {w0 W : World} {x y M : Nat} {r0 r : Nat → Value} {L : Nat → List Int} {bl nx en : Nat} (h : Rh w0 W x y M r0 r L bl nx en) (i : Nat) (hi : i < 3) : ∃ ga cap, r i = .slice ga (L i).length cap ∧ (L i).length ≤ cap ∧ ∀ j (hj : j < (L i).length), ∃ g, ga = some ⟨g, 0, none⟩ ∧ W.cell? ⟨g, j, none⟩ = some (.int .i64 ((L i)[j]'hj)) := by
  have R := h.row i hi
  rcases R.2 with ⟨e, h0⟩ | ⟨g, cap, cur, e, hb, hg, X⟩
  · exact ⟨none, 0, by rw [e, h0], by omega, fun j hj => by omega⟩
  · refine ⟨_, cap, e, X.1, fun j hj => ⟨g, rfl, ?_⟩⟩
    rw [e] at R
    have := R.cellAt j (by omega)
    rw [this]
    simp [ints, hj]
theorem hasL_fs (l : List (Nat × Nat)) (n : Int) : (decide (0 ≤ n) && hasL l n.toNat) = (fsI l).any (fun z => decide (z = n)) := by
  unfold hasL fsI
  rw [List.any_map]
  by_cases h : 0 ≤ n
  · rw [decide_eq_true h, Bool.true_and]
    congr 1
    funext z
    simp only [Function.comp]
    congr 1
    apply propext
    omega
  · rw [decide_eq_false h, Bool.false_and]
    symm
    rw [List.any_eq_false]
    intro z _
    simp
    omega
set_option maxHeartbeats 1000000 in
theorem rhas_any {w : World} {x y M : Nat} {r : Nat → Value} {S : S0} (h : Rs w x y M r S) (hl : S.l.length ≤ 1000) (n : Int) :
    Calls Try.prog 30 #[.pointer (some ⟨x, 0, none⟩), .int .i64 n] w fun e w' => e = .returned (.bool (decide (0 ≤ n) && hasL S.l n.toNat)) ∧ w' = w := by
  rw [hasL_fs]
  unfold Rs at h
  obtain ⟨ga, cap, e, hc, el⟩ := h.form 1 (by omega)
  have c4 := h.cells.2.2.2.2.1
  rw [e] at c4
  have e1 : lsI S.l 1 = fsI S.l := rfl
  rw [e1] at c4 hc el
  have ll : (fsI S.l).length ≤ 1000 := by simp [fsI]; omega
  generalize fsI S.l = l at *
  have HEL := Hid.mk el
  clear e el h e1
  go_enter Try.func30, Try.ntmps30
  go_wp2
  go_loop [5] (fun i => ∃ k : Nat, k ≤ l.length ∧ i = .int .i64 (k : Int) ∧ Hid ((l.take k).any (fun z => decide (z = n)) = false)) (fun i => l.length - (intOf i).toNat)
  case atStart => exact ⟨0, Nat.zero_le _, rfl, ⟨by simp⟩⟩
  case round =>
    obtain ⟨k, hk, rfl, HA⟩ := hrel
    by_cases hlt : k < l.length
    · obtain ⟨g, rfl, ck⟩ := HEL.out k hlt
      have hlt' : (k : Int) < l.length := by omega
      have ts : (l.take (k + 1)).any (fun z => decide (z = n)) = decide (l[k] = n) := by rw [List.take_succ_eq_append_getElem hlt, List.any_append, HA.out]; simp
      have HT := Hid.mk ts
      have hm : l[k] ∈ l := List.getElem_mem hlt
      have HM := Hid.mk hm
      clear ts hm
      obtain ⟨z, hz⟩ : ∃ z, l[k] = z := ⟨_, rfl⟩
      rw [hz] at ck HT HM
      clear hz
      by_cases hzn : z = n
      · subst hzn
        have q : (l.any fun t => decide (t = z)) = true := List.any_eq_true.2 ⟨z, HM.out, by simp⟩
        have HQ := Hid.mk q
        clear q
        go_wp2
        go_ret
        exact ⟨by rw [HQ.out]; rfl, rfl⟩
      · have HT2 : Hid ((l.take (k + 1)).any (fun t => decide (t = n)) = false) := ⟨by rw [HT.out]; simp [hzn]⟩
        have zb : (z == n) = false := by simpa using hzn
        go_wp2
        go_round
        case rel => exact ⟨k + 1, by omega, by go_num, HT2⟩
        case measure => simp [intOf]; omega
    · have q : (l.any fun t => decide (t = n)) = false := by
        have := HA.out
        rwa [List.take_of_length_le (by omega)] at this
      have HQ := Hid.mk q
      clear q
      obtain rfl : k = l.length := by omega
      go_wp2
      go_ret
      exact ⟨by rw [HQ.out]; rfl, rfl⟩
end Go.Proofs.Ytcallmfdigfhnaa
