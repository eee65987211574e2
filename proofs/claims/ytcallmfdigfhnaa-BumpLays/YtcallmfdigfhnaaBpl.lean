/- What Lay answered, told apart; the words of the arena and those that were met. -/
import Derived.Test.YtcallmfdigfhnaaBpk
namespace Go.Proofs.Ytcallmfdigfhnaa
open Go.RowKit
set_option linter.unusedVariables false
set_option linter.unusedSimpArgs false

theorem lay_no {f : Nat → Int} {N M : Nat} {S : S0} {n : Int} {xs : List Int} (h : layE f N M S.nx n ≠ 0) : layS f N M S n = S ∧ layF f N M S.nx n = f ∧ layW f N M S.nx n xs = xs := by
  unfold layE at h
  unfold layS layF layW
  split at h
  · rename_i hn
    simp only [if_pos hn]
    split at h
    · rename_i e; simp [e]
    · simp at h
  · rename_i hn
    simp [if_neg hn]
theorem lay_yes {f : Nat → Int} {N M : Nat} {S : S0} {n : Int} {xs : List Int} (h : layE f N M S.nx n = 0) : ∃ (k i : Nat) (f' : Nat → Int), n = k ∧ 1 ≤ k ∧ k ≤ 4096 ∧ room f N M S.nx k = some (i, f') ∧ layA f N M S.nx n = i ∧ layF f N M S.nx n = f' ∧ layS f N M S n = S.add i k ∧ layW f N M S.nx n xs = splice xs i (List.replicate k 0) := by
  unfold layE at h
  unfold layA layF layS layW
  split at h
  · rename_i hn
    simp only [if_pos hn]
    split at h
    · simp at h
    · rename_i x e
      exact ⟨n.toNat, x.1, x.2, by omega, by omega, by omega, e, by simp [e], by simp [e], by simp [e], by simp [e]⟩
  · simp at h
theorem zero_in {xs : List Int} {i n j : Nat} (h : i + n ≤ xs.length) (h1 : i ≤ j) (h2 : j < i + n) : (splice xs i (List.replicate n 0)).getD j 0 = 0 := by
  unfold splice
  rw [List.getD_eq_getElem?_getD, List.getElem?_append_right (by simp; omega), List.getElem?_append_left (by simp; omega)]
  simp
  rw [List.getElem?_replicate]
  split <;> rfl
theorem Tw.raise {B B' : Nat} {W : World} {s m : Bool → Nat} {S : Bool → S0} {p a pb ab N M : Nat} {f : Nat → Int} {xs : List Int} (h : Tw B W s m (fun _ => nilS) S p a pb ab N M f xs) (hb : B' ≤ W.heap.size) : Tw B' W s m (fun _ => nilS) S p a pb ab N M f xs :=
  ⟨fun i => ⟨(h.sy i).sp, (h.sy i).fit, (h.sy i).pool, (h.sy i).good, (h.sy i).arena, (h.sy i).len, (h.sy i).ap, hb, fun k e => by simp [Value.ownBlock] at e⟩, h.ap⟩
theorem Tw.other {B : Nat} {W W' : World} {s m : Bool → Nat} {v : Bool → Value} {S : Bool → S0} {p a pb ab N M : Nat} {f : Nat → Int} {xs : List Int} (h : Tw B W s m v S p a pb ab N M f xs) {k : Nat} (g : W.grownBy W' (some k)) (hk : k < B) (hk2 : k ≠ p ∧ k ≠ pb ∧ k ≠ a ∧ k ≠ ab) (h3 : ∀ i, k ≠ s i ∧ k ≠ m i) : Tw B W' s m v S p a pb ab N M f xs := by
  refine ⟨fun i => ?_, h.ap⟩
  have y := h.sy i
  have c := Chg.one (X := fun j => j = k) g rfl
  refine ⟨y.sp.chg c ?_, y.fit, y.pool.chg c (fun e => hk2.1 e.symm) (fun e => hk2.2.1 e.symm), y.good, y.arena.chg c (fun e => hk2.2.2.1 e.symm) (fun e => hk2.2.2.2 e.symm), y.len, y.ap, Nat.le_trans y.hB g.size, y.vb⟩
  rintro j (q | q | q) e
  · exact (h3 i).1 (e ▸ q)
  · exact (h3 i).2 (e ▸ q)
  · have := y.vb j q; omega
end Go.Proofs.Ytcallmfdigfhnaa
