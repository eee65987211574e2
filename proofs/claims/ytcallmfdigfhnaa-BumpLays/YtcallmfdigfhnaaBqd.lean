/- A call of a space of both sides: answered alike, and both have the same behind it. -/
import Derived.Test.YtcallmfdigfhnaaBqc
namespace Go.Proofs.Ytcallmfdigfhnaa
open Go.RowKit
set_option linter.unusedVariables false
set_option linter.unusedSimpArgs false

/-- A space that was freed, beside the other one. -/
theorem Tw.oneF {B : Nat} {W W' : World} {s m : Bool → Nat} {v : Bool → Value} {S : Bool → S0} {p a pb ab N M : Nat} {f : Nat → Int} {xs : List Int} (h : Tw B W s m v S p a pb ab N M f xs) (i : Bool) {m' : Nat} {f' : Nat → Int} {xs' : List Int} (Y : Sy B W' (s i) p a m' pb ab N M nilS S0.none f' xs') (hm : W.heap.size ≤ m') (c : Chg (fun k => k = s i ∨ k = pb) W W') :
    Tw B W' s (updB m i m') (updB v i nilS) (updB S i S0.none) p a pb ab N M f' xs' := by
  have ot := h.sy (!i)
  have O : Sy B W' (s (!i)) p a (m (!i)) pb ab N M (v (!i)) (S (!i)) f' xs' := by
    refine ⟨ot.sp.chg c ?_, ot.fit, Y.pool, Y.good, Y.arena, Y.len, ot.ap, Y.hB, ot.vb⟩
    rintro k q (q2 | rfl)
    · exact h.apart i k (.inl q2) q
    · exact (ot.ap.ft _ q).2.1 rfl
  refine ⟨?_, ?_⟩
  · refine bool_cases _ i ?_ ?_
    · rw [updB_same, updB_same, updB_same]; exact Y
    · rw [updB_not, updB_not, updB_not]; exact O
  · have main : ∀ k, ft (s i) m' nilS k → ¬ ft (s (!i)) (m (!i)) (v (!i)) k := by
      rintro k (q | q | q) q2
      · exact h.apart i k (.inl q) q2
      · have := ot.sp.lt k q2; omega
      · simp [Value.ownBlock] at q
    cases i
    · intro k; simpa [updB] using main k
    · intro k q1 q2; exact main k (by simpa [updB] using q2) (by simpa [updB] using q1)
theorem updB_self {α : Type} (h : Bool → α) (i : Bool) : updB h i (h i) = h := by funext k; unfold updB; split <;> simp_all
/-- what a call of both leaves -/
def Fin (lo B q : Nat) (w w' : World) (s : Bool → Nat) (S : Bool → S0) (p a pb ab N M : Nat) (x : Bool → Nat) (y yb c : Nat) : Prop :=
  ∃ (m : Bool → Nat) (v : Bool → Value) (S' : Bool → S0) (f : Nat → Int) (xs : List Int) (r : Bool → Nat → Value), Al lo B q w' s m v S' S' p a pb ab N M f f xs x r y yb c ∧ (∀ i, Us (S' i)) ∧ (∀ i, (S' i).l.length ≤ (S i).l.length + 1) ∧ Below lo w w'
section
variable {lo B q : Nat} {w W' : World} {s m : Bool → Nat} {v : Bool → Value} {S : Bool → S0} {p a pb ab N M : Nat} {f : Nat → Int} {xs : List Int} {x : Bool → Nat} {r : Bool → Nat → Value} {y yb c : Nat}
theorem Al.cq {T : Bool → S0} {g : Nat → Int} (h : Al lo B q w s m v S T p a pb ab N M f g xs x r y yb c) (b : Bool) : w.cell? ⟨q, 2 + nt b, none⟩ = some (pt (s b)) ∧ w.cell? ⟨q, 4 + nt b, none⟩ = some (pt (x b)) := by
  rw [Joins.cell_of_block h.box, Joins.cell_of_block h.box]
  cases b <;> exact ⟨rfl, rfl⟩
theorem pO_lx (i : Bool) {k : Nat} (h : lx (s i) (m i) (v i) pb ab k) : pO s m v p a pb ab k := by
  rcases h with h | h | h
  · exact .inl ⟨i, h⟩
  · exact .inr (.inr (.inl h))
  · exact .inr (.inr (.inr (.inr h)))
theorem pO_upd (i : Bool) {v' : Value} {n k : Nat} (old : ∀ k, v'.ownBlock = some k → (v i).ownBlock = some k ∨ n ≤ k) (h : pO s m (updB v i v') p a pb ab k) : pO s m v p a pb ab k ∨ n ≤ k := by
  rcases h with ⟨j, h⟩ | h
  · by_cases e : j = i
    · subst e
      rw [updB_same] at h
      rcases h with h | h | h
      · exact .inl (.inl ⟨j, .inl h⟩)
      · exact .inl (.inl ⟨j, .inr (.inl h)⟩)
      · rcases old k h with z | z
        · exact .inl (.inl ⟨j, .inr (.inr z)⟩)
        · exact .inr z
    · have e2 : updB v i v' j = v j := by simp [updB, e]
      rw [e2] at h
      exact .inl (.inl ⟨j, h⟩)
  · exact .inl (.inr h)
theorem pO_updF (i : Bool) {m' n k : Nat} (hm : n ≤ m') (h : pO s (updB m i m') (updB v i nilS) p a pb ab k) : pO s m v p a pb ab k ∨ n ≤ k := by
  rcases h with ⟨j, h⟩ | h
  · by_cases e : j = i
    · subst e
      rw [updB_same, updB_same] at h
      rcases h with h | h | h
      · exact .inl (.inl ⟨j, .inl h⟩)
      · exact .inr (by omega)
      · simp [Value.ownBlock] at h
    · have e2 : updB v i nilS j = v j := by simp [updB, e]
      have e3 : updB m i m' j = m j := by simp [updB, e]
      rw [e2, e3] at h
      exact .inl (.inl ⟨j, h⟩)
  · exact .inl (.inr h)
/-- the program's Lay -/
theorem Al.layP {T : Bool → S0} {g : Nat → Int} (h : Al lo B q w s m v S T p a pb ab N M f g xs x r y yb c) (i : Bool) (hl : (S i).l.length ≤ 1000) (n : Int) :
    Calls Try.prog 13 #[.pointer (some ⟨s i, 0, none⟩), .int .i64 n] w fun e w' => e = .returned (.tuple #[.int .i64 (layA f N M (S i).nx n), .int .i64 (layE f N M (S i).nx n)]) ∧
      ∃ v' xs', Al lo B q w' s m v' (updB S i (layS f N M (S i) n)) T p a pb ab N M (layF f N M (S i).nx n) g xs' x r y yb c ∧ Below lo w w' ∧ Chg (pO s m v p a pb ab) w w' := by
  refine ((h.tw.sy i).lay hl n).mono ?_
  rintro e w' ⟨rfl, v', Y, old, ch⟩
  have hX : ∀ k, lx (s i) (m i) (v i) pb ab k → pO s m v p a pb ab k := fun k z => pO_lx i z
  exact ⟨rfl, updB v i v', _, h.prog (h.tw.one i Y old ch) ch hX (fun k z => pO_upd i old z), h.below ch (fun k z => .inl (hX k z)), ch.mono (fun k _ z => hX k z)⟩
/-- the document's Lay -/
theorem Al.layD {T : Bool → S0} {g : Nat → Int} (h : Al lo B q w s m v S T p a pb ab N M f g xs x r y yb c) (i : Bool) (F : Fit (T i) M) (hl : (T i).l.length ≤ 1000) (G : Good g N) (hM : M ≤ 524288) (n : Int) :
    Calls Try.prog 28 #[.pointer (some ⟨x i, 0, none⟩), .int .i64 n] w fun e w' => e = .returned (.tuple #[.int .i64 (layA g N M (T i).nx n), .int .i64 (layE g N M (T i).nx n)]) ∧
      ∃ r', Al lo B q w' s m v S (updB T i (layS g N M (T i) n)) p a pb ab N M f (layF g N M (T i).nx n) xs x r' y yb c ∧ Below lo w w' := by
  refine (rlay_any (h.rs i) F hl h.ref G (h.rxy i) hM n).mono ?_
  rintro e w' ⟨rfl, r', R, rf, old, ch⟩
  exact ⟨rfl, updB r i r', h.doc i R rf old ch, h.below ch (fun k z => by
    rcases z with z | z
    · exact .inr (.inl ⟨i, z⟩)
    · exact .inr (.inr (.inr z)))⟩
theorem Al.freeP {T : Bool → S0} {g : Nat → Int} (h : Al lo B q w s m v S T p a pb ab N M f g xs x r y yb c) (i : Bool) (hl : (S i).l.length ≤ 1000) :
    Calls Try.prog 17 #[.pointer (some ⟨s i, 0, none⟩)] w fun e w' => e = .returned (.int .i64 0) ∧
      ∃ m' v', Al lo B q w' s m' v' (updB S i S0.none) T p a pb ab N M (frees N f (S i).l) g xs x r y yb c ∧ Below lo w w' := by
  refine (free_space (h.tw.sy i) hl).mono ?_
  rintro e w' ⟨rfl, m', hm, Y, ch⟩
  have hX : ∀ k, (k = s i ∨ k = pb) → pO s m v p a pb ab k := fun k z => by
    rcases z with z | z
    · exact .inl ⟨i, .inl z⟩
    · exact .inr (.inr (.inl z))
  exact ⟨rfl, updB m i m', updB v i nilS, h.prog (h.tw.oneF i Y hm ch) ch hX (fun k z => pO_updF i hm z), h.below ch (fun k z => .inl (hX k z))⟩
theorem Al.freeD {T : Bool → S0} {g : Nat → Int} (h : Al lo B q w s m v S T p a pb ab N M f g xs x r y yb c) (i : Bool) (hl : (T i).l.length ≤ 1000) (G : Good g N) :
    Calls Try.prog 29 #[.pointer (some ⟨x i, 0, none⟩)] w fun e w' => (∃ u, e = .returned u) ∧
      ∃ r', Al lo B q w' s m v S (updB T i S0.none) p a pb ab N M f (frees N g (T i).l) xs x r' y yb c ∧ Below lo w w' := by
  refine (rfree_space (h.rs i) hl h.ref G (h.rxy i)).mono ?_
  rintro e w' ⟨hu, r', R, rf, old, ch⟩
  exact ⟨hu, updB r i r', h.doc i R rf old ch, h.below ch (fun k z => by
    rcases z with z | z
    · exact .inr (.inl ⟨i, z⟩)
    · exact .inr (.inr (.inr z)))⟩
end
end Go.Proofs.Ytcallmfdigfhnaa
