/- How many words were laid, in sum; what the document's Free gives back, one by one; two spaces of both sides in memory. -/
import Derived.Test.YtcallmfdigfhnaaBpv
namespace Go.Proofs.Ytcallmfdigfhnaa
open Go.RowKit
set_option linter.unusedVariables false
set_option linter.unusedSimpArgs false

/-- how many words in sum -/
def tot (l : List (Nat × Nat)) : Nat := (l.map (fun x => x.2)).foldl (· + ·) 0
theorem foldl_add (l : List Nat) (a : Nat) : l.foldl (· + ·) a = a + l.foldl (· + ·) 0 := by
  induction l generalizing a with
  | nil => simp
  | cons x l ih => simp only [List.foldl_cons]; rw [ih (a + x), ih (0 + x)]; omega
theorem tot_snoc (l : List (Nat × Nat)) (x : Nat × Nat) : tot (l ++ [x]) = tot l + x.2 := by simp [tot]
def Us (S : S0) : Prop := S.us = tot S.l ∧ ∀ y ∈ S.l, y.2 ≤ 4096
theorem us_none : Us S0.none := ⟨rfl, fun y h => by simp [S0.none] at h⟩
theorem us_lay {f : Nat → Int} {N M : Nat} {S : S0} (h : Us S) (n : Int) : Us (layS f N M S n) := by
  unfold layS
  by_cases hn : 1 ≤ n ∧ n ≤ 4096
  · simp only [if_pos hn]
    cases room f N M S.nx n.toNat with
    | none => exact h
    | some x =>
      refine ⟨?_, fun y hy => ?_⟩
      · simp only [S0.add]; rw [tot_snoc, h.1]
      · simp only [S0.add, List.mem_append, List.mem_singleton] at hy
        rcases hy with q | q
        · exact h.2 y q
        · subst q; simp only; omega
  · simp only [if_neg hn]; exact h
theorem tot_le : ∀ (l : List (Nat × Nat)), (∀ y ∈ l, y.2 ≤ 4096) → tot l ≤ l.length * 4096 := by
  intro l
  induction l with
  | nil => intro _; simp [tot]
  | cons x l ih =>
    intro h
    have a := ih (fun y hy => h y (List.mem_cons_of_mem _ hy))
    have b := h x List.mem_cons_self
    have e : tot (x :: l) = x.2 + tot l := by
      unfold tot
      simp only [List.map_cons, List.foldl_cons]
      rw [foldl_add]
      omega
    rw [e]
    simp only [List.length_cons]
    omega
theorem tot_take (l : List (Nat × Nat)) (i : Nat) (h : i < l.length) : tot (l.take (i + 1)) = tot (l.take i) + (l[i]).2 := by
  rw [List.take_succ_eq_append_getElem h, tot_snoc]
/-- the groups given back one by one -/
def freeG (N : Nat) (f : Nat → Int) (gs : List Int) : Nat → Int := gs.foldl (fun f g => freeF f N g) f
theorem freeG_take (N : Nat) (f : Nat → Int) (gs : List Int) (i : Nat) (h : i < gs.length) : freeG N f (gs.take (i + 1)) = freeF (freeG N f (gs.take i)) N gs[i] := by
  unfold freeG
  rw [List.take_succ_eq_append_getElem h, List.foldl_append]
  rfl
theorem freeG_good {N : Nat} : ∀ (gs : List Int) (f : Nat → Int), Good f N → Good (freeG N f gs) N
  | [], _, h => h
  | x :: l, f, h => freeG_good l _ (freeF_good h)
theorem freeG_is (N : Nat) : ∀ (l : List (Nat × Nat)) (f : Nat → Int), freeG N f (grp l) = frees N f l
  | [], f => rfl
  | x :: l, f => by
    have e1 : frees N f (x :: l) = frees N (if x.1 % 64 = 0 then freeF f N ((x.1 / 64 : Nat) : Int) else f) l := rfl
    rw [e1]
    by_cases h : x.1 % 64 = 0
    · rw [if_pos h, ← freeG_is N l]
      unfold grp freeG
      simp [h]
    · rw [if_neg h, ← freeG_is N l]
      unfold grp freeG
      simp [h]

/-! ### Two spaces of both sides -/
def pO (s m : Bool → Nat) (v : Bool → Value) (p a pb ab : Nat) (k : Nat) : Prop := (∃ i, ft (s i) (m i) (v i) k) ∨ k = p ∨ k = pb ∨ k = a ∨ k = ab
def rO1 (x : Nat) (r : Nat → Value) (k : Nat) : Prop := k = x ∨ ow r k
def rO (x : Bool → Nat) (r : Bool → Nat → Value) (y yb : Nat) (k : Nat) : Prop := (∃ i, rO1 (x i) (r i) k) ∨ k = y ∨ k = yb
structure Al (lo B q : Nat) (W : World) (s m : Bool → Nat) (v : Bool → Value) (S T : Bool → S0) (p a pb ab N M : Nat) (f g : Nat → Int) (xs : List Int) (x : Bool → Nat) (r : Bool → Nat → Value) (y yb c : Nat) : Prop where
  tw : Tw B W s m v S p a pb ab N M f xs
  rs : ∀ i, Rs W (x i) y M (r i) (T i)
  ref : Ref W y yb g N c
  far : ∀ k, pO s m v p a pb ab k → ¬ rO x r y yb k
  rap : ∀ k, rO1 (x false) (r false) k → ¬ rO1 (x true) (r true) k
  rxy : ∀ i k, rO1 (x i) (r i) k → k ≠ y ∧ k ≠ yb
  los : ∀ k, pO s m v p a pb ab k ∨ rO x r y yb k → lo ≤ k
  box : W.heap[q]? = some (.cells #[pt p, pt a, pt (s false), pt (s true), pt (x false), pt (x true)] 39 (0, 0))
  qn : ¬ pO s m v p a pb ab q ∧ ¬ rO x r y yb q
  lq : lo ≤ W.heap.size
section
variable {lo B q : Nat} {W W' : World} {s m : Bool → Nat} {v : Bool → Value} {S T : Bool → S0} {p a pb ab N M : Nat} {f g : Nat → Int} {xs : List Int} {x : Bool → Nat} {r : Bool → Nat → Value} {y yb c : Nat}
theorem Al.ltP (h : Al lo B q W s m v S T p a pb ab N M f g xs x r y yb c) : ∀ k, pO s m v p a pb ab k → k < W.heap.size := by
  rintro k (⟨i, e⟩ | rfl | rfl | rfl | rfl)
  · exact (h.tw.sy i).sp.lt k e
  · exact (h.tw.sy true).pool.lt.1
  · exact (h.tw.sy true).pool.lt.2
  · exact (h.tw.sy true).arena.lt.1
  · exact (h.tw.sy true).arena.lt.2
theorem Al.ltR (h : Al lo B q W s m v S T p a pb ab N M f g xs x r y yb c) : ∀ k, rO x r y yb k → k < W.heap.size := by
  rintro k (⟨i, rfl | e⟩ | rfl | rfl)
  · exact (h.rs i).ltx
  · exact (h.rs i).own k e
  · exact h.ref.lt.1
  · exact h.ref.lt.2
theorem Al.ltq (h : Al lo B q W s m v S T p a pb ab N M f g xs x r y yb c) : q < W.heap.size := (Array.getElem?_eq_some_iff.1 h.box).1
theorem Rs.kept {X : Nat → Prop} {x0 : Nat} {r0 : Nat → Value} {S0' : S0} (h : Rs W x0 y M r0 S0') (c' : Chg X W W') (hx : ∀ k, rO1 x0 r0 k → ¬ X k) : Rs W' x0 y M r0 S0' := Rh.kept h c' hx
theorem Al.later (h : Al lo B q W s m v S T p a pb ab N M f g xs x r y yb c) (b : Below W.heap.size W W') : Al lo B q W' s m v S T p a pb ab N M f g xs x r y yb c :=
  ⟨h.tw.later b, fun i => (h.rs i).kept (Chg.later (X := fun _ => False) b) (fun _ _ z => z), h.ref.later b, h.far, h.rap, h.rxy, h.los, (b.block q h.ltq).trans h.box, h.qn, Nat.le_trans h.lq b.size⟩
theorem Al.below {X : Nat → Prop} (h : Al lo B q W s m v S T p a pb ab N M f g xs x r y yb c) (ch : Chg X W W') (hX : ∀ k, X k → pO s m v p a pb ab k ∨ rO x r y yb k) : Below lo W W' :=
  Chg.below (Below.refl lo W) ch h.lq (fun k e => h.los k (hX k e))
/-- the program's side has turned -/
theorem Al.prog {X : Nat → Prop} {m' : Bool → Nat} {v' : Bool → Value} {S' : Bool → S0} {f' : Nat → Int} {xs' : List Int} (h : Al lo B q W s m v S T p a pb ab N M f g xs x r y yb c) (t : Tw B W' s m' v' S' p a pb ab N M f' xs') (ch : Chg X W W') (hX : ∀ k, X k → pO s m v p a pb ab k)
    (hn : ∀ k, pO s m' v' p a pb ab k → pO s m v p a pb ab k ∨ W.heap.size ≤ k) : Al lo B q W' s m' v' S' T p a pb ab N M f' g xs' x r y yb c := by
  have far := h.far
  refine ⟨t, fun i => (h.rs i).kept ch (fun k e z => far k (hX k z) (.inl ⟨i, e⟩)), h.ref.chg ch (fun z => far y (hX y z) (.inr (.inl rfl))) (fun z => far yb (hX yb z) (.inr (.inr rfl))), fun k e z => ?_, h.rap, h.rxy, fun k e => ?_, (ch.block q h.ltq (fun z => h.qn.1 (hX q z))).trans h.box, ⟨fun z => ?_, h.qn.2⟩, Nat.le_trans h.lq ch.size⟩
  · rcases hn k e with q' | q'
    · exact far k q' z
    · have := h.ltR k z; omega
  · rcases e with e | e
    · rcases hn k e with q' | q'
      · exact h.los k (.inl q')
      · have := h.lq; omega
    · exact h.los k (.inr e)
  · rcases hn q z with q' | q'
    · exact h.qn.1 q'
    · have := h.ltq; omega
/-- the document's side has turned -/
theorem Al.doc (h : Al lo B q W s m v S T p a pb ab N M f g xs x r y yb c) (i : Bool) {r' : Nat → Value} {T' : S0} {g' : Nat → Int} (R : Rs W' (x i) y M r' T') (rf : Ref W' y yb g' N c) (hn : ∀ k, ow r' k → ow (r i) k ∨ W.heap.size ≤ k) (ch : Chg (fun k => rO1 (x i) (r i) k ∨ k = yb) W W') :
    Al lo B q W' s m v S (updB T i T') p a pb ab N M f g' xs x (updB r i r') y yb c := by
  have hX : ∀ k, (rO1 (x i) (r i) k ∨ k = yb) → rO x r y yb k := fun k e => by
    rcases e with e | e
    · exact .inl ⟨i, e⟩
    · exact .inr (.inr e)
  have far := h.far
  have ltR := h.ltR
  have one : ∀ k, rO1 (x i) r' k → rO1 (x i) (r i) k ∨ W.heap.size ≤ k := fun k e => by
    rcases e with e | e
    · exact .inl (.inl e)
    · rcases hn k e with z | z
      · exact .inl (.inr z)
      · exact .inr z
  have apart : ∀ k, rO1 (x i) (r i) k → ¬ rO1 (x (!i)) (r (!i)) k := by
    cases i
    · exact h.rap
    · exact fun k e z => h.rap k z e
  have hn2 : ∀ k, rO x (updB r i r') y yb k → rO x r y yb k ∨ W.heap.size ≤ k := by
    rintro k (⟨j, e⟩ | e)
    · by_cases hj : j = i
      · subst hj
        rw [updB_same] at e
        rcases one k e with z | z
        · exact .inl (.inl ⟨j, z⟩)
        · exact .inr z
      · have : j = !i := by cases i <;> cases j <;> simp_all
        subst this
        rw [updB_not] at e
        exact .inl (.inl ⟨_, e⟩)
    · exact .inl (.inr e)
  have tw : Tw B W' s m v S p a pb ab N M f xs := by
    refine ⟨fun j => ?_, h.tw.ap⟩
    have Y := h.tw.sy j
    exact Y.other ch (fun k e z => far k (by
      rcases e with (e | e | e) | e | e
      · exact .inl ⟨j, e⟩
      · exact .inr (.inr (.inl e))
      · exact .inr (.inr (.inr (.inr e)))
      · exact .inr (.inl e)
      · exact .inr (.inr (.inr (.inl e)))) (hX k z))
  refine ⟨tw, ?_, rf, fun k e z => ?_, ?_, ?_, fun k e => ?_, (ch.block q h.ltq (fun z => h.qn.2 (hX q z))).trans h.box, ⟨h.qn.1, fun z => ?_⟩, Nat.le_trans h.lq ch.size⟩
  · refine bool_cases _ i ?_ ?_
    · rw [updB_same, updB_same]; exact R
    · rw [updB_not, updB_not]
      refine (h.rs (!i)).kept ch (fun k e z => ?_)
      rcases z with z | z
      · exact apart k z e
      · exact (h.rxy (!i) k e).2 z
  · rcases hn2 k z with z | z
    · exact far k e z
    · have := h.ltP k e; omega
  · have main : ∀ k, rO1 (x i) r' k → ¬ rO1 (x (!i)) (r (!i)) k := fun k e z => by
      rcases one k e with e | e
      · exact apart k e z
      · have := ltR k (.inl ⟨_, z⟩); omega
    cases i
    · intro k; simpa [updB] using main k
    · intro k z1 z2; exact main k (by simpa [updB] using z2) (by simpa [updB] using z1)
  · refine bool_cases _ i ?_ ?_
    · intro k e
      rw [updB_same] at e
      rcases one k e with e | e
      · exact h.rxy i k e
      · have l1 := ltR y (.inr (.inl rfl))
        have l2 := ltR yb (.inr (.inr rfl))
        omega
    · intro k e
      rw [updB_not] at e
      exact h.rxy (!i) k e
  · rcases e with e | e
    · exact h.los k (.inl e)
    · rcases hn2 k e with z | z
      · exact h.los k (.inr z)
      · have := h.lq; omega
  · rcases hn2 q z with z | z
    · exact h.qn.2 z
    · have := h.ltq; omega
end
end Go.Proofs.Ytcallmfdigfhnaa
