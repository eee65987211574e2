/- Handles that were told, and handles that were let go. -/
import Derived.Test.YtejjobemafdlbaaSbl
namespace Go.Proofs.Ytejjobemafdlbaa
open Go.RowKit
set_option linter.unusedVariables false
set_option linter.unusedSimpArgs false

structure Inv (n : Nat) (b : Int) (A T : Nat → Int) (told gone : List Int) : Prop where
  ok : Okt n b A T
  t : ∀ h ∈ told, ∃ (i : Nat) (t : Int), i < n ∧ h = t * 256 + i ∧ 1 ≤ t ∧ t ≤ T i ∧ (t = T i → A i ≠ 0)
  g : ∀ h ∈ gone, ∃ (i : Nat) (t : Int), i < n ∧ h = t * 256 + i ∧ 1 ≤ t ∧ t < T i
  c : (allL A n).length + gone.length = told.length
theorem allL_upd_far {A : Nat → Int} {j : Nat} {x : Int} : ∀ n, n ≤ j → allL (upd A j x) n = allL A n
  | 0, _ => rfl
  | n + 1, h => by
    have ih := allL_upd_far (A := A) (j := j) (x := x) n (by omega)
    simp [allL, ih, upd_far A j x (show n ≠ j by omega)]
theorem allL_put {A : Nat → Int} {j : Nat} {x : Int} (h0 : A j = 0) (hx : x ≠ 0) : ∀ n, j < n → (allL (upd A j x) n).length = (allL A n).length + 1
  | 0, h => absurd h (Nat.not_lt_zero _)
  | n + 1, h => by
    by_cases e : j = n
    · subst e
      simp [allL, allL_upd_far j (Nat.le_refl _), upd_at, h0, hx]
    · have ih := allL_put h0 hx n (by omega)
      simp only [allL, List.length_append, ih, upd_far A j x (show n ≠ j by omega)]
      omega
theorem allL_take {A : Nat → Int} {j : Nat} (h0 : A j ≠ 0) : ∀ n, j < n → (allL (upd A j 0) n).length + 1 = (allL A n).length
  | 0, h => absurd h (Nat.not_lt_zero _)
  | n + 1, h => by
    by_cases e : j = n
    · subst e
      simp [allL, allL_upd_far j (Nat.le_refl _), upd_at, h0]
    · have ih := allL_take h0 n (by omega)
      simp only [allL, List.length_append, upd_far A j 0 (show n ≠ j by omega)]
      omega
theorem allL_none : ∀ n, allL (fun _ => 0) n = []
  | 0 => rfl
  | n + 1 => by simp [allL, allL_none n]
theorem Inv.new (n : Nat) : Inv n 1 (fun _ => 0) (fun _ => 1) [] [] :=
  ⟨fun i hi => (by decide), (fun h hh => absurd hh (by simp)), (fun h hh => absurd hh (by simp)), (by simp [allL_none])⟩
theorem Inv.mono {n : Nat} {b c : Int} {A T : Nat → Int} {L G : List Int} (h : Inv n b A T L G) (hb : b ≤ c) : Inv n c A T L G := ⟨h.ok.mono hb, h.t, h.g, h.c⟩
theorem two_slots {n i j : Nat} {t u : Int} (hi : i < n) (hj : j < n) (hn : n ≤ 256) (e : t * 256 + (i : Int) = u * 256 + j) : i = j ∧ t = u := by omega
/-- a slot is taken -/
theorem Inv.make {n : Nat} {b : Int} {A T : Nat → Int} {L G : List Int} (h : Inv n b A T L G) (hn : n ≤ 256) {i : Nat} (hi : lowF n A = i) (hl : i < n) :
    (∀ x ∈ L, x ≠ hnd T i) ∧ Inv n b (upd A i 7) T (L ++ [hnd T i]) G := by
  have h0 : A i = 0 := by
    have := fst_holds (fun i => A i == 0) n (show fst (fun i => A i == 0) n < n by unfold lowF at hi; omega)
    unfold lowF at hi
    rw [hi] at this
    simpa using this
  have ok := h.ok i hl
  refine ⟨fun x hx e => ?_, ⟨?_, fun x hx => ?_, h.g, ?_⟩⟩
  · obtain ⟨j, t, hj, e1, h1, h2, h3⟩ := h.t x hx
    unfold hnd at e
    obtain ⟨rfl, rfl⟩ := two_slots hl hj hn (e.symm.trans e1)
    exact h3 rfl h0
  · intro j hj
    have q := h.ok j hj
    unfold upd
    split <;> omega
  · rcases List.mem_append.1 hx with r | r
    · obtain ⟨j, t, hj, e1, h1, h2, h3⟩ := h.t x r
      refine ⟨j, t, hj, e1, h1, h2, fun e => ?_⟩
      unfold upd
      split
      · decide
      · exact h3 e
    · simp at r
      exact ⟨i, T i, hl, by rw [r]; rfl, ok.2.2.1, Int.le_refl _, fun _ => by rw [upd_at]; decide⟩
  · rw [allL_put h0 (by decide) n hl, List.length_append]
    have := h.c
    simp
    omega
/-- a slot is let go -/
theorem Inv.free {n : Nat} {b : Int} {A T : Nat → Int} {L G : List Int} (h : Inv n b A T L G) (hn : n ≤ 256) {x : Int} {i : Nat} (hi : fd n A T x = i) (hl : i < n) :
    Inv n (b + 1) (upd A i 0) (upd T i (T i + 1)) L (G ++ [x]) := by
  have hf := fd_lt (n := n) (A := A) (T := T) (h := x) (by omega)
  rw [hi] at hf
  obtain ⟨h0, hx⟩ := hf
  have ok := h.ok i hl
  refine ⟨?_, fun y hy => ?_, fun y hy => ?_, ?_⟩
  · intro j hj
    have q := h.ok j hj
    by_cases e : j = i
    · subst e; rw [upd_at, upd_at]; omega
    · rw [upd_far _ _ _ e, upd_far _ _ _ e]; omega
  · obtain ⟨j, t, hj, e1, h1, h2, h3⟩ := h.t y hy
    refine ⟨j, t, hj, e1, h1, ?_, ?_⟩
    · by_cases e : j = i
      · subst e; rw [upd_at]; omega
      · rw [upd_far _ _ _ e]; exact h2
    · by_cases e : j = i
      · subst e; rw [upd_at]; omega
      · rw [upd_far _ _ _ e, upd_far _ _ _ e]; exact h3
  · rcases List.mem_append.1 hy with r | r
    · obtain ⟨j, t, hj, e1, h1, h2⟩ := h.g y r
      refine ⟨j, t, hj, e1, h1, ?_⟩
      by_cases e : j = i
      · subst e; rw [upd_at]; omega
      · rw [upd_far _ _ _ e]; exact h2
    · simp at r
      exact ⟨i, T i, hl, by rw [r, ← hx]; rfl, ok.2.2.1, by rw [upd_at]; omega⟩
  · have := allL_take h0 n hl
    have := h.c
    rw [List.length_append]
    simp
    omega
/-- what was let go is nobody's -/
theorem Inv.stale {n : Nat} {b : Int} {A T : Nat → Int} {L G : List Int} (h : Inv n b A T L G) (hn : n ≤ 256) {x : Int} (hx : x ∈ G) : fd n A T x = n := by
  obtain ⟨i, t, hi, e, h1, h2⟩ := h.g x hx
  refine fst_none (fun j hj => ?_)
  by_cases q : hnd T j = x
  · exfalso
    unfold hnd at q
    obtain ⟨rfl, rfl⟩ := two_slots hj hi hn (q.trans e)
    omega
  · simp [q]
theorem Inv.big {n : Nat} {b : Int} {A T : Nat → Int} {L G : List Int} (h : Inv n b A T L G) (hn : n ≤ 256) (hb : b ≤ 1000000) {x : Int} (hx : x ∈ L) : -9223372036854775808 ≤ x ∧ x ≤ 9223372036854775807 := by
  obtain ⟨i, t, hi, e, h1, h2, h3⟩ := h.t x hx
  have := h.ok i hi
  omega
theorem Inv.bigG {n : Nat} {b : Int} {A T : Nat → Int} {L G : List Int} (h : Inv n b A T L G) (hn : n ≤ 256) (hb : b ≤ 1000000) {x : Int} (hx : x ∈ G) : -9223372036854775808 ≤ x ∧ x ≤ 9223372036854775807 := by
  obtain ⟨i, t, hi, e, h1, h2⟩ := h.g x hx
  have := h.ok i hi
  omega
theorem getD_mem {L : List Int} {k : Nat} (h : k < L.length) : L.getD k 0 ∈ L := by
  rw [List.getD_eq_getElem?_getD, List.getElem?_eq_getElem h]
  exact List.getElem_mem _
section
variable {P : Program} {w : World} {ops : Array Oper} {rest : List Oper} {o : Oper} {a : Act} {Q : Exit → Act → World → Prop}
/-- a number put behind the first row -/
theorem wpList_push (hgd : o.guard = none) (s x : Operand) (ho : o.op = .call { callee := .builtin .append, args := #[s, x], argTypes := #[31, 31] })
    {base : Nat} {va vb : Value} {n m : Nat} {xs ys : List Int} (h : RowsH w base va vb n m xs ys) (hs : a.eval s = va) (hn : n ≤ 10000) (hb : base ≤ w.heap.size)
    (p : Nat) (hx : a.eval x = .slice (some ⟨p, 0, none⟩) 1 1) (z : Int) (hp : w.cell? ⟨p, 0, none⟩ = some (.int .i64 z))
    (hK : ∀ g cap w', RowsH w' base (.slice (some ⟨g, 0, none⟩) (n + 1) cap) vb (n + 1) m (xs ++ [z]) ys → Below base w w' → wpList Try.prog ops Q rest (a.put o.dst (.slice (some ⟨g, 0, none⟩) (n + 1) cap)) w') :
    wpList Try.prog ops Q (o :: rest) a w := by
  refine wpList_plain hgd fun K hKK => ?_
  have := step_push (ops := ops) (K := K) (Q := Q) (E := True) hgd s x ho h hs hn hb p hx z hp (fun g cap w' r1 _ r3 => hKK _ _ (hK g cap w' r1 r3))
  have hw : Region.wanted o (yielded ops a.tmps) = true := by unfold Region.wanted; rw [hgd]
  rwa [if_pos hw] at this
end
end Go.Proofs.Ytejjobemafdlbaa
