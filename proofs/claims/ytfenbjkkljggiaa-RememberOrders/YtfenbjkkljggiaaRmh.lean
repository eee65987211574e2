/- Two lists beside one another; what stands in a list that was filled out of a row. -/
import Derived.Test.YtfenbjkkljggiaaActs
namespace Go.Proofs.Ytfenbjkkljggiaa
open Go.RowKit
set_option linter.unusedVariables false
set_option linter.unusedSimpArgs false

theorem put_one {lo : Nat} {w : World} {s sb n : Nat} {m : Nat → Nat} {L : Nat → List Int} (h : Ls lo w s sb n m L) (gen at' : Int) :
    Calls Try.prog 17 #[pv s, .int .i64 gen, .int .i64 at'] w fun e w' => e = .returned (.int .i64 (flt n gen at')) ∧ Ls lo w' s sb n m (putS n L gen at') ∧ Kp XP lo w w' ∧ ∃ k, w.grownBy w' (some k) ∧ ∃ i, i < n ∧ k = m i := by
  have FT := fault_any h gen at'
  unfold putS
  by_cases hf : flt n gen at' = 0
  · obtain ⟨hi, ha⟩ := flt_zero hf
    obtain ⟨q0, q1⟩ := isl_yes hi
    obtain ⟨i, rfl⟩ : ∃ i : Nat, gen = i := ⟨gen.toNat, by omega⟩
    have hin : i < n := by omega
    rw [if_pos hf, Int.toNat_natCast]
    rw [hf] at FT ⊢
    have c0 := h.c0
    have c1 := h.c1 i hin
    have M := Hid.mk (h.map i hin)
    have G := Hid.mk (h.gd i hin)
    have HH := Hid.mk h
    have HA := Hid.mk ha
    clear h ha hf hi
    go_enter Try.func17, Try.ntmps17
    go_wp2_with (first
      | (go_at_call 28; refine FT.mono ?_; rintro e w1 ⟨rfl, hw⟩; rw [hw]; clear hw)
      | (at_mapUpdate; refine wpList_sm_put _ rfl _ _ _ 47 rfl Try.underlying47 (m i) (L i) rfl M.out G.out at' HA.out rfl rfl ?_; intro w1 M1 G1))
    go_ret
    have T := HH.out.turn hin (G.out.put HA.out) M1 G1
    exact ⟨rfl, T.1, T.2, _, G1, i, hin, rfl⟩
  · rw [if_neg hf]
    have hb : (flt n gen at' != 0) = true := by simpa using hf
    generalize flt n gen at' = e' at *
    clear hf
    go_enter Try.func17, Try.ntmps17
    go_wp2_with (go_at_call 28; refine FT.mono ?_; rintro e w1 ⟨rfl, hw⟩; rw [hw]; clear hw)
    go_ret
    exact ⟨rfl, h, Kp.refl _ _ _, _, ⟨rfl, rfl, rfl, Nat.le_refl _, fun _ _ _ => rfl⟩, 0, by have := h.le; omega, rfl⟩

theorem Ls.below {lo P : Nat} {w w' : World} {s sb n : Nat} {m : Nat → Nat} {L : Nat → List Int} (h : Ls lo w s sb n m L) (B : Below P w w') (hs : s < P ∧ sb < P ∧ ∀ i, i < n → m i < P) : Ls lo w' s sb n m L :=
  ⟨(B.block _ hs.1).trans h.box, (B.block _ hs.2.1).trans h.sets, fun i hi => (h.map i hi).of_block (B.block _ (hs.2.2 i hi)), h.gd, h.inj, h.le, h.lo⟩
theorem Ls.far {lo k : Nat} {w w' : World} {s sb n : Nat} {m : Nat → Nat} {L : Nat → List Int} (h : Ls lo w s sb n m L) (g : w.grownBy w' (some k)) (hk : k < lo) : Ls lo w' s sb n m L := by
  have lo' := h.lo
  have lt := h.lt
  exact ⟨(g.block _ lt.1 (by simp; omega)).trans h.box, (g.block _ lt.2 (by simp; omega)).trans h.sets, fun i hi => (h.map i hi).of_block (g.block _ (h.map i hi).lt (by have := lo'.2.2 i hi; simp; omega)), h.gd, h.inj, h.le, h.lo⟩
def okA (x : Int) : Prop := 1 ≤ x ∧ x ≤ 524288
theorem put_zero (L : Nat → List Int) (x y : Int) : y ∈ putS 1 L 0 x 0 ↔ y ∈ L 0 ∨ (y = x ∧ okA x) := by
  unfold putS flt
  rw [if_pos (show isl 1 0 = true by decide)]
  by_cases h : 1 ≤ x ∧ x ≤ 524288
  · rw [if_pos h, if_pos rfl]
    show y ∈ upd L 0 (putL (L 0) x) 0 ↔ _
    rw [upd_at, put_mem]
    constructor
    · rintro (q | q)
      · exact .inr ⟨q, h⟩
      · exact .inl q
    · rintro (q | ⟨q, _⟩)
      · exact .inr q
      · exact .inl q
  · rw [if_neg h, if_neg (by decide)]
    constructor
    · exact .inl
    · rintro (q | ⟨_, q⟩)
      · exact q
      · exact absurd q h
/-- the list holds what the row's places of S hold, where that is an address -/
def Fill (l : List Int) (av : Nat → Int) (S : Nat → Prop) : Prop := ∀ y, y ∈ l ↔ okA y ∧ ∃ i, S i ∧ av i = y
theorem Fill.put {L : Nat → List Int} {av : Nat → Int} {S T : Nat → Prop} (h : Fill (L 0) av S) (k : Nat) (e : ∀ i, T i ↔ S i ∨ i = k) : Fill (putS 1 L 0 (av k) 0) av T := by
  intro y
  rw [put_zero, h y]
  constructor
  · rintro (⟨a, i, hi, e'⟩ | ⟨q, a⟩)
    · exact ⟨a, i, (e i).2 (.inl hi), e'⟩
    · subst q; exact ⟨a, k, (e k).2 (.inr rfl), rfl⟩
  · rintro ⟨a, i, hi, e'⟩
    rcases (e i).1 hi with q | q
    · exact .inl ⟨a, i, q, e'⟩
    · subst q; exact .inr ⟨e'.symm, e' ▸ a⟩
theorem Fill.ext {l : List Int} {av : Nat → Int} {S T : Nat → Prop} (h : Fill l av S) (e : ∀ i, T i ↔ S i) : Fill l av T := by
  intro y
  rw [h y]
  constructor
  · rintro ⟨a, i, hi, q⟩; exact ⟨a, i, (e i).2 hi, q⟩
  · rintro ⟨a, i, hi, q⟩; exact ⟨a, i, (e i).1 hi, q⟩
theorem Fill.one {l k : List Int} {av : Nat → Int} {S : Nat → Prop} (h : Fill l av S) (g : Fill k av S) (hl : Gd l) (hk : Gd k) : l = k := gd_ext hl hk (fun x => (h x).trans (g x).symm)
theorem fill_none (av : Nat → Int) {S : Nat → Prop} (h : ∀ i, ¬ S i) : Fill [] av S := fun y => ⟨fun q => (by cases q), fun q => (by obtain ⟨_, i, hi, _⟩ := q; exact absurd hi (h i))⟩
theorem nums_fun {q : IntKind} {w : World} {ad : Option Addr} {len : Nat} (h : IsNums q w ad len) : ∃ av : Nat → Int, ∀ i, i < len → ∃ (B O : Nat), ad = some ⟨B, O, none⟩ ∧ w.cell? ⟨B, O + i, none⟩ = some (.int q (av i)) ∧ (Lit.int q (av i)).wf = true := by
  have h2 : ∀ i : Nat, ∃ k : Int, i < len → ∃ (B O : Nat), ad = some ⟨B, O, none⟩ ∧ w.cell? ⟨B, O + i, none⟩ = some (.int q k) ∧ (Lit.int q k).wf = true := fun i => by
    by_cases hi : i < len
    · obtain ⟨B, O, k, a, b, c⟩ := h.2 i hi
      exact ⟨k, fun _ => ⟨B, O, a, b, c⟩⟩
    · exact ⟨0, fun q => absurd q hi⟩
  exact ⟨fun i => Classical.choose (h2 i), fun i hi => Classical.choose_spec (h2 i) hi⟩
theorem rising {l : List Int} (h : Gd l) (i : Nat) (hi : i + 1 < l.length) : l.getD i 0 < l.getD (i + 1) 0 := by
  have := List.pairwise_iff_getElem.1 h.1 i (i + 1) (by omega) hi (by omega)
  simpa [List.getD_eq_getElem?_getD, List.getElem?_eq_getElem hi, List.getElem?_eq_getElem (show i < l.length by omega)] using this
end Go.Proofs.Ytfenbjkkljggiaa
