/- The pointers of a stack's frames, from the lowest frame up: plain lists. -/
import Derived.Test.YtglimbpnekephaaDoorSti
namespace Go.Proofs.YtglimbpnekephaaDoor
set_option linter.unusedVariables false
set_option linter.unusedSimpArgs false

/-- all pointers, the lowest frame's first -/
def ptrs : List Fr → List Int
  | [] => []
  | f :: r => ptrs r ++ f.ps
/-- where they stand -/
def plc : List Fr → List Nat
  | [] => []
  | f :: r => plc r ++ (List.range f.ps.length).map (fun i => (wd r).length + i)
/-- other pointers in their places -/
def refill : List Fr → List Int → List Fr
  | [], _ => []
  | f :: r, vs => ⟨f.k, f.a, f.b, vs.drop (ptrs r).length⟩ :: refill r (vs.take (ptrs r).length)
theorem plc_len : ∀ rs : List Fr, (plc rs).length = (ptrs rs).length
  | [] => rfl
  | f :: r => by simp [plc, ptrs, plc_len r]
theorem refill_len : ∀ (rs : List Fr) (vs : List Int), (refill rs vs).length = rs.length
  | [], _ => rfl
  | f :: r, vs => by simp [refill, refill_len r]
theorem refill_self : ∀ rs : List Fr, refill rs (ptrs rs) = rs
  | [] => rfl
  | f :: r => by
    simp only [refill, ptrs, List.drop_left, List.take_left, refill_self r]
theorem wd_refill_len : ∀ (rs : List Fr) (vs : List Int), vs.length = (ptrs rs).length → (wd (refill rs vs)).length = (wd rs).length
  | [], _, _ => rfl
  | f :: r, vs, h => by
    simp only [ptrs, List.length_append] at h
    rw [refill, wd_cons_len, wd_cons_len, wd_refill_len r _ (by simp; omega)]
    simp
    omega
theorem ptrs_refill : ∀ (rs : List Fr) (vs : List Int), vs.length = (ptrs rs).length → ptrs (refill rs vs) = vs
  | [], vs, h => by simp [ptrs] at h; simp [refill, ptrs, h]
  | f :: r, vs, h => by
    simp only [ptrs, List.length_append] at h
    rw [refill, ptrs, ptrs_refill r _ (by simp; omega)]
    simp
theorem refill_ok : ∀ (rs : List Fr) (vs : List Int), vs.length = (ptrs rs).length → (∀ f ∈ rs, Okf f) → (∀ v ∈ vs, 0 ≤ v ∧ v ≤ 524288) → ∀ f ∈ refill rs vs, Okf f
  | [], _, _, _, _ => fun f hf => by cases hf
  | f :: r, vs, h, ho, hv => by
    simp only [ptrs, List.length_append] at h
    intro g hg
    have ok := ho f (by simp)
    rcases List.mem_cons.1 hg with rfl | hg
    · exact ⟨ok.k, ok.a, ok.b, by have := ok.n; simp; omega, fun p hp => hv p (List.mem_of_mem_drop hp)⟩
    · exact refill_ok r _ (by simp; omega) (fun x hx => ho x (by simp [hx])) (fun v h => hv v (List.mem_of_mem_take h)) g hg
theorem plc_lt : ∀ (rs : List Fr) (i : Nat) (h : i < (plc rs).length), (plc rs)[i]'h < (wd rs).length
  | [], i, h => by simp [plc] at h
  | f :: r, i, h => by
    by_cases hi : i < (plc r).length
    · have := plc_lt r i hi
      simp only [plc]
      rw [List.getElem_append_left hi, wd_cons_len]
      omega
    · simp only [plc, List.length_append, List.length_map, List.length_range] at h
      simp only [plc]
      rw [List.getElem_append_right (by omega), wd_cons_len]
      simp
      omega
theorem refill_set : ∀ (rs : List Fr) (vs : List Int) (hl : vs.length = (ptrs rs).length) (i : Nat) (h : i < (plc rs).length) (x : Int), (wd (refill rs vs)).set ((plc rs)[i]'h) x = wd (refill rs (vs.set i x))
  | [], _, _, i, h, _ => by simp [plc] at h
  | f :: r, vs, hl, i, h, x => by
    have hl' := hl
    simp only [ptrs, List.length_append] at hl'
    have wl := wd_refill_len r (vs.take (ptrs r).length) (by simp; omega)
    have pl := plc_len r
    by_cases hi : i < (plc r).length
    · have ih := refill_set r (vs.take (ptrs r).length) (by simp; omega) i hi x
      have lt := plc_lt r i hi
      simp only [plc]
      rw [List.getElem_append_left hi]
      simp only [refill, wd]
      rw [List.set_append_left _ _ (by omega), ih]
      have e1 : (vs.set i x).take (ptrs r).length = (vs.take (ptrs r).length).set i x := by rw [List.take_set]
      have e2 : (vs.set i x).drop (ptrs r).length = vs.drop (ptrs r).length := by rw [List.drop_set_of_lt (by omega)]
      rw [e1, e2]
    · simp only [plc, List.length_append, List.length_map, List.length_range] at h
      obtain ⟨j, rfl⟩ : ∃ j, i = (plc r).length + j := ⟨i - (plc r).length, by omega⟩
      simp only [plc]
      rw [List.getElem_append_right (by omega)]
      simp only [Nat.add_sub_cancel_left, List.getElem_map, List.getElem_range, refill, wd]
      rw [List.set_append_right _ _ (by omega), wl, Nat.add_sub_cancel_left]
      have e1 : (vs.set ((plc r).length + j) x).take (ptrs r).length = vs.take (ptrs r).length := by rw [List.take_set_of_le (by omega)]
      have e2 : (vs.set ((plc r).length + j) x).drop (ptrs r).length = (vs.drop (ptrs r).length).set j x := by
        rw [List.drop_set, if_neg (by omega)]
        congr 1
        omega
      rw [e1, e2, List.set_append_left _ _ (by simp; omega)]
      simp [last]
theorem refill_get (rs : List Fr) (vs : List Int) (hl : vs.length = (ptrs rs).length) (i : Nat) (h : i < (plc rs).length) : (wd (refill rs vs)).getD ((plc rs)[i]'h) 0 = vs.getD i 0 := by
  have s := refill_set rs vs hl i h (vs.getD i 0)
  have e : vs.set i (vs.getD i 0) = vs := by
    have hi : i < vs.length := by rw [hl, ← plc_len]; exact h
    simp [List.getD_eq_getElem?_getD, List.getElem?_eq_getElem hi]
  rw [e] at s
  have lt := plc_lt rs i h
  rw [← wd_refill_len rs vs hl] at lt
  rw [← s, getD_set, if_pos ⟨rfl, by rw [← s] at lt; simpa using lt⟩]
theorem ptrs_le : ∀ rs : List Fr, (ptrs rs).length ≤ (wd rs).length
  | [] => Nat.le_refl _
  | f :: r => by have := ptrs_le r; rw [wd_cons_len]; simp [ptrs]; omega
end Go.Proofs.YtglimbpnekephaaDoor
