/- Pointers turned in place: plain lists, and the document's rows in memory. -/
import Derived.Test.YtglimbpnekephaaDoorTda
namespace Go.Proofs.YtglimbpnekephaaDoor
open Go.RowKit
set_option linter.unusedVariables false
set_option linter.unusedSimpArgs false

def mapF (g : Int → Int) (f : Fr) : Fr := ⟨f.k, f.a, f.b, f.ps.map g⟩
theorem refill_map (g : Int → Int) : ∀ rs : List Fr, refill rs ((ptrs rs).map g) = rs.map (mapF g)
  | [] => rfl
  | f :: r => by
    have e1 : ((ptrs (f :: r)).map g).drop (ptrs r).length = f.ps.map g := by
      rw [ptrs, List.map_append]
      rw [show (ptrs r).length = ((ptrs r).map g).length by simp, List.drop_left]
    have e2 : ((ptrs (f :: r)).map g).take (ptrs r).length = (ptrs r).map g := by
      rw [ptrs, List.map_append]
      rw [show (ptrs r).length = ((ptrs r).map g).length by simp, List.take_left]
    rw [refill, e1, e2, refill_map g r]
    rfl
/-- how many of a frame's pointers are turned -/
def cnt (i k j n : Nat) : Nat := if j < i then n else if j = i then k else 0
def upP (g : Int → Int) (c : Nat) (ps : List Int) : List Int := (ps.take c).map g ++ ps.drop c
theorem upP_len (g : Int → Int) (c : Nat) (ps : List Int) : (upP g c ps).length = ps.length := by simp [upP]; omega
theorem upP_zero (g : Int → Int) (ps : List Int) : upP g 0 ps = ps := by simp [upP]
theorem upP_all (g : Int → Int) (ps : List Int) : upP g ps.length ps = ps.map g := by simp [upP]
theorem upP_at (g : Int → Int) (c : Nat) (ps : List Int) (j : Nat) : (upP g c ps)[j]? = if j < c then ps[j]?.map g else ps[j]? := by
  unfold upP
  by_cases lt : j < c
  · rw [if_pos lt]
    by_cases lp : j < ps.length
    · rw [List.getElem?_append_left (by simp; omega)]
      simp [lt]
    · rw [List.getElem?_eq_none (by simp; omega), List.getElem?_eq_none (by omega)]
      rfl
  · rw [if_neg lt]
    by_cases cp : c ≤ ps.length
    · rw [List.getElem?_append_right (by simp; omega)]
      simp
      congr 1
      omega
    · rw [List.getElem?_eq_none (by simp; omega), List.getElem?_eq_none (by omega)]
theorem upP_get (g : Int → Int) (c : Nat) (ps : List Int) (h : c < ps.length) : (upP g c ps)[c]'(by rw [upP_len]; exact h) = ps[c] := by
  apply Option.some.inj
  rw [← List.getElem?_eq_getElem, upP_at, if_neg (by omega), List.getElem?_eq_getElem h]
theorem upP_next (g : Int → Int) (c : Nat) (ps : List Int) (h : c < ps.length) : (upP g c ps).set c (g ps[c]) = upP g (c + 1) ps := by
  apply List.ext_getElem?
  intro j
  rw [List.getElem?_set, upP_at, upP_at]
  by_cases e : c = j
  · subst e
    rw [if_pos rfl, if_pos (by rw [upP_len]; exact h), if_pos (by omega), List.getElem?_eq_getElem h]
    rfl
  · rw [if_neg e]
    by_cases lt : j < c
    · rw [if_pos lt, if_pos (by omega)]
    · rw [if_neg lt, if_neg (by omega)]
def upF (g : Int → Int) (c : Nat) (x : Fp) : Fp := ⟨⟨x.f.k, x.f.a, x.f.b, upP g c x.f.ps⟩, x.o, x.c⟩
theorem frC_up (g : Int → Int) (c : Nat) (x : Fp) : frC (upF g c x) = frC x := by simp [frC, upF, upP_len]
/-- the rows half turned -/
def mix (g : Int → Int) (i k : Nat) (l : List Fp) : List Fp := (List.range l.length).pmap (fun j (hj : j < l.length) => upF g (cnt i k j (l[j]).f.ps.length) l[j]) (fun j hj => by simpa using hj)
theorem mix_len (g : Int → Int) (i k : Nat) (l : List Fp) : (mix g i k l).length = l.length := by simp [mix]
theorem mix_get (g : Int → Int) (i k : Nat) (l : List Fp) (j : Nat) (hj : j < l.length) : (mix g i k l)[j]'(by rw [mix_len]; exact hj) = upF g (cnt i k j (l[j]).f.ps.length) l[j] := by simp [mix]
theorem mix_start (g : Int → Int) (l : List Fp) : mix g 0 0 l = l := by
  apply List.ext_getElem
  · exact mix_len _ _ _ _
  · intro j h1 h2
    rw [mix_get g 0 0 l j h2]
    have : cnt 0 0 j (l[j]).f.ps.length = 0 := by unfold cnt; split <;> (try omega); split <;> omega
    rw [this]
    simp [upF, upP_zero]
theorem mix_row (g : Int → Int) (i : Nat) (l : List Fp) (hi : i < l.length) : mix g i (l[i]).f.ps.length l = mix g (i + 1) 0 l := by
  apply List.ext_getElem
  · rw [mix_len, mix_len]
  · intro j h1 h2
    rw [mix_len] at h1
    rw [mix_get g _ _ l j h1, mix_get g _ _ l j h1]
    have : cnt i (l[i]).f.ps.length j (l[j]).f.ps.length = cnt (i + 1) 0 j (l[j]).f.ps.length := by
      unfold cnt
      by_cases e : j = i
      · subst e; rw [if_neg (by omega), if_pos rfl, if_pos (by omega)]
      · by_cases lt : j < i
        · rw [if_pos lt, if_pos (by omega)]
        · rw [if_neg lt, if_neg e, if_neg (by omega)]
          split <;> rfl
    rw [this]
theorem mix_end (g : Int → Int) (l : List Fp) : (mix g l.length 0 l).map Fp.f = (l.map Fp.f).map (mapF g) := by
  apply List.ext_getElem
  · simp [mix_len]
  · intro j h1 h2
    simp only [List.length_map, mix_len] at h1
    rw [List.getElem_map, mix_get g _ _ l j h1]
    have : cnt l.length 0 j (l[j]).f.ps.length = (l[j]).f.ps.length := by unfold cnt; rw [if_pos h1]
    rw [this]
    simp [upF, mapF, upP_all]
theorem mix_set (g : Int → Int) (i k : Nat) (l : List Fp) (hi : i < l.length) (hk : k < (l[i]).f.ps.length) :
    (mix g i k l).set i ⟨⟨(l[i]).f.k, (l[i]).f.a, (l[i]).f.b, (upP g k (l[i]).f.ps).set k (g ((l[i]).f.ps[k]))⟩, (l[i]).o, (l[i]).c⟩ = mix g i (k + 1) l := by
  apply List.ext_getElem
  · simp [mix_len]
  · intro j h1 h2
    rw [mix_len] at h2
    rw [List.getElem_set, mix_get g i (k + 1) l j h2]
    by_cases e : i = j
    · subst e
      rw [if_pos rfl, upP_next g k _ hk]
      have : cnt i (k + 1) i (l[i]).f.ps.length = k + 1 := by unfold cnt; rw [if_neg (by omega), if_pos rfl]
      rw [this]
      rfl
    · rw [if_neg e, mix_get g i k l j h2]
      have : cnt i k j (l[j]).f.ps.length = cnt i (k + 1) j (l[j]).f.ps.length := by unfold cnt; rw [if_neg (show ¬ j = i from fun z => e z.symm), if_neg (show ¬ j = i from fun z => e z.symm)]
      rw [this]
theorem cellsF_flat (l : List Fp) : cellsF l = (l.map frC).flatten := by simp [cellsF, List.flatMap]
theorem cellsF_set (l : List Fp) (i : Nat) (hi : i < l.length) (x : Fp) (h : frC x = frC l[i]) : cellsF (l.set i x) = cellsF l := by
  rw [cellsF_flat, cellsF_flat, List.map_set, h]
  congr 1
  have : frC l[i] = (l.map frC)[i]'(by simpa using hi) := by simp
  rw [this, List.set_getElem_self]
/-- one pointer is another one -/
theorem Ds.store {w : World} {d base : Nat} {n : Int} {v : Value} {l : List Fp} (h : Ds w d base n v l) (i : Nat) (hi : i < l.length) (k : Nat) (hk : k < (l[i]).f.ps.length) (z : Int) :
    ∃ g off, (l[i]).o = some ⟨g, off, none⟩ ∧ w.cell? ⟨g, off + k, none⟩ = some (.int .i64 ((l[i]).f.ps[k])) ∧ w.frozen? ⟨g, off + k, none⟩ = false ∧ g ≠ d ∧ v.ownBlock ≠ some g ∧ (∃ cs, w.heap[g]? = some (.cells cs 3 (0, 0))) ∧
      Ds (w.setCell ⟨g, off + k, none⟩ (.int .i64 z)) d base n v (l.set i ⟨⟨(l[i]).f.k, (l[i]).f.a, (l[i]).f.b, ((l[i]).f.ps).set k z⟩, (l[i]).o, (l[i]).c⟩) ∧ w.grownBy (w.setCell ⟨g, off + k, none⟩ (.int .i64 z)) (some g) := by
  have Q := h.q _ (List.getElem_mem hi)
  obtain ⟨g, off, eo, hx⟩ := Q.s.num (by omega)
  obtain ⟨cs, hc⟩ := Q.t _ eo
  simp only at hc
  have gd : g ≠ d := fun e => by subst e; have b := h.box; unfold Bx at b; rw [b] at hc; cases hc
  have gv : v.ownBlock ≠ some g := fun e => by
    rcases h.R.2 with ⟨hn, _⟩ | ⟨g', cap, cur, hv, hb, hgg, _⟩
    · rw [hn] at e; simp [Value.ownBlock] at e
    · rw [hv] at e; simp [Value.ownBlock] at e; subst e; rw [hgg] at hc; cases hc
  have far : ∀ m, m ≠ g → (w.setCell ⟨g, off + k, none⟩ (.int .i64 z)).heap[m]? = w.heap[m]? := fun m hm => Below.heap_setCell _ _ _ _ hm
  have bg : (w.setCell ⟨g, off + k, none⟩ (.int .i64 z)).heap[g]? = some (.cells (cs.setIfInBounds (off + k) (.int .i64 z)) 3 (0, 0)) := Joins.block_setCell hc _
  refine ⟨g, off, eo, hx k hk, Joins.unfrozen_of_block hc _, gd, gv, ⟨cs, hc⟩, ⟨(far d (fun e => gd e.symm)).trans h.box, ?_, fun y hy => ?_, ?_⟩, grown_set _ _ _ _⟩
  · unfold Rw
    rw [List.length_set, cellsF_set l i hi _ (by simp [frC])]
    have R := h.R
    unfold Rw at R
    refine ⟨R.1, ?_⟩
    rcases R.2 with hn | ⟨g', cap, cur, hv, hb, hgg, rest⟩
    · exact .inl hn
    · exact .inr ⟨g', cap, cur, hv, hb, (far g' (fun e => gv (by rw [hv, e]; rfl))).trans hgg, rest⟩
  · obtain ⟨j, hj, rfl⟩ := List.mem_iff_getElem.1 hy
    rw [List.length_set] at hj
    rw [List.getElem_set]
    by_cases e : i = j
    · subst e
      rw [if_pos rfl]
      refine ⟨⟨by simpa using Q.s.cap, by simpa using Q.s.len, fun _ => ⟨g, off, eo, fun t ht => ?_⟩⟩, fun ad ea => ?_⟩
      · simp only [List.length_set] at ht
        rw [Joins.cell_of_block bg, List.getElem_set]
        have old := hx t ht
        rw [Joins.cell_of_block hc] at old
        by_cases et : k = t
        · subst et
          rw [if_pos rfl, Array.getElem?_setIfInBounds_self]
          rw [if_pos (by have := (Array.getElem?_eq_some_iff.1 old).1; exact this)]
        · rw [if_neg et, Array.getElem?_setIfInBounds_ne (by omega)]
          exact old
      · rw [eo] at ea; cases ea; exact ⟨_, bg⟩
    · rw [if_neg e]
      have Qj := h.q _ (List.getElem_mem hj)
      have ne : ∀ ad, (l[j]).o = some ad → ad.block ≠ g := fun ad ea => by
        rcases Nat.lt_or_gt_of_ne e with q | q
        · have := List.pairwise_iff_getElem.1 h.ap i j hi hj q _ _ eo ea
          exact fun z => this z.symm
        · exact List.pairwise_iff_getElem.1 h.ap j i hj hi q _ _ ea eo
      exact ⟨Qj.s.blocks fun ad ea => far _ (ne ad ea), fun ad ea => by obtain ⟨c', hc'⟩ := Qj.t ad ea; exact ⟨c', (far _ (ne ad ea)).trans hc'⟩⟩
  · have e : (l.set i ⟨⟨(l[i]).f.k, (l[i]).f.a, (l[i]).f.b, ((l[i]).f.ps).set k z⟩, (l[i]).o, (l[i]).c⟩).map Fp.o = l.map Fp.o := by
      rw [List.map_set]
      have : (l[i]).o = (l.map Fp.o)[i]'(by simpa using hi) := by simp
      simp only
      rw [this, List.set_getElem_self]
    have ap : (l.map Fp.o).Pairwise (fun x y => ∀ a b, x = some a → y = some b → a.block ≠ b.block) := List.pairwise_map.2 h.ap
    rw [← e] at ap
    exact List.pairwise_map.1 ap
end Go.Proofs.YtglimbpnekephaaDoor
