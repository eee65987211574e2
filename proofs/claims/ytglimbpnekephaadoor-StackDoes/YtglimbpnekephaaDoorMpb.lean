/- Package stack: the words that the frames take, copied. -/
import Derived.Test.YtglimbpnekephaaDoorStl
namespace Go.Proofs.YtglimbpnekephaaDoor
open Go.RowKit
set_option linter.unusedVariables false
set_option linter.unusedSimpArgs false

theorem lay_all {n : Nat} {cs us : List Int} (h : Lay (List.replicate n 0) cs 0 us) (hn : us.length = n) : cs = us := by
  have hl : cs.length = us.length := by rw [h.len]; simp [hn]
  apply List.ext_getElem? 
  intro i
  by_cases hi : i < us.length
  · have := h.inn i hi
    simp only [Nat.zero_add, List.getD_eq_getElem?_getD] at this
    rw [List.getElem?_eq_getElem hi, List.getElem?_eq_getElem (by omega : i < cs.length)] at this ⊢
    simpa using this
  · rw [List.getElem?_eq_none (by omega), List.getElem?_eq_none (by omega)]
set_option maxRecDepth 100000 in
set_option maxHeartbeats 2000000 in
theorem copied_ok {w : World} {p a b F N k : Nat} {ws : List Int} {rs : List Fr} (h : Ss w p a b ws F N k rs) :
    Calls Tryd.prog 49 #[.pointer (some ⟨p, 0, none⟩)] w fun e w' => ∃ g, e = .returned (.slice (some ⟨g, 0, none⟩) (wd rs).length (wd rs).length) ∧ Bx w' g (row (wd rs)).toArray 50 ∧ w.heap.size ≤ g ∧ Below w.heap.size w w' := by
  have US := used_any h.stk
  have hU := h.stk.un
  have hN := h.stk.nn
  have HR := Hid.mk h.rd
  clear h
  obtain ⟨us, hus⟩ : ∃ us, us = wd rs := ⟨_, rfl⟩
  simp only [← hus] at US hU HR ⊢
  clear hus
  obtain ⟨n, hn⟩ : ∃ n, us.length = n := ⟨_, rfl⟩
  have HN := Hid.mk hn
  rw [hn] at US hU ⊢
  clear hn
  have hmk := Go.run_make_row' (P := Tryd.prog) 72 50 (.int .u64 0) 8 Tryd.underlying72 info50 rfl .i64 .i64 n (by omega) (by omega)
  rw [made_words] at hmk
  have V1 : Hid (Bx (w.alloc (Obj.cells (row (List.replicate n 0)).toArray 50)) w.heap.size (row (List.replicate n 0)).toArray 50) := ⟨heap_alloc_new _ _⟩
  have B1 : Hid (Below w.heap.size w (w.alloc (Obj.cells (row (List.replicate n 0)).toArray 50))) := ⟨by go_grown⟩
  go_enter Tryd.func49, Tryd.ntmps49
  go_wp2_with (go_at_call 23; refine US.mono ?_; rintro e w' ⟨rfl, hw⟩; subst w')
  obtain ⟨g, hg⟩ : ∃ g, g = w.heap.size := ⟨_, rfl⟩
  have HG : Hid (g = w.heap.size) := ⟨hg⟩
  rw [← hg] at V1 ⊢
  generalize w.alloc (Obj.cells (row (List.replicate n 0)).toArray 50) = W0 at *
  clear hg hmk
  go_loopw [10] (fun cv wr => ∃ (i : Nat) (cs : List Int), cv = .int .i64 i ∧ i ≤ n ∧ Hid (Lay (List.replicate n 0) cs 0 (us.take i)) ∧ Hid (Bx wr g (row cs).toArray 50) ∧ Hid (Below w.heap.size w wr)) (fun cv _ => n - (intOf cv).toNat)
  case atStart => exact ⟨0, _, rfl, Nat.zero_le _, ⟨Lay.nil _ _⟩, V1, B1⟩
  case round =>
    obtain ⟨i, cs, rfl, hi, HL, HV, HB⟩ := hrel
    have cl : cs.length = n := by rw [HL.out.len]; simp
    by_cases hlt : i < n
    · have kl : i < us.length := by rw [HN.out]; exact hlt
      have WI := word_any (HR.out.later HB.out) i kl
      have HL2 : Hid (Lay (List.replicate n 0) (cs.set i (us.getD i 0)) 0 (us.take (i + 1))) := ⟨by
        have := HL.out.snoc (us.getD i 0) (by simp; omega)
        rw [List.length_take, Nat.min_eq_left (by omega), Nat.zero_add] at this
        rw [List.take_succ_eq_append_getElem kl]
        simpa [List.getD_eq_getElem?_getD, List.getElem?_eq_getElem kl] using this⟩
      generalize us.getD i 0 = y at *
      have hlt' : (i : Int) < n := by omega
      go_wp2_with (go_at_call 45; refine WI.mono ?_; rintro e w4 ⟨rfl, B4⟩; have V4 : Bx w4 g (row cs).toArray 50 := (B4.block g HV.out.lt).trans HV.out; have vz := V4.z i; have vc : w4.cell? ⟨g, i, none⟩ = some (.int .u64 (cs.getD i 0)) := (by rw [V4.cell i, List.getElem?_toArray, row_get cs i (by omega)]))
      exact ⟨⟨i + 1, cs.set i y, by go_num, by omega, HL2, ⟨by have := Joins.block_setCell (i := i) V4 (.int .u64 y); rw [row_set]; simpa [Bx] using this⟩, ⟨below_set (belowOn HB.out B4) (by have := HG.out; omega)⟩⟩, by simp [intOf]; omega⟩
    · obtain rfl : i = n := by omega
      have L := HL.out
      rw [List.take_of_length_le (by rw [HN.out]; omega)] at L
      have e := lay_all L HN.out
      subst e
      clear L
      go_wp2
      go_ret
      exact ⟨g, rfl, HV.out, by have := HG.out; omega, HB.out⟩
theorem copied_nil (w : World) : Calls Tryd.prog 49 #[.pointer none] w fun e w' => ∃ g, e = .returned (.slice (some ⟨g, 0, none⟩) 0 0) ∧ Bx w' g (row []).toArray 50 ∧ w.heap.size ≤ g ∧ Below w.heap.size w w' := by
  have US := used_nil w
  have hmk := Go.run_make_row' (P := Tryd.prog) 72 50 (.int .u64 0) 8 Tryd.underlying72 info50 rfl .i64 .i64 0 (by omega) (by omega)
  rw [made_words] at hmk
  rw [show ((0 : Nat) : Int) = 0 from rfl] at hmk
  go_enter Tryd.func49, Tryd.ntmps49
  go_wp2_with (go_at_call 23; refine US.mono ?_; rintro e w' ⟨rfl, hw⟩; subst w')
  go_loopw [10] (fun cv wr => cv = .int .i64 0 ∧ wr = w.alloc (Obj.cells (row (List.replicate 0 0)).toArray 50)) (fun _ _ => 0)
  case atStart => exact ⟨rfl, rfl⟩
  case round =>
    obtain ⟨rfl, rfl⟩ := hrel
    go_wp2
    go_ret
    exact ⟨w.heap.size, rfl, heap_alloc_new _ _, Nat.le_refl _, by go_grown⟩
end Go.Proofs.YtglimbpnekephaaDoor
