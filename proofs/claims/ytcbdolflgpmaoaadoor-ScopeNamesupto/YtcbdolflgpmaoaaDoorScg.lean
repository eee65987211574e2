/- The document's check: the names of binds. -/
import Derived.Test.YtcbdolflgpmaoaaDoorScf
namespace Go.Proofs.YtcbdolflgpmaoaaDoor
open Go.RowKit
set_option linter.unusedVariables false
set_option linter.unusedSimpArgs false

theorem isB_name {w : World} {ok : Nat → Prop} {x : B} {d : List Value} (h : isB w ok x d) : d[0]? = some (.string (str (nameB' x))) := by
  obtain ⟨n, a, l, e⟩ := x
  simp only [isB] at h
  obtain ⟨va, d', rfl, _, _⟩ := h
  rfl
theorem Nw.nil (w : World) (z : Nat) : Nw w z (.slice none 0 0) [] := .inl ⟨rfl, rfl, none, rfl⟩
theorem Nw.below {w w' : World} {z : Nat} {v : Value} {l : List Nm} (h : Nw w z v l) (hb : Below w.heap.size w w') : Nw w' z v l := by
  rcases h with h | h
  · exact .inl h
  · exact .inr (h.kept (row := none) ⟨hb.os, hb.tape, hb.output, hb.size, fun k hk _ => hb.block k hk⟩ (by cases v.ownBlock <;> simp))
theorem RowS.kept {w w' : World} {base size n : Nat} {e : TypeId} {v : Value} {xs : List Value} (h : RowS w base e size v n xs) (hb : Below w.heap.size w w') : RowS w' base e size v n xs := by
  rcases h with h | h
  · exact .inl h
  · exact .inr (World.ownsRow.kept (row := none) h ⟨hb.os, hb.tape, hb.output, hb.size, fun k hk _ => hb.block k hk⟩ (by cases v.ownBlock <;> simp))
theorem one_cell {s : ByteArray} : ∀ u ∈ [Value.string s], u.oneCell' = true := by
  intro u hu
  simp only [List.mem_singleton] at hu
  subst hu
  rfl
set_option maxHeartbeats 1000000 in
theorem bnames_any {w : World} {ok : Nat → Prop} (bs : List B) (v : Value) (xs : List Value) (R : IsRow w ok xs bs.length v) (I : isBs w ok bs xs) :
    Calls Tryd.prog 18 #[v] w fun e w' => ∃ r, e = .returned r ∧ Below w.heap.size w w' ∧ Nw w' w.heap.size r (bs.map nameB') := by
  obtain ⟨ga, cap, rfl, hc, hx⟩ := R
  have HX : Hid ((0 < bs.length → ∃ g off, ga = some ⟨g, off, none⟩ ∧ ok g ∧ ∀ (j : Nat) (u : Value), xs[j]? = some u → w.cell? ⟨g, off + j, none⟩ = some u) ∧ isBs w ok bs xs) := ⟨hx, I⟩
  obtain ⟨n, hn⟩ : ∃ n, bs.length = n := ⟨_, rfl⟩
  have HN : Hid (bs.length = n) := ⟨hn⟩
  rw [hn] at hc ⊢
  clear hn hx I
  obtain ⟨i0, hi, hz0, hz1, hz2⟩ := info_parts info9
  go_enter Tryd.func18, Tryd.ntmps18
  go_wp2
  go_loopw [3, 4] (fun v c wr => ∃ k : Nat, c = .int .i64 k ∧ k ≤ n ∧ Below w.heap.size w wr ∧ Nw wr w.heap.size v ((bs.take k).map nameB')) (fun _ c _ => n - (intOf c).toNat)
  case atStart => exact ⟨0, rfl, Nat.zero_le _, Below.refl _ _, by rw [List.take_zero]; exact Nw.nil _ _⟩
  case round =>
    obtain ⟨k, rfl, hk, BW, OW⟩ := hrel
    by_cases hlt : k < n
    · have kl : k < bs.length := by rw [HN.out]; exact hlt
      obtain ⟨g, off, rfl, _, hx⟩ := HX.out.1 (by omega)
      obtain ⟨d, hd, hg⟩ := isBs_get bs xs HX.out.2 k kl
      have c0 := hx _ _ (hg 0 _ (isB_name hd))
      rw [Nat.add_zero] at c0
      replace c0 := (BW.cell (World.block_lt_of_cell? _ _ c0)).trans c0
      have hlt' : (k : Int) < n := by omega
      have e1 : (bs.take (k + 1)).map nameB' = (bs.take k).map nameB' ++ [nameB' (bs[k]'kl)] := by rw [← List.take_append_getElem kl, List.map_append, List.map_cons, List.map_nil]
      have HE : Hid ((bs.take (k + 1)).map nameB' = (bs.take k).map nameB' ++ [nameB' (bs[k]'kl)]) := ⟨e1⟩
      have e2 : ((bs.take k).map nameB').length = k := by rw [List.length_map, List.length_take]; omega
      have HO : Hid (RowS wr w.heap.size 9 1 u3 k (strC ((bs.take k).map nameB'))) := ⟨by have := OW; unfold Nw at this; rwa [e2] at this⟩
      have HBW : Hid (Below w.heap.size w wr) := ⟨BW⟩
      have sB := BW.size
      have HM : Hid (k + 1 ≤ maxLen ∧ (k + 1) * 16 ≤ 140737488355328) := ⟨by unfold maxLen; omega, by omega⟩
      generalize nameB' (bs[k]'kl) = nm at c0 HE
      clear hx hd hg OW BW e1 e2
      have HS : Hid (0 < 1 → ∃ ad, some (⟨wr.heap.size, 0, none⟩ : Addr) = some ad ∧ ∀ j u, [Value.string (str nm)][j]? = some u → (wr.alloc (.cells #[.string (str nm)] 9)).cell? (ad.add j) = some u) := ⟨fun _ => ⟨_, rfl, new_one⟩⟩
      have HA : Hid (Below wr.heap.size wr (wr.alloc (.cells #[.string (str nm)] 9))) := ⟨Joins.below_alloc1 wr _⟩
      go_wp2_with (at_builtin; refine wpList_append_T rfl (.tmp 11) (.tmp 17) 38 rfl w.heap.size 9 i0 _ 1 16 Tryd.underlying38 hi hz0 hz1 hz2 rfl (by decide) u3 k (strC ((bs.take k).map nameB')) rfl (RowS.kept HO.out HA.out) (some ⟨wr.heap.size, 0, none⟩) 1 1 [.string (str nm)] rfl rfl HS.out one_cell (k + 1) rfl (strC ((bs.take k).map nameB') ++ [.string (str nm)]) rfl HM.out.1 HM.out.2 (Nat.le_trans sB HA.out.size) ?_; intro g1 c1 w1 R1 B1; have HR1 : Hid (RowS w1 w.heap.size 9 1 (.slice g1 (k + 1) c1) (k + 1) (strC ((bs.take k).map nameB') ++ [.string (str nm)])) := ⟨R1⟩; have HB1 : Hid (Below w.heap.size w w1) := ⟨(HBW.out.trans (Joins.below_le HA.out sB)).trans B1⟩; clear R1 B1)
      refine ⟨⟨k + 1, by go_num, by omega, HB1.out, ?_⟩, by simp [intOf]; omega⟩
      unfold Nw
      rw [HE.out, strC_snoc, List.length_append, List.length_map, List.length_take, Nat.min_eq_left (by omega)]
      exact HR1.out
    · obtain rfl : k = n := by omega
      have HO : Hid (Nw wr w.heap.size u3 (bs.map nameB')) := ⟨by have := OW; rwa [List.take_of_length_le (by rw [HN.out]; exact Nat.le_refl _)] at this⟩
      have HBW : Hid (Below w.heap.size w wr) := ⟨BW⟩
      clear BW OW
      go_wp2
      go_ret
      exact ⟨_, rfl, HBW.out, HO.out⟩
end Go.Proofs.YtcbdolflgpmaoaaDoor
