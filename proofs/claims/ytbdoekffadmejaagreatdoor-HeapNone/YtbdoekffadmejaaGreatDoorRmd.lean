/- Package remember: All, Take. -/
import Derived.Test.YtbdoekffadmejaaGreatDoorRmc
import Derived.Test.YtbdoekffadmejaaGreatDoorSht
namespace Go.Proofs.YtbdoekffadmejaaGreatDoor.Rm
open Go.RowKit Go.Maps Go.Sort Go.Shelf
set_option linter.unusedVariables false
set_option linter.unusedSimpArgs false

/-- slices.Sort's two contracts here, at the fence that asks nothing -/
theorem sortsA (m : Nat) : AnyZI.SortsIn Tryz.prog Tryz.sortedA_ren Fence.wide m :=
  ⟨fun blk off cap ss W hH hblk hsz => callsIn_wide.2 (AnyM.slices_Sort_int Tryz.sortA blk off cap ss W hH hblk hsz),
   fun p cap W => callsIn_wide.2 (AnyM.slices_Sort_int_none Tryz.sortA p cap W)⟩
set_option maxHeartbeats 1000000 in
theorem sorted_any {w : World} {b : Nat} {l : List Int} (M : SM w b l) (hl : Gd l) :
    CallsIn Fence.wide 5 Tryz.prog 112 #[.func (.func 159) #[] #[.pointer (some ⟨w.heap.size, 0, none⟩)]] (w.alloc (.cells #[.map (some b)] 156)) fun e w' => ∃ v, e = .returned v ∧ w'.ownsRow (w.heap.size + 1) 3 1 v l.length (ints l) ∧ (v = .slice none 0 0 ↔ l = []) ∧ Below w.heap.size w w' := by
  obtain ⟨D0, hown, hs, hp⟩ := M.keys hl
  have len := hl.len
  have hbl := hown.lt
  have hseq : SeqGives Fence.wide 2 Tryz.prog 159 #[.pointer (some ⟨w.heap.size, 0, none⟩)] encZ (fun ss => ss.Perm (intKeys D0)) (Maps.size D0) (w.alloc (.cells #[.map (some b)] 156)) :=
    AnyZI.keys_gives (ρ := Tryz.keysA_ren) { Tryz.keysA with } Fence.wide _ trivial rfl (by omega) w.heap.size b _ D0 _ (by simp) (by simp) (by
      obtain ⟨es, clock, hb, Ft, hs, hD⟩ := hown
      exact ⟨es, clock, (Below.heap_alloc _ _ b hbl).trans hb, Ft, hs, hD⟩)
  have cS := AnyZI.sorted_in Tryz.sortedA Fence.wide 5 trivial trivial trivial trivial rfl (by omega) (sortsA _) (enters_of Tryz.func158 (by kernel_rfl) rfl) 159 #[.pointer (some ⟨w.heap.size, 0, none⟩)] trivial (enters_of Tryz.func159 (by kernel_rfl) rfl) _ _ (by rw [hs]; unfold maxLen; omega) (by rw [hs]; omega) _ hseq
  change CallsIn _ _ Tryz.prog 112 _ _ _ at cS
  refine cS.mono ?_
  rintro e w' ⟨v, ss, rfl, hS, hrow, hnil, hb⟩
  have e1 : ss.mergeSort (fun x y => decide (x ≤ y)) = l := sorted_is hl (hS.trans hp.symm)
  have e2 : ss.length = l.length := (hS.trans hp.symm).length_eq
  rw [e1, e2] at hrow
  rw [World.size_alloc] at hrow
  refine ⟨v, rfl, hrow, hnil.trans ⟨fun q => ?_, fun q => ?_⟩, ((Below.refl _ w).alloc (Nat.le_refl _) _).trans (hb.mono (by simp))⟩
  · subst q; exact List.eq_nil_of_length_eq_zero e2.symm
  · subst q; exact List.eq_nil_of_length_eq_zero e2
set_option maxHeartbeats 1000000 in
theorem all_any {lo : Nat} {w : World} {s sb n : Nat} {m : Nat → Nat} {L : Nat → List Int} (h : Ls lo w s sb n m L) (gen : Int) :
    Calls Tryz.prog 53 #[pv s, .int .i64 gen] w fun e w' => ∃ v, e = .returned v ∧ w'.ownsRow w.heap.size 3 1 v (allS n L gen).length (ints (allS n L gen)) ∧ (v = .slice none 0 0 ↔ allS n L gen = []) ∧ Below w.heap.size w w' := by
  have FT := (callsIn_wide (n := 5)).2 (islist_any h gen)
  unfold allS
  cases hi : isl n gen with
  | true =>
    rw [hi] at FT
    obtain ⟨q0, q1⟩ := isl_yes hi
    obtain ⟨i, rfl⟩ : ∃ i : Nat, gen = i := ⟨gen.toNat, by omega⟩
    have hin : i < n := by omega
    rw [Int.toNat_natCast, if_pos rfl]
    have c0 := h.c0
    have c1 := h.c1 i hin
    have cS := sorted_any (h.map i hin) (h.gd i hin)
    have cK : ∀ mb W, CallsIn Fence.wide 5 Tryz.prog 113 #[.map mb] W fun e w' => e = .returned (.func (.func 159) #[] #[.pointer (some ⟨W.heap.size, 0, none⟩)]) ∧ w' = W.alloc (.cells #[.map mb] 156) := fun mb W => AnyZI.keys_in Tryz.keysA Fence.wide 5 trivial rfl mb W
    clear h
    refine (callsIn_wide (n := 6)).1 ?_
    have hfK : Fence.wide.fn 113 := trivial
    have hfS : Fence.wide.fn 112 := trivial
    have hfI : Fence.wide.fn 111 := trivial
    refine callsIn_of_wp Tryz.func53 rfl trivial ?_ rfl
    simp only [Tryz.ntmps53, List.size_toArray, List.length_cons, List.length_nil, Nat.reduceAdd, Nat.reduceSub, Array.replicate_succ, Array.replicate_zero, List.push_toArray, List.append_toArray, List.nil_append, List.cons_append]
    gi_wp2_with (first
      | (gi_at_call 111; refine FT.mono ?_; rintro e w' ⟨rfl, hw⟩; rw [hw]; clear hw)
      | (gi_at_call 113; refine (cK _ _).mono ?_; rintro e w' ⟨rfl, hw⟩; rw [hw]; clear hw)
      | (gi_at_call 112; refine cS.mono ?_; rintro e w' ⟨v, rfl, hrow, hnil, hb⟩))
    go_ret
    exact ⟨v, rfl, ownsRow_base_a hrow (by omega), hnil, hb⟩
  | false =>
    rw [hi] at FT
    rw [if_neg (by decide)]
    have FT := callsIn_wide.1 FT
    go_enter Tryz.func53, Tryz.ntmps53
    go_wp2_with (go_at_call 111; refine FT.mono ?_; rintro e w1 ⟨rfl, hw⟩; rw [hw]; clear hw)
    go_ret
    exact ⟨_, rfl, World.ownsRow_nil _ _ _ _, by simp, Below.refl _ _⟩
theorem take_any {lo : Nat} {w : World} {s sb n : Nat} {m : Nat → Nat} {L : Nat → List Int} (h : Ls lo w s sb n m L) (hlo : lo ≤ w.heap.size) (gen : Int) :
    Calls Tryz.prog 130 #[pv s, .int .i64 gen] w fun e w' => ∃ v m', e = .returned v ∧ Sl w' v (allS n L gen) ∧ Ls lo w' s sb n m' (takeS n L gen) ∧ Kp XP lo w w' ∧ w.grownBy w' (some sb) ∧ ∀ i, m' i = m i ∨ w.heap.size ≤ m' i := by
  have AL := all_any h gen
  have IS := fun (W : World) (B : Below w.heap.size w W) => islist_any (h.later B) gen
  unfold takeS
  cases hi : isl n gen with
  | true =>
    obtain ⟨q0, q1⟩ := isl_yes hi
    obtain ⟨i, rfl⟩ : ∃ i : Nat, gen = i := ⟨gen.toNat, by omega⟩
    have hin : i < n := by omega
    rw [Int.toNat_natCast, if_pos rfl]
    rw [hi] at IS
    have HH := Hid.mk h
    clear h
    have hmm := @run_makeMap Tryz.prog
    go_enter Tryz.func130, Tryz.ntmps130
    go_wp2_with (first
      | (go_at_call 53; refine AL.mono ?_; rintro e w1 ⟨v, rfl, R, N, B⟩; have IS1 := IS _ B; have c0 := (HH.out.later B).c0; have c1 := (HH.out.later B).c1 i hin; have z1 := (HH.out.later (B.alloc B.size (.map #[] 0))).z i; have c2 := (HH.out.later (B.alloc B.size (.map #[] 0))).c1 i hin; have HS := Hid.mk (sl_of R); have HB := Hid.mk B; clear R N B AL)
      | (go_at_call 111; refine IS1.mono ?_; rintro e w2 ⟨rfl, hw⟩; rw [hw]; clear hw IS1))
    go_ret
    have S := HH.out.swap hin (w1 := w1.alloc (.map #[] 0)) (HB.out.alloc HB.out.size _) (SM.made w1) HB.out.size
    have B2 := (HB.out.alloc HB.out.size (.map #[] 0))
    refine ⟨v, _, rfl, ?_, S.1, S.2, ⟨B2.os, B2.tape, B2.output, by simpa using B2.size, fun k hk hx => (Below.heap_setCell _ _ _ _ (fun e => hx (by rw [e]))).trans (B2.block k hk)⟩, fun j => ?_⟩
    rotate_left
    · by_cases e : j = i
      · subst e; rw [upd_at]; exact .inr HB.out.size
      · rw [upd_far _ _ e]; exact .inl rfl
    have H2 := HH.out.later HB.out
    have K2 : Kp XP lo w1 ((w1.alloc (.map #[] 0)).setCell ⟨sb, i, none⟩ (.map (some w1.heap.size))) := by
      have := H2.swap hin (w1 := w1.alloc (.map #[] 0)) ((Below.refl _ w1).alloc (Nat.le_refl _) _) (SM.made w1) (Nat.le_refl _)
      exact this.2
    exact HS.out.kp K2 (fun cur => notXP cur 3 (0, 0) (by decide))
  | false =>
    rw [hi] at IS
    rw [if_neg (by decide)]
    have HH := Hid.mk h
    clear h
    go_enter Tryz.func130, Tryz.ntmps130
    go_wp2_with (first
      | (go_at_call 53; refine AL.mono ?_; rintro e w1 ⟨v, rfl, R, N, B⟩; have IS1 := IS _ B; have HS := Hid.mk (sl_of R); have HB := Hid.mk B; clear R N B AL)
      | (go_at_call 111; refine IS1.mono ?_; rintro e w2 ⟨rfl, hw⟩; rw [hw]; clear hw IS1))
    go_ret
    exact ⟨v, m, rfl, HS.out, HH.out.later HB.out, Kp.later HB.out hlo, ⟨HB.out.os, HB.out.tape, HB.out.output, HB.out.size, fun k hk _ => HB.out.block k hk⟩, fun j => .inl rfl⟩
end Go.Proofs.YtbdoekffadmejaaGreatDoor.Rm
