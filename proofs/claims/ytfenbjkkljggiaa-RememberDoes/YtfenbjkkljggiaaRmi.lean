/- The document's lists: rows in a row; New, which there are, All, Has, Take, Len. -/
import Derived.Test.YtfenbjkkljggiaaRmg
namespace Go.Proofs.Ytfenbjkkljggiaa
open Go.RowKit
set_option linter.unusedVariables false
set_option linter.unusedSimpArgs false

def cellsV (n : Nat) (V : Nat → Value) : List Value := (List.range n).map V
structure Rs (lo : Nat) (w : World) (x ob n : Nat) (V : Nat → Value) (L : Nat → List Int) : Prop where
  box : w.heap[x]? = some (.cells #[.slice (some ⟨ob, 0, none⟩) n n] 52 (0, 0))
  of : w.heap[ob]? = some (.cells (cellsV n V).toArray 36 (0, 0))
  rows : ∀ i, i < n → Sl w (V i) (L i)
  gd : ∀ i, i < n → Gd (L i)
  le : 1 ≤ n ∧ n ≤ 4
  lo : lo ≤ x ∧ lo ≤ ob
section
variable {lo : Nat} {w w' : World} {x ob n : Nat} {V : Nat → Value} {L : Nat → List Int}
theorem Rs.c0 (h : Rs lo w x ob n V L) : w.cell? ⟨x, 0, none⟩ = some (.slice (some ⟨ob, 0, none⟩) n n) := by rw [Joins.cell_of_block h.box]; rfl
theorem Rs.c1 (h : Rs lo w x ob n V L) (i : Nat) (hi : i < n) : w.cell? ⟨ob, i, none⟩ = some (V i) := by rw [Joins.cell_of_block h.of]; simp [cellsV, hi]
theorem Rs.z (h : Rs lo w x ob n V L) (i : Nat) : w.frozen? ⟨ob, i, none⟩ = false := Joins.unfrozen_of_block h.of i
theorem Rs.kp {X : Obj → Prop} {q : Nat} (h : Rs lo w x ob n V L) (B : Kp X q w w') (hx : ∀ cur lay, ¬ X (.cells cur 52 lay)) (hy : ∀ cur lay, ¬ X (.cells cur 36 lay)) (hz : ∀ cur lay, ¬ X (.cells cur 3 lay)) : Rs lo w' x ob n V L :=
  ⟨B.keep _ _ h.box (hx _ _), B.keep _ _ h.of (hy _ _), fun i hi => (h.rows i hi).kp B (fun cur => hz _ _), h.gd, h.le, h.lo⟩
theorem Rs.later (h : Rs lo w x ob n V L) (B : Below w.heap.size w w') : Rs lo w' x ob n V L :=
  h.kp (Kp.later (X := fun _ => False) (lo := 0) B (Nat.zero_le _)) (fun _ _ h => h) (fun _ _ h => h) (fun _ _ h => h)
theorem Rs.kpP {q : Nat} (h : Rs lo w x ob n V L) (B : Kp XP q w w') : Rs lo w' x ob n V L := h.kp B (fun _ _ => notXP _ _ _ (by decide)) (fun _ _ => notXP _ _ _ (by decide)) (fun _ _ => notXP _ _ _ (by decide))
theorem Ls.kpR {q s sb : Nat} {m : Nat → Nat} (h : Ls lo w s sb n m L) (B : Kp XR q w w') : Ls lo w' s sb n m L := h.kp B (fun _ _ => notXR _ _ _ (by decide)) (fun _ _ => notXR _ _ _ (by decide)) (fun _ _ => notXRm _ _)
theorem cellsV_set (i : Nat) (v : Value) : cellsV n (upd V i v) = (cellsV n V).set i v := by
  apply List.ext_getElem
  · simp [cellsV]
  · intro j h1 h2
    simp only [cellsV, List.getElem_map, List.getElem_range, List.getElem_set, upd]
    split <;> split <;> first | rfl | omega
/-- one row is another one -/
theorem Rs.swap {w1 : World} (h : Rs lo w x ob n V L) {i : Nat} (hi : i < n) (B : Below w.heap.size w w1) {v : Value} {l : List Int} (S : Sl w1 v l) (hl : Gd l) :
    Rs lo (w1.setCell ⟨ob, i, none⟩ v) x ob n (upd V i v) (upd L i l) ∧ Kp XR lo w (w1.setCell ⟨ob, i, none⟩ v) := by
  have h1 := h.later B
  have K : Kp XR lo w1 (w1.setCell ⟨ob, i, none⟩ v) := Kp.set h1.of ⟨_, _, rfl⟩ h.lo.2 i v
  have ne : x ≠ ob := fun e => by
    have := h.box
    rw [e, h.of] at this
    simp only [Option.some.injEq, Obj.cells.injEq] at this
    exact absurd this.2.1 (by decide)
  refine ⟨⟨?_, ?_, fun j hj => ?_, fun j hj => ?_, h.le, h.lo⟩, (Kp.later B ?_).trans K⟩
  · rw [Below.heap_setCell _ _ _ _ ne]; exact h1.box
  · rw [Joins.block_setCell h1.of, cellsV_set]; simp
  · by_cases e : j = i
    · subst e; rw [upd_at, upd_at]; exact S.kp K (fun cur => notXR _ _ _ (by decide))
    · rw [upd_far _ _ e, upd_far _ _ e]; exact (h1.rows j hj).kp K (fun cur => notXR _ _ _ (by decide))
  · by_cases e : j = i
    · subst e; rw [upd_at]; exact hl
    · rw [upd_far _ _ e]; exact h.gd j hj
  · have := h.lo
    have := (Array.getElem?_eq_some_iff.1 h.box).1
    omega
end
abbrev nilS : Value := .slice none 0 0
theorem sl_nil (w : World) : Sl w nilS [] := .inl ⟨⟨none, 0, rfl⟩, rfl⟩
theorem info36 : (Try.prog.info? 36).map (fun i => (i.zero, i.size, i.bytes)) = some (some (.slice none 0 0), 1, 24) := by kernel_rfl
theorem made_nil (n : Nat) : madeCells #[.slice none 0 0] n = (cellsV n (fun _ => nilS)).toArray := by
  apply Array.ext
  · simp [madeCells, cellsV]
  · intro i h1 h2
    simp [madeCells, cellsV, Nat.mod_one]
theorem rnew_any (w : World) (n : Nat) (hn : 1 ≤ n ∧ n ≤ 4) :
    Calls Try.prog 9 #[.int .i64 (n : Int)] w fun e w' => ∃ x ob, e = .returned (.tuple #[pv x, .int .i64 0]) ∧ Rs w.heap.size w' x ob n (fun _ => nilS) (fun _ => []) ∧ Below w.heap.size w w' := by
  have hmk := Go.run_make_row' (P := Try.prog) 50 36 (.slice none 0 0) 24 Try.underlying50 info36 rfl .i64 .i64 n (by omega) (by omega)
  rw [made_nil n] at hmk
  have n1 : ¬ (n : Int) < 1 := by omega
  have n2 : ¬ (n : Int) > 4 := by omega
  go_enter Try.func9, Try.ntmps9
  go_wp2
  go_ret2
  refine ⟨_, rfl, ⟨w.heap.size, ?_, ?_, fun i hi => sl_nil _, fun i hi => gd_nil, hn, ?_⟩, ?_⟩
  · have := heap_alloc_new (w.alloc (.cells (cellsV n (fun _ => nilS)).toArray 36)) (.cells #[.slice (some ⟨w.heap.size, 0, none⟩) n n] 52)
    first | exact this | simpa using this
  · rw [Below.heap_alloc _ _ _ (by simp)]; exact heap_alloc_new _ _
  · simp
  · exact ((Below.refl _ w).alloc (Nat.le_refl _) _).alloc (by simp) _
theorem rnew_no (w : World) (n : Int) (hn : ¬ (1 ≤ n ∧ n ≤ 4)) :
    Calls Try.prog 9 #[.int .i64 n] w fun e w' => e = .returned (.tuple #[.pointer none, .int .i64 2]) ∧ w' = w := by
  by_cases h : n < 1
  · go_enter Try.func9, Try.ntmps9
    go_wp2
    go_ret2
    exact ⟨rfl, rfl⟩
  · have h2 : n > 4 := by omega
    go_enter Try.func9, Try.ntmps9
    go_wp2
    go_ret2
    exact ⟨rfl, rfl⟩
theorem isl_no {n : Nat} {gen : Int} (h : isl n gen = false) : gen < 0 ∨ (¬ gen < 0 ∧ gen ≥ (n : Int)) := by
  simp [isl] at h
  omega
theorem rwrong_any {lo : Nat} {w : World} {x ob n : Nat} {V : Nat → Value} {L : Nat → List Int} (h : Rs lo w x ob n V L) (gen at' : Int) :
    Calls Try.prog 29 #[pv x, .int .i64 gen, .int .i64 at'] w fun e w' => e = .returned (.int .i64 (flt n gen at')) ∧ w' = w := by
  have c := h.c0
  clear h
  unfold flt
  cases hg : isl n gen with
  | false =>
    rw [if_neg (by decide)]
    rcases isl_no hg with q | ⟨q, q'⟩
    all_goals
      clear hg
      go_enter Try.func29, Try.ntmps29
      go_wp2
      go_ret
      exact ⟨rfl, rfl⟩
  | true =>
    rw [if_pos rfl]
    obtain ⟨q0, q1⟩ := isl_yes hg
    have q2 : ¬ gen < 0 := by omega
    have q3 : ¬ gen ≥ (n : Int) := by omega
    clear hg
    by_cases h1 : 1 ≤ at'
    · by_cases h2 : at' ≤ 524288
      · rw [if_pos ⟨h1, h2⟩]
        have g1 : ¬ at' < 1 := by omega
        have g2 : ¬ at' > 524288 := by omega
        go_enter Try.func29, Try.ntmps29
        go_wp2
        go_ret
        exact ⟨rfl, rfl⟩
      · rw [if_neg (fun q => h2 q.2)]
        have g1 : ¬ at' < 1 := by omega
        have g2 : at' > 524288 := by omega
        go_enter Try.func29, Try.ntmps29
        go_wp2
        go_ret
        exact ⟨rfl, rfl⟩
    · rw [if_neg (fun q => h1 q.1)]
      have g1 : at' < 1 := by omega
      go_enter Try.func29, Try.ntmps29
      go_wp2
      go_ret
      exact ⟨rfl, rfl⟩
theorem rall_any {lo : Nat} {w : World} {x ob n : Nat} {V : Nat → Value} {L : Nat → List Int} (h : Rs lo w x ob n V L) (gen : Int) :
    Calls Try.prog 16 #[pv x, .int .i64 gen] w fun e w' => ∃ v, e = .returned v ∧ Sl w v (allS n L gen) ∧ w' = w := by
  have c := h.c0
  unfold allS
  cases hg : isl n gen with
  | false =>
    rw [if_neg (by decide)]
    rcases isl_no hg with q | ⟨q, q'⟩
    all_goals
      clear hg h
      go_enter Try.func16, Try.ntmps16
      go_wp2
      go_ret
      exact ⟨_, rfl, sl_nil _, rfl⟩
  | true =>
    rw [if_pos rfl]
    obtain ⟨q0, q1⟩ := isl_yes hg
    obtain ⟨i, rfl⟩ : ∃ i : Nat, gen = i := ⟨gen.toNat, by omega⟩
    have q2 : ¬ (i : Int) < 0 := by omega
    have q3 : ¬ (i : Int) ≥ (n : Int) := by omega
    have c1 := h.c1 i (by omega)
    have S := Hid.mk (h.rows i (by omega))
    obtain ⟨v, hv⟩ : ∃ v, V i = v := ⟨_, rfl⟩
    rw [hv] at c1 S
    rw [Int.toNat_natCast]
    clear hg h hv
    go_enter Try.func16, Try.ntmps16
    go_wp2
    go_ret
    exact ⟨_, rfl, S.out, rfl⟩
set_option maxHeartbeats 1000000 in
theorem rhas_any {lo : Nat} {w : World} {x ob n : Nat} {V : Nat → Value} {L : Nat → List Int} (h : Rs lo w x ob n V L) (gen at' : Int) :
    Calls Try.prog 24 #[pv x, .int .i64 gen, .int .i64 at'] w fun e w' => e = .returned (.bool (hasS n L gen at')) ∧ w' = w := by
  have AL := rall_any h gen
  have hgd := allS_gd h.gd gen
  have hlen := hgd.len
  have hA : hasS n L gen at' = decide (at' ∈ allS n L gen) := by
    unfold hasS allS
    cases isl n gen <;> simp
  rw [hA]
  generalize allS n L gen = l at *
  clear h hA hgd
  go_enter Try.func24, Try.ntmps24
  go_wp2_with (go_at_call 16; refine AL.mono ?_; rintro e w1 ⟨v, rfl, S, hw⟩; rw [hw]; clear hw AL; obtain ⟨ga, ca, hv, hcs⟩ := sl_form S; subst hv; have HCS := Hid.mk hcs; clear S hcs)
  obtain ⟨m, hm⟩ : ∃ m, l.length = m := ⟨_, rfl⟩
  have HM := Hid.mk hm
  rw [hm] at hlen ⊢
  clear hm
  go_loop [8] (fun i => ∃ k : Nat, k ≤ m ∧ i = .int .i64 (k : Int) ∧ Hid (at' ∉ l.take k)) (fun i => m - (RowKit.intOf i).toNat)
  case atStart => exact ⟨0, Nat.zero_le _, rfl, ⟨by simp⟩⟩
  case round =>
    obtain ⟨k, hk, rfl, HA⟩ := hrel
    by_cases hlt : k < m
    · obtain ⟨g, rfl, ck⟩ := HCS.out k (by rw [HM.out]; exact hlt)
      have hlt' : (k : Int) < m := by omega
      have hl : k < l.length := by rw [HM.out]; exact hlt
      have hz0 : l.getD k 0 = l[k] := by simp [List.getD_eq_getElem?_getD, List.getElem?_eq_getElem hl]
      have HT : Hid (at' ∈ l.take (k + 1) ↔ at' = l[k]) := ⟨by
        rw [List.take_succ_eq_append_getElem hl, List.mem_append, List.mem_singleton]
        exact ⟨fun q => q.resolve_left HA.out, .inr⟩⟩
      have HZ : Hid (l[k] ∈ l) := ⟨List.getElem_mem hl⟩
      rw [hz0] at ck
      obtain ⟨z, hz⟩ : ∃ z, l[k] = z := ⟨_, rfl⟩
      rw [hz] at ck HT HZ
      clear hz hz0 hl
      by_cases hzn : z = at'
      · subst hzn
        have HQ : Hid (decide (z ∈ l) = true) := ⟨by simpa using HZ.out⟩
        go_wp2
        go_ret
        exact ⟨by rw [HQ.out]; rfl, rfl⟩
      · have HT2 : Hid (at' ∉ l.take (k + 1)) := ⟨fun q => hzn (HT.out.1 q).symm⟩
        have zb : (z == at') = false := by simpa using hzn
        go_wp2
        go_round
        case rel => exact ⟨k + 1, by omega, by go_num, HT2⟩
        case measure => simp [RowKit.intOf]; omega
    · obtain rfl : k = m := by omega
      have HQ : Hid (decide (at' ∈ l) = false) := ⟨by
        have := HA.out
        rw [List.take_of_length_le (by rw [HM.out]; exact Nat.le_refl _)] at this
        simpa using this⟩
      go_wp2
      go_ret
      exact ⟨by rw [HQ.out]; rfl, rfl⟩
theorem rlen_any {lo : Nat} {w : World} {x ob n : Nat} {V : Nat → Value} {L : Nat → List Int} (h : Rs lo w x ob n V L) :
    Calls Try.prog 13 #[pv x] w fun e w' => e = .returned (.int .i64 (lenS L n : Int)) ∧ w' = w := by
  have c0 := h.c0
  have HH := Hid.mk h
  have hn := h.le
  clear h
  go_enter Try.func13, Try.ntmps13
  go_wp2
  go_loop [4, 3] (fun i z => ∃ k : Nat, k ≤ n ∧ i = .int .i64 k ∧ z = .int .i64 (lenS L k : Int)) (fun i _ => n - (RowKit.intOf i).toNat)
  case atStart => exact ⟨0, Nat.zero_le _, rfl, rfl⟩
  case round =>
    obtain ⟨k, hk, rfl, rfl⟩ := hrel
    by_cases hlt : k < n
    · have hlt' : (k : Int) < n := by omega
      have c1 := HH.out.c1 k hlt
      obtain ⟨ga, ca, hv, _⟩ := sl_form (HH.out.rows k hlt)
      rw [hv] at c1
      have b1 := lenS_le (L := L) (n := k + 1) (fun i hi => HH.out.gd i (by omega))
      simp only [lenS] at b1
      have HE : Hid (((lenS L k : Nat) : Int) + ((L k).length : Int) = ((lenS L (k + 1) : Nat) : Int)) := ⟨by simp [lenS]⟩
      obtain ⟨a, ha⟩ : ∃ a, lenS L k = a := ⟨_, rfl⟩
      obtain ⟨b, hb⟩ : ∃ b, (L k).length = b := ⟨_, rfl⟩
      rw [ha, hb] at b1 HE
      rw [hb] at c1
      rw [ha]
      clear ha hb hv
      go_wp2
      go_round
      case rel => exact ⟨k + 1, by omega, by go_num, by rw [← HE.out]⟩
      case measure => simp [RowKit.intOf]; omega
    · obtain rfl : n = k := by omega
      go_wp2
      go_ret
      exact ⟨rfl, rfl⟩
theorem rtake_any {lo : Nat} {w : World} {x ob n : Nat} {V : Nat → Value} {L : Nat → List Int} (h : Rs lo w x ob n V L) (gen : Int) :
    Calls Try.prog 23 #[pv x, .int .i64 gen] w fun e w' => ∃ v V', e = .returned v ∧ Sl w' v (allS n L gen) ∧ Rs lo w' x ob n V' (takeS n L gen) ∧ Kp XR lo w w' := by
  have AL := rall_any h gen
  have hgd := allS_gd h.gd gen
  have hlen := hgd.len
  by_cases h0 : 0 < (allS n L gen).length
  · cases hg : isl n gen with
    | false => simp [allS, hg] at h0
    | true =>
      obtain ⟨q0, q1⟩ := isl_yes hg
      obtain ⟨i, rfl⟩ : ∃ i : Nat, gen = i := ⟨gen.toNat, by omega⟩
      have hin : i < n := by omega
      have c0 := h.c0
      have c1 := h.c1 i hin
      have z1 := h.z i
      have HH := Hid.mk h
      have e1 : takeS n L (i : Int) = upd L i [] := by simp [takeS, hg]
      rw [e1]
      generalize allS n L (i : Int) = l at *
      obtain ⟨q, hq⟩ : ∃ q, l.length = q := ⟨_, rfl⟩
      rw [hq] at h0 hlen
      clear h hg e1 hgd
      go_enter Try.func23, Try.ntmps23
      go_wp2_with (go_at_call 16; refine AL.mono ?_; rintro e w1 ⟨v, rfl, S, hw⟩; rw [hw]; clear hw AL; obtain ⟨ga, ca, hv, hcs⟩ := sl_form S; rw [hq] at hv; subst hv; have HS := Hid.mk S; clear S hcs)
      go_ret
      have SW := HH.out.swap hin (Below.refl _ _) (sl_nil w) gd_nil
      exact ⟨_, _, rfl, HS.out.kp (SW.2) (fun cur => notXR _ _ _ (by decide)), SW.1, SW.2⟩
  · have hl : allS n L gen = [] := List.eq_nil_of_length_eq_zero (by omega)
    have HT : Hid (∃ V', Rs lo w x ob n V' (takeS n L gen)) := ⟨by
      unfold takeS
      cases hg : isl n gen with
      | false => rw [if_neg (by decide)]; exact ⟨V, h⟩
      | true =>
        obtain ⟨q0, q1⟩ := isl_yes hg
        rw [if_pos rfl]
        have e : L gen.toNat = [] := by simpa [allS, hg] using hl
        rw [← e, upd_self]
        exact ⟨V, h⟩⟩
    rw [hl] at AL ⊢
    clear h hl hgd hlen h0
    go_enter Try.func23, Try.ntmps23
    go_wp2_with (go_at_call 16; refine AL.mono ?_; rintro e w1 ⟨v, rfl, S, hw⟩; rw [hw]; clear hw AL; obtain ⟨ga, ca, hv, hcs⟩ := sl_form S; subst hv; have HS := Hid.mk S; clear S hcs)
    go_ret
    obtain ⟨V', hV⟩ := HT.out
    exact ⟨_, V', rfl, HS.out, hV, Kp.refl _ _ _⟩
end Go.Proofs.Ytfenbjkkljggiaa
