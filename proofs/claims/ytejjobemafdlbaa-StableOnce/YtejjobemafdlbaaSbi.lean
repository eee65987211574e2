/- Package stable: Map, for whatever function that tells F. -/
import Derived.Test.YtejjobemafdlbaaSbh
namespace Go.Proofs.Ytejjobemafdlbaa
open Go.RowKit
set_option linter.unusedVariables false
set_option linter.unusedSimpArgs false

/-- the first k are turned -/
def part (F : Int → Int) (A : Nat → Int) (k i : Nat) : Int := if i < k then mpA F A i else A i
theorem part_none (F : Int → Int) (A : Nat → Int) : part F A 0 = A := by funext i; simp [part]
theorem part_at (F : Int → Int) (A : Nat → Int) (k : Nat) : part F A k k = A k := by simp [part]
theorem part_skip {F : Int → Int} {A : Nat → Int} {k : Nat} (h : A k = 0) : part F A (k + 1) = part F A k := by
  funext i
  unfold part
  by_cases e : i = k
  · subst e
    simp [mpA, h]
  · by_cases q : i < k
    · rw [if_pos (by omega), if_pos q]
    · rw [if_neg (by omega), if_neg q]
theorem part_more {F : Int → Int} {A : Nat → Int} {k : Nat} (h : A k ≠ 0) : part F A (k + 1) = upd (part F A k) k (trn F (A k)) := by
  funext i
  show (if i < k + 1 then mpA F A i else A i) = if i = k then trn F (A k) else if i < k then mpA F A i else A i
  by_cases e : i = k
  · subst e
    simp [mpA, h]
  · rw [if_neg e]
    by_cases q : i < k
    · rw [if_pos (by omega), if_pos q]
    · rw [if_neg (by omega), if_neg q]
theorem part_all (F : Int → Int) (A : Nat → Int) (n i : Nat) (h : i < n) : part F A n i = mpA F A i := by simp [part, h]
theorem okt_part {n : Nat} {b : Int} {A T : Nat → Int} (h : Okt n b A T) (F : Int → Int) (k : Nat) : Okt n b (part F A k) T := by
  intro i hi
  have q1 := h i hi
  have q2 := h.map F i hi
  unfold part
  split <;> assumption
theorem below_drew (w : World) : Below w.heap.size w w.drew := ⟨rfl, rfl, rfl, Nat.le_refl _, fun _ _ => rfl⟩
theorem mpA_zero (F : Int → Int) (A : Nat → Int) (i : Nat) : mpA F A i = 0 ↔ A i = 0 := by
  unfold mpA
  split
  · rename_i h; simp [h]
  · rename_i h
    unfold trn
    split
    · rename_i h2; have := isA_iff.1 h2; constructor <;> intro e <;> omega
    · constructor <;> intro e <;> exact e
theorem map_nil (w : World) (f : Value) : Calls Try.prog 17 #[.pointer none, f] w fun e w' => e = .returned (.tuple #[]) ∧ w' = w := by
  go_enter_defers Try.func17, Try.ntmps17
  go_wp2
  exact ⟨_, results_none rfl _ _ _, rfl, rfl⟩
theorem map_none (w : World) (s : Nat) : Calls Try.prog 17 #[pv s, .nilFunc] w fun e w' => e = .returned (.tuple #[]) ∧ w' = w := by
  have he : ∀ w : World, (binOp .eql 39 .nilFunc .nilFunc).run Try.prog w = .ok (.bool true) w := fun _ => rfl
  go_enter_defers Try.func17, Try.ntmps17
  go_wp2
  exact ⟨_, results_none rfl _ _ _, rfl, rfl⟩
theorem upd_self (T : Nat → Int) (k : Nat) : upd T k (T k) = T := by funext i; unfold upd; split; · rename_i e; rw [e]
                                                                     · rfl
set_option maxRecDepth 100000 in
set_option maxHeartbeats 8000000 in
theorem map_any {lo : Nat} {w : World} {s sb n : Nat} {b : Int} {A T : Nat → Int} (h : Tb lo w s sb n b A T) (q y : Nat) (F : Int → Int)
    (TU : ∀ (W : World) (a : Int), W.cell? ⟨y, 0, none⟩ = w.cell? ⟨y, 0, none⟩ → 0 ≤ a ∧ a ≤ 524288 → Calls Try.prog 35 #[.int .i64 a, .func (.func q) #[] #[pv y]] W fun e w' => e = .returned (.int .i64 (trn F a)) ∧ w' = W)
    (hy : y < w.heap.size) :
    Calls Try.prog 17 #[pv s, .func (.func q) #[] #[pv y]] w fun e w' => e = .returned (.tuple #[]) ∧ Tb lo w' s sb n b (mpA F A) T ∧ Kx sb sb w w' := by
  have c := h.c
  have le := h.le
  have CL := clone_any (w := w) (sb := sb) (n := n) (A := A) (T := T) h.row le
  have HH := Hid.mk h
  have he : ∀ w : World, (binOp .eql 39 (.func (.func q) #[] #[pv y]) .nilFunc).run Try.prog w = .ok (.bool false) w := fun _ => rfl
  have HTU := Hid.mk TU
  clear h TU
  go_enter_defers Try.func17, Try.ntmps17
  go_wp2_with (go_at_call 34; refine CL.mono ?_; clear CL; rintro e w1 ⟨g, cap, rfl, hcap, hg, R1, B1⟩; have HR1 := Hid.mk R1; have HB1 := Hid.mk B1; clear R1 B1)
  have HR0 : Hid (Rw w1 g n (part F A 0) T) := ⟨by rw [part_none]; exact HR1.out⟩
  clear HR1
  go_loopw [22] (fun i wr => ∃ k : Nat, i = .int .i64 k ∧ k ≤ n ∧ Hid (Rw wr g n (part F A k) T) ∧ Hid (Below w.heap.size w wr)) (fun i _ => n - (intOf i).toNat)
  case atStart => exact ⟨0, rfl, Nat.zero_le _, HR0, HB1⟩
  case round =>
    obtain ⟨k, rfl, hk, HR, HB⟩ := hrel
    by_cases hlt : k < n
    · have hlt' : (k : Int) < n := by omega
      have c0 := HR.out.c0 k hlt
      rw [part_at] at c0
      have c1 := HR.out.c1 k hlt
      have ok := HH.out.ok k hlt
      have FR := fun W : World => free_any W (A k) (T k)
      have hs := HB.out.size
      have gl := HR.out.lt
      obtain ⟨z, hz⟩ : ∃ z, A k = z := ⟨_, rfl⟩
      rw [hz] at c0 FR ok
      have HZ := Hid.mk hz
      clear hz
      cases he0 : (z == 0) with
      | true =>
        rw [he0] at FR
        have HN : Hid (part F A (k + 1) = part F A k) := ⟨part_skip (by rw [HZ.out]; simpa using he0)⟩
        clear he0
        go_wp2_with (go_at_call 29; refine (FR _).mono ?_; clear FR; rintro e w2 ⟨rfl, B2⟩; have HB2 : Hid (Below wr.heap.size wr w2) := ⟨((Below.refl _ wr).alloc (Nat.le_refl _) _).trans (B2.mono (by simp))⟩; clear B2)
        refine ⟨⟨k + 1, by go_num, by omega, ⟨by rw [HN.out]; exact HR.out.later HB2.out⟩, ⟨HB.out.trans (HB2.out.mono hs)⟩⟩, by simp [intOf]; omega⟩
      | false =>
        rw [he0] at FR
        have HN : Hid (part F A (k + 1) = upd (part F A k) k (trn F z)) := ⟨by rw [← HZ.out]; exact part_more (by rw [HZ.out]; simpa using he0)⟩
        clear he0
        go_wp2_with (first
          | (go_at_call 29; refine (FR _).mono ?_; clear FR; rintro e w2 ⟨rfl, B2⟩; have d0 : w2.cell? ⟨wr.heap.size, 0, none⟩ = some (.int .i64 z) := (by rw [Joins.cell_of_block ((B2.block _ (by simp)).trans (heap_alloc_new _ _))]; rfl); have HB2 : Hid (Below wr.heap.size wr w2) := ⟨((Below.refl _ wr).alloc (Nat.le_refl _) _).trans (B2.mono (by simp))⟩; have T2 := HTU.out w2 z ((HB2.out.cell (p := ⟨y, 0, none⟩) (by show y < wr.heap.size; omega)).trans (HB.out.cell (p := ⟨y, 0, none⟩) hy)) ⟨ok.1, ok.2.1⟩; have R2 := HR.out.later HB2.out; have e0 := R2.c0 k hlt; have e1 := R2.z (k * 2); have HR2 := Hid.mk R2; clear B2 R2)
          | (go_at_call 35; refine T2.mono ?_; clear T2; rintro e w3 ⟨rfl, hw⟩; rw [hw]; clear hw))
        refine ⟨⟨k + 1, by go_num, by omega, ⟨by rw [HN.out]; exact HR2.out.setA hlt _⟩, ⟨(HB.out.trans (HB2.out.mono hs)).setCell hg _⟩⟩, by simp [intOf]; omega⟩
    · obtain rfl : k = n := by omega
      have HRa : Hid (Rw wr g k (mpA F A) T) := ⟨HR.out.congr (fun i hi => (part_all F A k i hi).symm)⟩
      have gl : g < wr.heap.size := HR.out.lt
      have HT0 : Hid (Tb lo wr s sb k b (part F A 0) T) := ⟨by
        rw [part_none]
        have t := HH.out.lt
        obtain ⟨cur, r1, r2⟩ := HH.out.row
        exact ⟨(HB.out.block s t.1).trans HH.out.box, ⟨cur, (HB.out.block sb t.2).trans r1, r2⟩, HH.out.ok, HH.out.le, HH.out.lo⟩⟩
      have HK0 : Hid (Kx sb sb w wr) := ⟨Kx.later _ _ HB.out⟩
      have hgs : g ≠ sb := by have := HH.out.lt.2; omega
      obtain ⟨wc, hwc⟩ : ∃ x, x = wr := ⟨_, rfl⟩
      rw [← hwc] at HRa HT0 HK0 gl
      rw [← hwc]
      clear HR HB HR0 HB1 hwc c
      go_wp2
      go_loopw [41] (fun i wr => ∃ j : Nat, i = .int .i64 j ∧ j ≤ k ∧ Hid (Rw wr g k (mpA F A) T) ∧ Hid (Tb lo wr s sb k b (part F A j) T) ∧ Hid (Kx sb sb w wr)) (fun i _ => k - (intOf i).toNat)
      case atStart => exact ⟨0, rfl, Nat.zero_le _, HRa, HT0, HK0⟩
      case round =>
        obtain ⟨j, rfl, hj, HR, HT, HK⟩ := hrel
        by_cases hlt : j < k
        · have hlt' : (j : Int) < k := by omega
          have c0 := HR.out.c0 j hlt
          have c1 := HR.out.c1 j hlt
          have tc := HT.out.c
          have t1 := HT.out.c1 j hlt
          have tl := HT.out.lt
          have FR := fun W : World => free_any W (mpA F A j) (T j)
          obtain ⟨z, hz⟩ : ∃ z, mpA F A j = z := ⟨_, rfl⟩
          rw [hz] at c0 FR
          have HZ := Hid.mk hz
          clear hz
          cases he0 : (z == 0) with
          | true =>
            rw [he0] at FR
            have HN : Hid (part F A (j + 1) = part F A j) := ⟨part_skip ((mpA_zero F A j).1 (by rw [HZ.out]; simpa using he0))⟩
            clear he0
            go_wp2
            refine wp_region_noPanic ?_
            refine wp_region_held_drew (S := (fun W' => W'.cell? ⟨wr.heap.size, 0, none⟩ = some (.int .i64 z) ∧ W'.cell? ⟨wr.heap.size, 1, none⟩ = some (.int .i64 (T j)) ∧ W'.cell? ⟨s, 0, none⟩ = some (.slice (some ⟨sb, 0, none⟩) k k) ∧ W'.cell? ⟨sb, j * 2 + 1, none⟩ = some (.int .i64 (T j)))) (by kernel_rfl) ?_ (fun hHeld => ?_)
            · try dsimp only
              go_keep
            refine wpAnyH_take (i := 0) (v := ?_) rfl (by kernel_rfl) (by kernel_rfl) (by kernel_rfl) (fun _ _ _ h => h) (Or.inl ⟨by rfl, ?_⟩) (by assumption) ?_
            rotate_left
            · intro w' hSw
              try dsimp only at hSw
              go_simp
              try with_reducible rfl
            try simp only [Act.put, List.getElem_toArray, List.getElem_cons_zero, List.getElem_cons_succ, List.setIfInBounds_toArray, List.set_cons_zero, List.set_cons_succ]
            refine wpAnyH_ready (rs := [1]) (by kernel_rfl) (by simp) ?_
            refine AllReadyH.cons rfl (fun K hK => ?_) AllReadyH.nil
            go_simp
            (go_at_call 29; refine (FR _).mono ?_; rintro e w2 ⟨rfl, B2⟩; have HB2 : Hid (Below wr.heap.size wr w2) := ⟨((Below.refl _ wr).alloc (Nat.le_refl _) _).drew.trans (B2.mono (by simp))⟩; have m0 : w2.cell? ⟨wr.heap.size, 0, none⟩ = some (.int .i64 z) := (by rw [Joins.cell_of_block ((B2.block _ (by simp)).trans (heap_alloc_new _ _))]; rfl); have m1 : w2.cell? ⟨wr.heap.size, 1, none⟩ = some (.int .i64 (T j)) := (by rw [Joins.cell_of_block ((B2.block _ (by simp)).trans (heap_alloc_new _ _))]; rfl); have T2 := HT.out.later HB2.out; have m2 := T2.c; have m3 := T2.c1 j hlt; have HT2 := Hid.mk T2; clear B2 T2)
            try go_wp2_with fail
            refine hK.out _ _ ?_ (fun hHeld => ?_)
            · try dsimp only
              go_keep
            clear hK K
            try simp only [Act.put, List.getElem_toArray, List.getElem_cons_zero, List.getElem_cons_succ, List.setIfInBounds_toArray, List.set_cons_zero, List.set_cons_succ]
            refine wpAnyH_take (i := 2) (v := ?_) rfl (by kernel_rfl) (by kernel_rfl) (by kernel_rfl) (fun _ _ _ h => h) (Or.inl ⟨by rfl, ?_⟩) (by assumption) ?_
            rotate_left
            · intro w' hSw
              try dsimp only at hSw
              go_simp
              try with_reducible rfl
            try simp only [Act.put, List.getElem_toArray, List.getElem_cons_zero, List.getElem_cons_succ, List.setIfInBounds_toArray, List.set_cons_zero, List.set_cons_succ]
            refine wpAnyH_take (i := 3) (v := ?_) rfl (by kernel_rfl) (by kernel_rfl) (by kernel_rfl) (fun _ _ _ h => h) (Or.inl ⟨by rfl, ?_⟩) (by assumption) ?_
            rotate_left
            · intro w' hSw
              try dsimp only at hSw
              go_simp
              try with_reducible rfl
            try simp only [Act.put, List.getElem_toArray, List.getElem_cons_zero, List.getElem_cons_succ, List.setIfInBounds_toArray, List.set_cons_zero, List.set_cons_succ]
            refine wpAnyH_take (i := 4) (v := undef) rfl (by kernel_rfl) (by kernel_rfl) (by kernel_rfl) (fun _ _ _ h => h) (Or.inr ⟨by rfl, rfl⟩) (by assumption) ?_
            try simp only [Act.put, List.getElem_toArray, List.getElem_cons_zero, List.getElem_cons_succ, List.setIfInBounds_toArray, List.set_cons_zero, List.set_cons_succ]
            refine wpAnyH_take (i := 5) (v := undef) rfl (by kernel_rfl) (by kernel_rfl) (by kernel_rfl) (fun _ _ _ h => h) (Or.inr ⟨by rfl, rfl⟩) (by assumption) ?_
            try simp only [Act.put, List.getElem_toArray, List.getElem_cons_zero, List.getElem_cons_succ, List.setIfInBounds_toArray, List.set_cons_zero, List.set_cons_succ]
            refine wpAnyH_take (i := 6) (v := undef) rfl (by kernel_rfl) (by kernel_rfl) (by kernel_rfl) (fun _ _ _ h => h) (Or.inr ⟨by rfl, rfl⟩) (by assumption) ?_
            try simp only [Act.put, List.getElem_toArray, List.getElem_cons_zero, List.getElem_cons_succ, List.setIfInBounds_toArray, List.set_cons_zero, List.set_cons_succ]
            refine wpAnyH_take (i := 7) (v := undef) rfl (by kernel_rfl) (by kernel_rfl) (by kernel_rfl) (fun _ _ _ h => h) (Or.inr ⟨by rfl, rfl⟩) (by assumption) ?_
            try simp only [Act.put, List.getElem_toArray, List.getElem_cons_zero, List.getElem_cons_succ, List.setIfInBounds_toArray, List.set_cons_zero, List.set_cons_succ]
            refine wpAnyH_take (i := 8) (v := undef) rfl (by kernel_rfl) (by kernel_rfl) (by kernel_rfl) (fun _ _ _ h => h) (Or.inr ⟨by rfl, rfl⟩) (by assumption) ?_
            try simp only [Act.put, List.getElem_toArray, List.getElem_cons_zero, List.getElem_cons_succ, List.setIfInBounds_toArray, List.set_cons_zero, List.set_cons_succ]
            refine wpAnyH_take (i := 9) (v := undef) rfl (by kernel_rfl) (by kernel_rfl) (by kernel_rfl) (fun _ _ _ h => h) (Or.inr ⟨by rfl, rfl⟩) (by assumption) ?_
            try simp only [Act.put, List.getElem_toArray, List.getElem_cons_zero, List.getElem_cons_succ, List.setIfInBounds_toArray, List.set_cons_zero, List.set_cons_succ]
            refine wpAnyH_take (i := 10) (v := undef) rfl (by kernel_rfl) (by kernel_rfl) (by kernel_rfl) (fun _ _ _ h => h) (Or.inr ⟨by rfl, rfl⟩) (by assumption) ?_
            try simp only [Act.put, List.getElem_toArray, List.getElem_cons_zero, List.getElem_cons_succ, List.setIfInBounds_toArray, List.set_cons_zero, List.set_cons_succ]
            refine wpAnyH_take (i := 11) (v := undef) rfl (by kernel_rfl) (by kernel_rfl) (by kernel_rfl) (fun _ _ _ h => h) (Or.inr ⟨by rfl, rfl⟩) (by assumption) ?_
            try simp only [Act.put, List.getElem_toArray, List.getElem_cons_zero, List.getElem_cons_succ, List.setIfInBounds_toArray, List.set_cons_zero, List.set_cons_succ]
            refine wpAnyH_take (i := 12) (v := undef) rfl (by kernel_rfl) (by kernel_rfl) (by kernel_rfl) (fun _ _ _ h => h) (Or.inr ⟨by rfl, rfl⟩) (by assumption) ?_
            try simp only [Act.put, List.getElem_toArray, List.getElem_cons_zero, List.getElem_cons_succ, List.setIfInBounds_toArray, List.set_cons_zero, List.set_cons_succ]
            refine wpAnyH_take (i := 13) (v := undef) rfl (by kernel_rfl) (by kernel_rfl) (by kernel_rfl) (fun _ _ _ h => h) (Or.inr ⟨by rfl, rfl⟩) (by assumption) ?_
            try simp only [Act.put, List.getElem_toArray, List.getElem_cons_zero, List.getElem_cons_succ, List.setIfInBounds_toArray, List.set_cons_zero, List.set_cons_succ]
            refine wpAnyH_take (i := 14) (v := undef) rfl (by kernel_rfl) (by kernel_rfl) (by kernel_rfl) (fun _ _ _ h => h) (Or.inr ⟨by rfl, rfl⟩) (by assumption) ?_
            try simp only [Act.put, List.getElem_toArray, List.getElem_cons_zero, List.getElem_cons_succ, List.setIfInBounds_toArray, List.set_cons_zero, List.set_cons_succ]
            refine wpAnyH_take (i := 15) (v := ?_) rfl (by kernel_rfl) (by kernel_rfl) (by kernel_rfl) (fun _ _ _ h => h) (Or.inl ⟨by rfl, ?_⟩) (by assumption) ?_
            rotate_left
            · intro w' hSw
              try dsimp only at hSw
              go_simp
              try with_reducible rfl
            try simp only [Act.put, List.getElem_toArray, List.getElem_cons_zero, List.getElem_cons_succ, List.setIfInBounds_toArray, List.set_cons_zero, List.set_cons_succ]
            refine wpAnyH_done (by kernel_rfl) ?_ _
            refine NoPanic.normal ?_
            go_wp2
            refine ⟨⟨j + 1, by go_num, by omega, ⟨HR.out.later HB2.out⟩, ⟨by rw [HN.out]; exact HT2.out⟩, ⟨HK.out.trans (Kx.later _ _ HB2.out)⟩⟩, by simp [intOf]; omega⟩
          | false =>
            rw [he0] at FR
            have hA0 : A j ≠ 0 := fun e => by have := (mpA_zero F A j).2 e; rw [HZ.out] at this; simp [this] at he0
            have HN : Hid (part F A (j + 1) = upd (part F A j) j z) := ⟨by rw [part_more hA0, ← HZ.out]; simp [mpA, hA0]⟩
            have HO : Hid (Okt k b (part F A (j + 1)) T) := ⟨okt_part HH.out.ok F (j + 1)⟩
            clear he0 hA0
            go_wp2
            go_region_held3 (fun W' => W'.cell? ⟨wr.heap.size, 0, none⟩ = some (.int .i64 z) ∧ W'.cell? ⟨wr.heap.size, 1, none⟩ = some (.int .i64 (T j)) ∧ W'.cell? ⟨s, 0, none⟩ = some (.slice (some ⟨sb, 0, none⟩) k k) ∧ W'.cell? ⟨sb, j * 2 + 1, none⟩ = some (.int .i64 (T j))) (go_keep) (first | (go_at_call 29; refine (FR _).mono ?_; rintro e w2 ⟨rfl, B2⟩; have HB2 : Hid (Below wr.heap.size wr w2) := ⟨((Below.refl _ wr).alloc (Nat.le_refl _) _).drew.trans (B2.mono (by simp))⟩; have m0 : w2.cell? ⟨wr.heap.size, 0, none⟩ = some (.int .i64 z) := (by rw [Joins.cell_of_block ((B2.block _ (by simp)).trans (heap_alloc_new _ _))]; rfl); have m1 : w2.cell? ⟨wr.heap.size, 1, none⟩ = some (.int .i64 (T j)) := (by rw [Joins.cell_of_block ((B2.block _ (by simp)).trans (heap_alloc_new _ _))]; rfl); have T2 := HT.out.later HB2.out; have m2 := T2.c; have m3 := T2.c1 j hlt; have m4 := T2.c0 j hlt; have z4 := T2.z (j * 2); have z5 := T2.z (j * 2 + 1); have HT2 := Hid.mk T2; clear B2 T2))
            have n1 : ¬ s = sb := HT2.out.ne
            have n2 : ¬ sb = s := fun e => HT2.out.ne e.symm
            have n3 : ¬ wr.heap.size = sb := by omega
            have n4 : ¬ sb = wr.heap.size := by omega
            go_wp2
            go_region_held3 (fun W' => W'.cell? ⟨wr.heap.size, 0, none⟩ = some (.int .i64 z) ∧ W'.cell? ⟨wr.heap.size, 1, none⟩ = some (.int .i64 (T j)) ∧ W'.cell? ⟨s, 0, none⟩ = some (.slice (some ⟨sb, 0, none⟩) k k)) (go_keep) (fail)
            go_wp2
            have T5 := (HT2.out.setA hlt z b (by rw [← HN.out]; exact HO.out)).setT hlt (T j) b (by rw [upd_self, ← HN.out]; exact HO.out)
            rw [upd_self, ← HN.out] at T5
            have K5 : Kx sb sb w2 ((w2.setCell ⟨sb, j * 2, none⟩ (.int .i64 z)).setCell ⟨sb, j * 2 + 1, none⟩ (.int .i64 (T j))) := (Kx.set _ _ _ (.inl rfl)).trans (Kx.set _ _ _ (.inl rfl))
            have R5 := (HR.out.later HB2.out).block (K5.block g (Nat.lt_of_lt_of_le HR.out.lt HB2.out.size) hgs hgs)
            refine ⟨⟨j + 1, by go_num, by omega, ⟨R5⟩, ⟨T5.later (below_drew _)⟩, ⟨((HK.out.trans (Kx.later _ _ HB2.out)).trans K5).trans (Kx.later _ _ (below_drew _))⟩⟩, by simp [intOf]; omega⟩
        · obtain rfl : j = k := by omega
          have AI := after_idle wr
          go_wp2
          refine leaves_cons (f := 33) (args := #[]) (by simp) (by simp [go_sem]) ?_
          refine AI.mono ?_
          rintro e u' w9 ⟨rfl, rfl, hw⟩
          rw [hw]
          refine ⟨_, results_none rfl _ _ _, rfl, ?_, HK.out⟩
          have t := HT.out
          obtain ⟨cur, r1, r2⟩ := t.row
          exact ⟨t.box, ⟨cur, r1, fun i hi => by rw [← part_all F A j i hi]; exact r2 i hi⟩, HH.out.ok.map F, t.le, t.lo⟩
end Go.Proofs.Ytejjobemafdlbaa
