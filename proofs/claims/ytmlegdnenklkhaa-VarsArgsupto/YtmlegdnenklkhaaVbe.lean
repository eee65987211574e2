/- What is laid for a form: both sides. -/
import Derived.Test.YtmlegdnenklkhaaVbc
namespace Go.Proofs.Ytmlegdnenklkhaa
open Go.RowKit
set_option linter.unusedVariables false
set_option linter.unusedSimpArgs false

/-- what is laid for a form -/
def classI (la : Nat) (k : Int) (p : Bool) : Int := if 0 < la then 3 else if k = 2 then 1 else if k = 4 then 2 else if p = true then 7 else 6
section
variable {w : World} (ga : Option Addr) (la ca : Nat) (k a xm : Int) (s : ByteArray) (g4 g5 g6 g7 : Option Addr) (n4 n5 n6 n7 c4 c5 c6 c7 : Nat) (kk : Int) (ks : ByteArray) (kl : Nat) (ak : Int) (an : ByteArray) (vs : List Nm) (bk : Int) (bs : Nm) (bl : Nat)
set_option maxRecDepth 100000 in
set_option maxHeartbeats 8000000 in
theorem class_any (HK : 0 < n6 → KidAt w g6 kk ks kl) (HA : 0 < n7 → AltAt w g7 ak an vs bk (str bs) bl) (h6 : n6 ≤ c6) (h7 : n7 ≤ c7) :
    Calls Try.prog 9 #[.agg (frm9 ga la ca k a xm s g4 g5 g6 g7 n4 n5 n6 n7 c4 c5 c6 c7)] w fun e w' => e = .returned (.int .i64 (classI la k (picks la k n6 n7 kk kl ak vs bk bs bl))) ∧ Below w.heap.size w w' := by
  have K1 : Below w.heap.size w (w.alloc (.cells (frm9 ga la ca k a xm s g4 g5 g6 g7 n4 n5 n6 n7 c4 c5 c6 c7) 30)) := Joins.below_alloc1 w _
  have HK1 := Hid.mk K1
  have X1 : Bx (w.alloc (.cells (frm9 ga la ca k a xm s g4 g5 g6 g7 n4 n5 n6 n7 c4 c5 c6 c7) 30)) w.heap.size (frm9 ga la ca k a xm s g4 g5 g6 g7 n4 n5 n6 n7 c4 c5 c6 c7) 30 := heap_alloc_new w _
  by_cases q1 : la = 0
  · subst q1
    cases q2 : (k == 2)
    · have e2 : k ≠ 2 := beq_eq_false_iff_ne.1 q2
      cases q4 : (k == 4)
      · have e4 : k ≠ 4 := beq_eq_false_iff_ne.1 q4
        have C := field_any (w := (w.alloc (.cells (frm9 ga 0 ca k a xm s g4 g5 g6 g7 n4 n5 n6 n7 c4 c5 c6 c7) 30))) ga 0 ca k a xm s g4 g5 g6 g7 n4 n5 n6 n7 c4 c5 c6 c7 kk ks kl ak an vs bk bs bl (fun h => (HK h).later K1) (fun h => (HA h).later K1) h6 h7
        have ec : classI 0 k (picks 0 k n6 n7 kk kl ak vs bk bs bl) = if picks 0 k n6 n7 kk kl ak vs bk bs bl = true then 7 else 6 := by unfold classI; rw [if_neg (by omega), if_neg e2, if_neg e4]
        rw [ec]
        have HB := Hid.mk (fun (W : World) (b : Below (w.alloc (.cells (frm9 ga 0 ca k a xm s g4 g5 g6 g7 n4 n5 n6 n7 c4 c5 c6 c7) 30)).heap.size (w.alloc (.cells (frm9 ga 0 ca k a xm s g4 g5 g6 g7 n4 n5 n6 n7 c4 c5 c6 c7) 30)) W) => show Below w.heap.size w W from K1.trans (Joins.below_le b K1.size))
        have y0 := X1.cell 0
        have y1 := X1.cell 1
        have y2 := X1.cell 2
        have y3 := X1.cell 3
        have y4 := X1.cell 4
        have y5 := X1.cell 5
        have y6 := X1.cell 6
        have y7 := X1.cell 7
        have y8 := X1.cell 8
        generalize lastI bs vs = li at *
        cases pk : picks 0 k n6 n7 kk kl ak vs bk bs bl
        · rw [pk] at C
          rw [if_neg (by simp)]
          clear HK HA K1 X1 ec e2 e4 pk
          simp only [fldV, fldZ, if_neg (show ¬ (false = true) by simp)] at C
          go_enter Try.func9, Try.ntmps9
          go_wp2_with (go_at_call 6; refine C.mono ?_; rintro e w9 ⟨rfl, B9⟩; have HB9 := Hid.mk (HB.out _ B9); clear B9)
          go_ret
          exact ⟨rfl, HB9.out⟩
        · rw [pk] at C
          rw [if_pos rfl]
          clear HK HA K1 X1 ec e2 e4 pk
          simp only [fldV, fldT, if_true] at C
          go_enter Try.func9, Try.ntmps9
          go_wp2_with (go_at_call 6; refine C.mono ?_; rintro e w9 ⟨rfl, B9⟩; have HB9 := Hid.mk (HB.out _ B9); clear B9)
          go_ret
          exact ⟨rfl, HB9.out⟩
      · have e4 : k = 4 := by simpa using q4
        rw [show classI 0 k (picks 0 k n6 n7 kk kl ak vs bk bs bl) = 2 by unfold classI; rw [if_neg (by omega), if_neg (by omega), if_pos e4]]
        clear HK HA K1 X1 e4 e2
        go_enter Try.func9, Try.ntmps9
        go_wp2
        go_ret
        exact ⟨rfl, HK1.out⟩
    · have e2 : k = 2 := by simpa using q2
      rw [show classI 0 k (picks 0 k n6 n7 kk kl ak vs bk bs bl) = 1 by unfold classI; rw [if_neg (by omega), if_pos e2]]
      clear HK HA K1 X1 e2
      go_enter Try.func9, Try.ntmps9
      go_wp2
      go_ret
      exact ⟨rfl, HK1.out⟩
  · have p1 : (0 : Int) < la := by omega
    rw [show classI la k (picks la k n6 n7 kk kl ak vs bk bs bl) = 3 by unfold classI; rw [if_pos (by omega)]]
    clear HK HA K1 X1 q1
    go_enter Try.func9, Try.ntmps9
    go_wp2
    go_ret
    exact ⟨rfl, HK1.out⟩
set_option maxRecDepth 100000 in
set_option maxHeartbeats 8000000 in
theorem rclass_any (HK : 0 < n6 → KidAt w g6 kk ks kl) (HA : 0 < n7 → AltAt w g7 ak an vs bk (str bs) bl) (h6 : n6 ≤ c6) (h7 : n7 ≤ c7) :
    Calls Try.prog 10 #[.agg (frm9 ga la ca k a xm s g4 g5 g6 g7 n4 n5 n6 n7 c4 c5 c6 c7)] w fun e w' => e = .returned (.int .i64 (classI la k (picks la k n6 n7 kk kl ak vs bk bs bl))) ∧ Below w.heap.size w w' := by
  have K1 : Below w.heap.size w (w.alloc (.cells (frm9 ga la ca k a xm s g4 g5 g6 g7 n4 n5 n6 n7 c4 c5 c6 c7) 30)) := Joins.below_alloc1 w _
  have HK1 := Hid.mk K1
  have X1 : Bx (w.alloc (.cells (frm9 ga la ca k a xm s g4 g5 g6 g7 n4 n5 n6 n7 c4 c5 c6 c7) 30)) w.heap.size (frm9 ga la ca k a xm s g4 g5 g6 g7 n4 n5 n6 n7 c4 c5 c6 c7) 30 := heap_alloc_new w _
  by_cases q1 : la = 0
  · subst q1
    cases q2 : (k == 2)
    · have e2 : k ≠ 2 := beq_eq_false_iff_ne.1 q2
      cases q4 : (k == 4)
      · have e4 : k ≠ 4 := beq_eq_false_iff_ne.1 q4
        have C := rfield_any (w := (w.alloc (.cells (frm9 ga 0 ca k a xm s g4 g5 g6 g7 n4 n5 n6 n7 c4 c5 c6 c7) 30))) ga 0 ca k a xm s g4 g5 g6 g7 n4 n5 n6 n7 c4 c5 c6 c7 kk ks kl ak an vs bk bs bl (fun h => (HK h).later K1) (fun h => (HA h).later K1) h6 h7
        have ec : classI 0 k (picks 0 k n6 n7 kk kl ak vs bk bs bl) = if picks 0 k n6 n7 kk kl ak vs bk bs bl = true then 7 else 6 := by unfold classI; rw [if_neg (by omega), if_neg e2, if_neg e4]
        rw [ec]
        have HB := Hid.mk (fun (W : World) (b : Below (w.alloc (.cells (frm9 ga 0 ca k a xm s g4 g5 g6 g7 n4 n5 n6 n7 c4 c5 c6 c7) 30)).heap.size (w.alloc (.cells (frm9 ga 0 ca k a xm s g4 g5 g6 g7 n4 n5 n6 n7 c4 c5 c6 c7) 30)) W) => show Below w.heap.size w W from K1.trans (Joins.below_le b K1.size))
        have y0 := X1.cell 0
        have y1 := X1.cell 1
        have y2 := X1.cell 2
        have y3 := X1.cell 3
        have y4 := X1.cell 4
        have y5 := X1.cell 5
        have y6 := X1.cell 6
        have y7 := X1.cell 7
        have y8 := X1.cell 8
        generalize lastI bs vs = li at *
        cases pk : picks 0 k n6 n7 kk kl ak vs bk bs bl
        · rw [pk] at C
          rw [if_neg (by simp)]
          clear HK HA K1 X1 ec e2 e4 pk
          simp only [fldV, fldZ, if_neg (show ¬ (false = true) by simp)] at C
          go_enter Try.func10, Try.ntmps10
          go_wp2_with (go_at_call 7; refine C.mono ?_; rintro e w9 ⟨rfl, B9⟩; have HB9 := Hid.mk (HB.out _ B9); clear B9)
          go_ret
          exact ⟨rfl, HB9.out⟩
        · rw [pk] at C
          rw [if_pos rfl]
          clear HK HA K1 X1 ec e2 e4 pk
          simp only [fldV, fldT, if_true] at C
          go_enter Try.func10, Try.ntmps10
          go_wp2_with (go_at_call 7; refine C.mono ?_; rintro e w9 ⟨rfl, B9⟩; have HB9 := Hid.mk (HB.out _ B9); clear B9)
          go_ret
          exact ⟨rfl, HB9.out⟩
      · have e4 : k = 4 := by simpa using q4
        rw [show classI 0 k (picks 0 k n6 n7 kk kl ak vs bk bs bl) = 2 by unfold classI; rw [if_neg (by omega), if_neg (by omega), if_pos e4]]
        clear HK HA K1 X1 e4 e2
        go_enter Try.func10, Try.ntmps10
        go_wp2
        go_ret
        exact ⟨rfl, HK1.out⟩
    · have e2 : k = 2 := by simpa using q2
      rw [show classI 0 k (picks 0 k n6 n7 kk kl ak vs bk bs bl) = 1 by unfold classI; rw [if_neg (by omega), if_pos e2]]
      clear HK HA K1 X1 e2
      go_enter Try.func10, Try.ntmps10
      go_wp2
      go_ret
      exact ⟨rfl, HK1.out⟩
  · have p1 : (0 : Int) < la := by omega
    rw [show classI la k (picks la k n6 n7 kk kl ak vs bk bs bl) = 3 by unfold classI; rw [if_pos (by omega)]]
    clear HK HA K1 X1 q1
    go_enter Try.func10, Try.ntmps10
    go_wp2
    go_ret
    exact ⟨rfl, HK1.out⟩
end
end Go.Proofs.Ytmlegdnenklkhaa

/- The document's lists of names: is a name there; are two lists the same. -/
namespace Go.Proofs.Ytmlegdnenklkhaa
open Go.RowKit
set_option linter.unusedVariables false
set_option linter.unusedSimpArgs false

set_option maxHeartbeats 1000000 in
theorem has15_any {w : World} {ok : Nat → Prop} (ls : List Nm) (v : Value) (R : IsRow w ok (strC ls) ls.length v) (s : Nm) :
    Calls Try.prog 15 #[v, .string (str s)] w fun e w' => e = .returned (.bool (ls.contains s)) ∧ w' = w := by
  obtain ⟨ga, cap, rfl, hc, hx⟩ := R
  obtain ⟨r, hr⟩ : ∃ r, ls.contains s = r := ⟨_, rfl⟩
  have HR : Hid ((ls.drop 0).contains s = r) := ⟨by rw [List.drop_zero]; exact hr⟩
  have HX : Hid (0 < ls.length → ∃ g off, ga = some ⟨g, off, none⟩ ∧ ok g ∧ ∀ (j : Nat) (u : Value), (strC ls)[j]? = some u → w.cell? ⟨g, off + j, none⟩ = some u) := ⟨hx⟩
  rw [hr]
  clear hr hx
  obtain ⟨n, hn⟩ : ∃ n, ls.length = n := ⟨_, rfl⟩
  have HN : Hid (ls.length = n) := ⟨hn⟩
  rw [hn] at hc ⊢
  clear hn
  go_enter Try.func15, Try.ntmps15
  go_wp2
  go_loopw [5] (fun c wr => ∃ k : Nat, c = .int .i64 k ∧ k ≤ n ∧ Hid ((ls.drop k).contains s = r) ∧ w = wr) (fun c _ => n - (intOf c).toNat)
  case atStart => exact ⟨0, rfl, Nat.zero_le _, HR, rfl⟩
  case round =>
    obtain ⟨k, rfl, hk, HK, rfl⟩ := hrel
    by_cases hlt : k < n
    · have kl : k < ls.length := by rw [HN.out]; exact hlt
      obtain ⟨g, off, rfl, _, hx⟩ := HX.out (by omega)
      have c0 := hx k _ (strC_get ls k kl)
      have hst := HK.out
      rw [drop_has kl s] at hst
      have hlt' : (k : Int) < n := by omega
      generalize str (ls[k]'kl) = t at c0 hst
      cases q : (t.toList == (str s).toList)
      · rw [q, Bool.false_or] at hst
        have HK' : Hid ((ls.drop (k + 1)).contains s = r) := ⟨hst⟩
        clear hst hx HK HR HX
        go_wp2
        exact ⟨⟨k + 1, by go_num, by omega, HK', trivial⟩, by simp [intOf]; omega⟩
      · rw [q, Bool.true_or] at hst
        have HT : Hid (true = r) := ⟨hst⟩
        clear hst hx HK HR HX
        go_wp2
        go_ret
        exact ⟨by rw [← HT.out]; rfl, rfl⟩
    · obtain rfl : k = n := by omega
      have HT : Hid (false = r) := ⟨by have := HK.out; rwa [List.drop_eq_nil_of_le (by rw [HN.out]; omega)] at this⟩
      clear HK HR HX
      go_wp2
      go_ret
      exact ⟨by rw [← HT.out]; rfl, rfl⟩
set_option maxHeartbeats 2000000 in
/-- two rows that hold the same names -/
theorem same_any {w : World} {ok ok' : Nat → Prop} (l : List Nm) (va vb : Value) (R : IsRow w ok (strC l) l.length va) (R' : IsRow w ok' (strC l) l.length vb) :
    Calls Try.prog 12 #[va, vb] w fun e w' => e = .returned (.bool true) ∧ Below w.heap.size w w' := by
  obtain ⟨ga, ca, rfl, hc, hx⟩ := R
  obtain ⟨gb, cb, rfl, hc', hx'⟩ := R'
  have HX := Hid.mk (And.intro hx hx')
  obtain ⟨n, hn⟩ : ∃ n, l.length = n := ⟨_, rfl⟩
  have HN : Hid (l.length = n) := ⟨hn⟩
  rw [hn] at hc hc' ⊢
  have e0 : ((n : Int) != n) = false := by simp
  clear hn hx hx'
  go_enter Try.func12, Try.ntmps12
  go_wp2
  go_loopw [5] (fun c wr => ∃ k : Nat, c = .int .i64 k ∧ k ≤ n ∧ Hid (Below w.heap.size w wr)) (fun c _ => n - (intOf c).toNat)
  case atStart => exact ⟨0, rfl, Nat.zero_le _, ⟨Below.refl _ _⟩⟩
  case round =>
    obtain ⟨k, rfl, hk, HB⟩ := hrel
    by_cases hlt : k < n
    · have kl : k < l.length := by rw [HN.out]; exact hlt
      obtain ⟨g, off, rfl, _, h1⟩ := HX.out.1 (by omega)
      obtain ⟨g', off', rfl, _, h2⟩ := HX.out.2 (by omega)
      have c0 := h1 k _ (strC_get l k kl)
      have d0 := h2 k _ (strC_get l k kl)
      replace c0 := (HB.out.cell (World.block_lt_of_cell? _ _ c0)).trans c0
      replace d0 := (HB.out.cell (World.block_lt_of_cell? _ _ d0)).trans d0
      have hlt' : (k : Int) < n := by omega
      have hi0 : (0 : Int) ≤ k := by omega
      have hle : (k : Int) ≤ n := by omega
      generalize str (l[k]'kl) = t at c0 d0
      have qe : (t.toList == t.toList) = true := by simp
      have qn : (t.toList != t.toList) = false := by simp
      clear h1 h2 HX
      go_wp2
      go_quiet (fail)
      all_goals go_wp2
      all_goals exact ⟨⟨k + 1, by go_num, by omega, ⟨below_drewN HB.out _⟩⟩, by simp [intOf]; omega⟩
    · obtain rfl : k = n := by omega
      clear HX
      go_wp2
      go_ret
      exact ⟨rfl, HB.out⟩
end Go.Proofs.Ytmlegdnenklkhaa
