/-
  The statement ShapePointers, as its card says it: for every header and every number, the range over its pointers tells the places from 1 on to as many as it has, none of another header, and may be left anywhere.
  Conditions: none on the input; the package-level table of the kinds starts as the program's text lays it (the card ties it to that text, of the pruned copy of the project that this seat holds).
-/
import Derived.Test.YtdiibckplkkkkaaDoorLaid
import Derived.Test.YtdiibckplkkkkaaDoorRef
import Derived.Test.YtdiibckplkkkkaaDoorPlaces
import Derived.Deep.RegionHeld3
import Derived.Laws.BitsLemmas
namespace Go.Proofs.YtdiibckplkkkkaaDoor.shapePointers
open Go.ChangeShapes Go.WideShapes Go.ChangeAt Go.RowKit
set_option linter.unusedVariables false

/-- What is kept through the law's calls: the table, the header's box. -/
structure Stand (w : World) (b : Nat) (k i p n : Int) : Prop where
  tab : Table w
  mine : Mine w b k i p n
theorem Stand.later {w w' : World} {b : Nat} {k i p n : Int} (h : Stand w b k i p n) (B : Below w.heap.size w w') : Stand w' b k i p n := ⟨h.tab.later B, h.mine.later B⟩
theorem fresh1 (w : World) (o : Obj) : Below w.heap.size w (w.alloc o) := by go_grown
theorem wrap_small {x : Int} (h0 : 0 ≤ x) (h1 : x ≤ 10000) : IntKind.i64.wrap x = x := by
  rw [IntKind.wrap_i64]
  omega
theorem told_minus {k i p n : Int} (h : rightE k i p n = 0) : told k i p n (-1) = p.toNat := told_all h (by omega)

set_option maxRecDepth 100000 in
set_option maxHeartbeats 4000000 in
theorem walk_right (k0 i0 n0 a1 : Int) (P : Nat) (w : World) (h : Table w) (E : rightE k0 i0 P n0 = 0) (b1 : -9223372036854775808 ≤ a1 ∧ a1 ≤ 9223372036854775807) :
    Calls Tryd.prog 7 #[head k0 i0 P n0, .int .i64 a1] w fun e w' => e = .returned (.bool true) ∧ Below w.heap.size w w' := by
  have sm := right_small E
  have S0 : Stand (w.alloc (Obj.cells #[Value.int IntKind.i64 k0, Value.int IntKind.i64 i0, Value.int IntKind.i64 P, Value.int IntKind.i64 n0] 23)) w.heap.size k0 i0 P n0 := ⟨h.later (by go_grown), Mine.fresh w k0 i0 P n0⟩
  have C0 : Below w.heap.size w (w.alloc (Obj.cells #[Value.int IntKind.i64 k0, Value.int IntKind.i64 i0, Value.int IntKind.i64 P, Value.int IntKind.i64 n0] 23)) := by go_grown
  have R' := fun w => refRight_any k0 i0 P n0 w
  have SZ := fun w h => size_any k0 i0 P n0 w h
  obtain ⟨s, hs⟩ : ∃ x, sizeN k0 i0 P n0 = x := ⟨_, rfl⟩
  have hs2 : s = 1 + P + n0 := by rw [← hs]; simp [sizeN, E]
  have J1 : told k0 i0 P n0 (-1) = P := by rw [told_minus E]; simp
  have J2 : (a1 < 1 ∧ told k0 i0 P n0 a1 = P) ∨ (¬ a1 < 1 ∧ (P : Int) < a1 ∧ told k0 i0 P n0 a1 = P) ∨ (¬ a1 < 1 ∧ ¬ (P : Int) < a1 ∧ ((told k0 i0 P n0 a1 : Nat) : Int) = a1) := by
    by_cases x : a1 < 1
    · exact .inl ⟨x, by rw [told_all E (by omega)]; simp⟩
    · by_cases y : (P : Int) < a1
      · exact .inr (.inl ⟨x, y, by rw [told_all E (by omega)]; simp⟩)
      · exact .inr (.inr ⟨x, y, by rw [told_cut E (by omega) (by omega)]; omega⟩)
  have PL := fun (w : World) (b : Nat) (T : Table w) hd => places_ok (w := w) (b := b) (k := k0) (i := i0) (p := P) (q := n0) (-1) T hd
  have PM := fun (w : World) (b : Nat) (T : Table w) hd => places_ok (w := w) (b := b) (k := k0) (i := i0) (p := P) (q := n0) a1 T hd
  simp only [J1] at PL
  obtain ⟨J, hJ⟩ : ∃ x, told k0 i0 P n0 a1 = x := ⟨_, rfl⟩
  simp only [hJ] at PM J2
  simp only [E] at R'
  simp only [hs] at SZ
  have HJ2 : Hid ((a1 < 1 ∧ J = P) ∨ (¬ a1 < 1 ∧ (P : Int) < a1 ∧ J = P) ∨ (¬ a1 < 1 ∧ ¬ (P : Int) < a1 ∧ (J : Int) = a1)) := J2
  have HS2 : Hid (s = 1 + P + n0) := hs2
  clear J2 hs2 J1 hJ hs E
  obtain ⟨x0, x1, x2, x3⟩ := S0.mine.at
  go_enter Tryd.func7, Tryd.ntmps7
  go_wp2_with (first
    | (go_at_call 10; refine (R' _).mono ?_; rintro e w1 ⟨rfl, B1⟩; have S1 := S0.later B1; have C1 := C0.trans (B1.mono C0.size); obtain ⟨a0, a2, a3, a4⟩ := S1.mine.at)
    | (go_at_call 20; have L3' := L3; refine (pointers_ok k0 i0 P n0 _).mono ?_; rintro e w4 ⟨rfl, hw4⟩; have B4 : Below w3.heap.size w3 w4 := (by rw [hw4]; exact fresh1 _ _); have G4 : w4.heap[w3.heap.size]? = some (.cells #[.int .i64 k0, .int .i64 i0, .int .i64 P, .int .i64 n0] 23 (0, 0)) := (by rw [hw4]; exact heap_alloc_new _ _); clear hw4 L3'; have S4 := S3.later B4; have C4 := C3.trans (B4.mono C3.size); have L4 := L3.later B4)
    | (go_at_call 20; refine (pointers_ok k0 i0 P n0 _).mono ?_; rintro e w2 ⟨rfl, hw2⟩; have B2 : Below w1.heap.size w1 w2 := (by rw [hw2]; exact fresh1 _ _); have G2 : w2.heap[w1.heap.size]? = some (.cells #[.int .i64 k0, .int .i64 i0, .int .i64 P, .int .i64 n0] 23 (0, 0)) := (by rw [hw2]; exact heap_alloc_new _ _); clear hw2; have S2 := S1.later B2; have C2 := C1.trans (B2.mono C1.size))
    | (go_at_call 19; have G4' := G4; clear G4'; refine (PM _ _ S4.tab G4).mono ?_; rintro e w5 ⟨o2, cap2, rfl, L5, B5⟩; have S5 := S4.later B5; have C5 := C4.trans (B5.mono C4.size); have M5 := L4.later B5; clear L5)
    | (go_at_call 19; refine (PL _ _ S2.tab G2).mono ?_; rintro e w3 ⟨o, cap, rfl, L3, B3⟩; have S3 := S2.later B3; have C3 := C2.trans (B3.mono C2.size); obtain ⟨d0, d1, d2, d3⟩ := S3.mine.at)
    | (go_at_call 8; refine (awake_any _ S5.tab).mono ?_; rintro e w6 ⟨rfl, B6⟩; have S6 := S5.later B6; have C6 := C5.trans (B6.mono C5.size); have M6 := M5.later B6))
  have HM6 : Hid (Listed w6 o P cap) := M6
  have HS6 : Hid (Stand w6 w.heap.size k0 i0 P n0) := S6
  clear S0 x0 x1 x2 x3 S1 a0 a2 a3 a4 S2 G2 S3 d0 d1 d2 d3 S4 G4 S5 M5 L3 L4 B1 B2 B3 B4 B5 B6 C0 C1 C2 C3 C4 C5 PL PM R' M6 S6
  go_loopw [8] (fun c wr => ∃ t : Nat, c = .int .i64 t ∧ t ≤ P ∧ Listed wr o P cap ∧ Stand wr w.heap.size k0 i0 P n0 ∧ Below w.heap.size w wr)
    (fun c _ => P - (intOf c).toNat)
  case atStart => exact ⟨0, rfl, Nat.zero_le _, HM6.out, HS6.out, C6⟩
  case round =>
    obtain ⟨t, rfl, ht, Lt, St, Ct⟩ := hrel
    by_cases hlt : t < P
    · obtain ⟨g, rfl, hc, ce⟩ := Lt.get hlt
      obtain ⟨x0, x1, x2, x3⟩ := St.mine.at
      have hge : ¬ (s ≤ (t : Int) + 1) := by have := HS2.out; omega
      have HLt : Hid (Listed wr (some ⟨g, 0, none⟩) P cap) := Lt
      have gl : g < wr.heap.size := World.block_lt_of_cell? _ _ ce
      clear Lt
      have hw : IntKind.i64.wrap ((t : Int) + 1) = (t : Int) + 1 := wrap_small (by omega) (by omega)
      go_wp2_with fail
      have hs3 := St.later (Below.drew (Below.refl _ wr))
      go_region_held3 (fun w' => w'.cell? ⟨g, t, none⟩ = some (.int .i64 ((t : Int) + 1)) ∧ w'.cell? ⟨w.heap.size, 0, none⟩ = some (.int .i64 k0) ∧ w'.cell? ⟨w.heap.size, 1, none⟩ = some (.int .i64 i0) ∧ w'.cell? ⟨w.heap.size, 2, none⟩ = some (.int .i64 P) ∧ w'.cell? ⟨w.heap.size, 3, none⟩ = some (.int .i64 n0)) (go_keep) (first
        | (go_at_call 11; refine (SZ _ hs3.tab).mono ?_; rintro e w7 ⟨rfl, B7⟩; have B8 : Below wr.heap.size wr w7 := (Below.drew (Below.refl _ wr)).trans B7; have S8 := St.later B8; obtain ⟨q0, q1, q2, q3⟩ := S8.mine.at; have ce2 : w7.cell? ⟨g, t, none⟩ = some (.int .i64 ((t : Int) + 1)) := (B8.cell (p := ⟨g, t, none⟩) gl).trans ce))
      all_goals go_wp2
      all_goals go_roundw
      all_goals first
        | exact ⟨t + 1, by go_num, by omega, HLt.out.later B8, S8, Ct.trans (B8.mono Ct.size)⟩
        | (simp [intOf]; omega)
    · obtain rfl : t = P := by omega
      rcases HJ2.out with ⟨c1, c2⟩ | ⟨c1, c2, c3⟩ | ⟨c1, c2, c3⟩
      · subst c2
        go_wp2
        go_ret
        exact ⟨rfl, Ct⟩
      · subst c3
        go_wp2
        go_ret
        exact ⟨rfl, Ct⟩
      · subst c3
        go_wp2
        go_ret
        exact ⟨rfl, Ct⟩
set_option maxRecDepth 100000 in
set_option maxHeartbeats 4000000 in
theorem walk_wrong (k0 i0 p0 n0 a1 : Int) (w : World) (h : Table w) (E : rightE k0 i0 p0 n0 ≠ 0) :
    Calls Tryd.prog 7 #[head k0 i0 p0 n0, .int .i64 a1] w fun e w' => e = .returned (.bool true) ∧ Below w.heap.size w w' := by
  have S0 : Stand (w.alloc (Obj.cells #[Value.int IntKind.i64 k0, Value.int IntKind.i64 i0, Value.int IntKind.i64 p0, Value.int IntKind.i64 n0] 23)) w.heap.size k0 i0 p0 n0 := ⟨h.later (by go_grown), Mine.fresh w k0 i0 p0 n0⟩
  have C0 : Below w.heap.size w (w.alloc (Obj.cells #[Value.int IntKind.i64 k0, Value.int IntKind.i64 i0, Value.int IntKind.i64 p0, Value.int IntKind.i64 n0] 23)) := by go_grown
  have R' := fun w => refRight_any k0 i0 p0 n0 w
  have e1 : (rightE k0 i0 p0 n0 == 0) = false := by simp [E]
  have PM := fun (m : Int) (w : World) (b : Nat) (T : Table w) hd => places_ok (w := w) (b := b) (k := k0) (i := i0) (p := p0) (q := n0) m T hd
  have J : ∀ m, told k0 i0 p0 n0 m = 0 := fun m => told_bad E
  simp only [J] at PM
  obtain ⟨E0, hE⟩ : ∃ x, rightE k0 i0 p0 n0 = x := ⟨_, rfl⟩
  simp only [hE] at R' e1
  clear E hE J
  obtain ⟨x0, x1, x2, x3⟩ := S0.mine.at
  have CS : a1 < 1 ∨ ¬ a1 < 1 := Classical.em _
  go_enter Tryd.func7, Tryd.ntmps7
  go_wp2_with (first
    | (go_at_call 10; refine (R' _).mono ?_; rintro e w1 ⟨rfl, B1⟩; have S1 := S0.later B1; have C1 := C0.trans (B1.mono C0.size); obtain ⟨a0, a2, a3, a4⟩ := S1.mine.at)
    | (go_at_call 20; have L3' := L3; refine (pointers_ok k0 i0 p0 n0 _).mono ?_; rintro e w4 ⟨rfl, hw4⟩; have B4 : Below w3.heap.size w3 w4 := (by rw [hw4]; exact fresh1 _ _); have G4 : w4.heap[w3.heap.size]? = some (.cells #[.int .i64 k0, .int .i64 i0, .int .i64 p0, .int .i64 n0] 23 (0, 0)) := (by rw [hw4]; exact heap_alloc_new _ _); clear hw4 L3'; have S4 := S3.later B4; have C4 := C3.trans (B4.mono C3.size))
    | (go_at_call 20; refine (pointers_ok k0 i0 p0 n0 _).mono ?_; rintro e w2 ⟨rfl, hw2⟩; have B2 : Below w1.heap.size w1 w2 := (by rw [hw2]; exact fresh1 _ _); have G2 : w2.heap[w1.heap.size]? = some (.cells #[.int .i64 k0, .int .i64 i0, .int .i64 p0, .int .i64 n0] 23 (0, 0)) := (by rw [hw2]; exact heap_alloc_new _ _); clear hw2; have S2 := S1.later B2; have C2 := C1.trans (B2.mono C1.size))
    | (go_at_call 19; have G4' := G4; clear G4'; refine (PM a1 _ _ S4.tab G4).mono ?_; rintro e w5 ⟨o2, cap2, rfl, L5, B5⟩; have S5 := S4.later B5; have C5 := C4.trans (B5.mono C4.size); clear L5)
    | (go_at_call 19; refine (PM (-1) _ _ S2.tab G2).mono ?_; rintro e w3 ⟨o, cap, rfl, L3, B3⟩; have S3 := S2.later B3; have C3 := C2.trans (B3.mono C2.size); obtain ⟨d0, d1, d2, d3⟩ := S3.mine.at)
    | (go_at_call 8; refine (awake_any _ S5.tab).mono ?_; rintro e w6 ⟨rfl, B6⟩; have C6 := C5.trans (B6.mono C5.size)))
  clear S0 x0 x1 x2 x3 S1 a0 a2 a3 a4 S2 G2 S3 d0 d1 d2 d3 S4 G4 S5 L3 B1 B2 B3 B4 B5 B6 C0 C1 C2 C3 C4 C5 PM R'
  go_loopw [8] (fun c wr => c = .int .i64 0 ∧ w6 = wr) (fun _ _ => 0)
  case atStart => exact ⟨rfl, rfl⟩
  case round =>
    obtain ⟨rfl, rfl⟩ := hrel
    rcases CS with c | c
    · go_wp2
      go_ret
      exact ⟨rfl, C6⟩
    · go_wp2
      go_ret
      exact ⟨rfl, C6⟩
theorem walk (k0 i0 p0 n0 a1 : Int) (w : World) (h : Table w) (bk : -9223372036854775808 ≤ k0 ∧ k0 ≤ 9223372036854775807) (bi : -9223372036854775808 ≤ i0 ∧ i0 ≤ 9223372036854775807) (bp : -9223372036854775808 ≤ p0 ∧ p0 ≤ 9223372036854775807) (bn : -9223372036854775808 ≤ n0 ∧ n0 ≤ 9223372036854775807) (b1 : -9223372036854775808 ≤ a1 ∧ a1 ≤ 9223372036854775807) :
    Calls Tryd.prog 7 #[head k0 i0 p0 n0, .int .i64 a1] w fun e w' => e = .returned (.bool true) ∧ Below w.heap.size w w' := by
  by_cases E : rightE k0 i0 p0 n0 = 0
  · have sm := right_small E
    obtain ⟨P, rfl⟩ : ∃ P : Nat, p0 = P := ⟨p0.toNat, by omega⟩
    exact walk_right k0 i0 n0 a1 P w h E b1
  · exact walk_wrong k0 i0 p0 n0 a1 w h E

/-- What the walk gives, for every argument and every world that holds the table. -/
theorem contract (H : Type) (enc : TypeId × Value → H) (W : World) (base : Nat) (args : Array Value) (ds gs : List (DataW H)) (before : List MemPlace)
    (hval : ∀ (j : Nat) t v, Tryd.f7.params[j]? = some t → args[j]? = some v → Value.okWide Tryd.prog W .any base t v)
    (hW : DataW.Whole enc Tryd.prog Tryd.f7.params.toList Rows.shapePointersSpec.vars false W args.toList ds gs before) (hL : laidMetH Tryd.prog Rows.shapePointersRow.laid W) :
    Calls Tryd.prog 7 args W fun e W' => ∃ v, e = .returned v ∧ Rows.shapePointersSpec.post enc Tryd.prog Tryd.f7 false true false false W args v W' := by
  have hW' := hW
  obtain ⟨p, q, hA0, hV, rfl, hfz, hnd⟩ := hW
  have hA : DataW.TrodAll enc Tryd.prog W 0 (fun _ => true) true Tryd.f7.params.toList args.toList ds p := hA0
  rw [Tryd.params7] at hA hval
  obtain ⟨v0, vs0, d0, ds0, p0, q0, hargs, rfl, rfl, h0, r0⟩ := trodAll_cons hA
  obtain ⟨v1, vs1, d1, ds1, p1, q1, rfl, rfl, rfl, h1, r1⟩ := trodAll_cons r0
  obtain ⟨rfl, rfl, rfl⟩ := trodAll_nil r1
  obtain rfl : args = #[v0, v1] := by cases args; simp_all
  obtain ⟨rfl, rfl⟩ := trodVars_none hV
  have t0 := h0
  have lt0 : ∀ x ∈ p0, x.block < W.heap.size := by obtain ⟨m, hm⟩ := t0; exact DataW.trod_lt m _ _ _ hm
  obtain ⟨c0, c1, c2, c3, y0, y1, y2, y3, m, rfl, hd0, hp0, hy0, hy1, hy2, hy3⟩ := Joins.open_agg4 Tryd.underlying23 (by kernel_rfl) cells23 (hval 0 23 v0 rfl rfl) h0
  obtain ⟨k0, e0, _, wk0⟩ := DataW.trod_int Tryd.underlying3 hy0
  obtain ⟨i0, e1, _, wi0⟩ := DataW.trod_int Tryd.underlying3 hy1
  obtain ⟨p0', e2, _, wp0⟩ := DataW.trod_int Tryd.underlying3 hy2
  obtain ⟨n0, e3, _, wn0⟩ := DataW.trod_int Tryd.underlying3 hy3
  simp only [List.cons.injEq, and_true] at e0 e1 e2 e3
  subst e0 e1 e2 e3
  clear hy0 hy1 hy2 hy3
  have t1 := h1
  have lt1 : ∀ x ∈ p1, x.block < W.heap.size := by obtain ⟨m, hm⟩ := t1; exact DataW.trod_lt m _ _ _ hm
  obtain ⟨a1, rfl, hd1, hp1, w1⟩ := open_int Tryd.underlying3 (hval 1 3 v1 rfl rfl) h1
  clear hA0
  refine (walk k0 i0 p0' n0 a1 W (table_of hL) (bounds_i64 wk0) (bounds_i64 wi0) (bounds_i64 wp0) (bounds_i64 wn0) (bounds_i64 w1)).mono fun e W' ⟨he, bel⟩ => ?_
  subst he
  exact ⟨_, rfl, _, _, _, [], _, [], hW', trodAll_mk1 (shut_bool Tryd.underlying4 _), (trodAll_cons_mk (Below.trod laidOut (by kernel_rfl) (of_decide_eq_true (by kernel_rfl)) t0 bel lt0) (trodAll_cons_mk (Below.trod laidOut (by kernel_rfl) (of_decide_eq_true (by kernel_rfl)) t1 bel lt1) trodAll_mk0)), rfl, bel.frame _, fun h => by cases h⟩

theorem laid_met (os : Os) : laidMet Tryd.prog Rows.shapePointersRow.laid ((laidWorld os).forCall (fun _ _ => 0) ⟨#[], #[head 0 0 0 0, .int .i64 0], []⟩).memory :=
  laidMet_of_run' 8 (by kernel_rfl) (by kernel_rfl)
theorem reads (os : Os) {H : Type} (enc : TypeId × Value → H) : ∃ places, DataW.whole enc Tryd.prog ((laidWorld os).forCall (fun _ _ => 0) ⟨#[], #[head 0 0 0 0, .int .i64 0], []⟩).memory Tryd.f7.params.toList Rows.shapePointersSpec.vars false #[head 0 0 0 0, .int .i64 0].toList 8 = some ([.agg [.lit (.int .i64 0), .lit (.int .i64 0), .lit (.int .i64 0), .lit (.int .i64 0)], .lit (.int .i64 0)], [], places) :=
  ⟨[], by kernel_rfl⟩

set_option maxRecDepth 100000 in
theorem lifted (os : Os) (started : os.Started) (H : Type) (enc : TypeId × Value → H) (F : Stop.Interp) :
    ReturnsInHanded {} Tryd.checked os 7 .any ((OpenSpec.ofChange Rows.shapePointersSpec).preRow enc Tryd.prog Tryd.f7 Rows.shapePointersRow.domain false Rows.shapePointersRow.laid) (((OpenSpec.ofChange Rows.shapePointersSpec).at F).post enc Tryd.prog Tryd.f7 false true false false) := by
  obtain ⟨places, hx⟩ := reads os enc
  refine returnsInHanded_of_row (C := Tryd.checked) (s := OpenSpec.ofChange Rows.shapePointersSpec) own started (by kernel_rfl) Tryd.func7
    (witness_row_at (enc := enc) (C := Tryd.checked) false (laidWorld os) #[head 0 0 0 0, .int .i64 0] rfl (by kernel_rfl) (by kernel_rfl) (by kernel_rfl)
      (OpenSpec.preRow_of_cond 8 hx (by kernel_rfl) (fun k hk => by cases hk) (by kernel_rfl) (laid_met os))) ?_
  intro W base args ds gs before hval hW _ _ _ hL _ _
  exact contract H enc W base args ds gs before hval hW hL

theorem said : Rows.ShapePointersSaid :=
  OpenClaim.holds_of_cond 7 Tryd.f7 rfl rfl rfl rfl rfl rfl rfl ⟨rfl, rfl, rfl, rfl, rfl⟩ rfl rfl rfl rfl rfl (by kernel_rfl) Tryd.func7 (by kernel_rfl)
    (of_decide_eq_true (by kernel_rfl)) (by unfold Func.isWrapper; first | (rw [if_pos (by decide +kernel)]; kernel_rfl) | (rw [if_neg (by decide +kernel)]; exact ⟨rfl, rfl⟩))
    (fun os started H enc _ F => by rw [OpenClaim.pre_eq_preRow]; exact lifted os started H enc F)

/-- No parameter wants a stand-in; the program's own looks are off: what the card asks. -/
theorem plain (f : FuncId) (fn : Func) (hf : Tryd.pinned.checked.prog.funcNamed "midden/middenlaw04.ShapePointers" = some f) (hfn : Tryd.pinned.checked.prog.funcs[f]? = some fn) :
    false = Tryd.pinned.checked.prog.looks [] ∧ ∀ (j : Nat) t, fn.params[j]? = some t → Tryd.pinned.checked.prog.wantsStandIn t = false := by
  obtain rfl : f = 7 := Option.some.inj ((show Tryd.prog.funcNamed "midden/middenlaw04.ShapePointers" = some 7 by kernel_rfl).symm.trans hf) |>.symm
  obtain rfl : fn = Tryd.f7 := (Option.some.inj (Tryd.func7.symm.trans hfn)).symm
  refine ⟨by kernel_rfl, fun j t ht => ?_⟩
  rw [Tryd.params7] at ht
  have hm : t ∈ [23, 3] := by simpa using Array.mem_of_getElem? ht
  have hall : ([23, 3].all fun u => !Tryd.prog.wantsStandIn u) = true := by kernel_rfl
  exact (show Tryd.prog.wantsStandIn t = false by simpa using List.all_eq_true.1 hall t hm)

theorem card : Rows.ShapePointersCardSaid :=
  Claim7.holds_tied_plain_at .later [] _ _ _ _ said (fun _ h => by cases h) (by kernel_rfl) (fun _ h => by cases h) shapePointers_row_tie rfl ⟨rfl, rfl⟩ (by kernel_rfl) rfl plain (by kernel_rfl)
end Go.Proofs.YtdiibckplkkkkaaDoor.shapePointers

namespace Go.Proofs.YtdiibckplkkkkaaDoor
theorem shapePointers_card : Rows.ShapePointersCardSaid := shapePointers.card
#print axioms shapePointers_card
end Go.Proofs.YtdiibckplkkkkaaDoor
