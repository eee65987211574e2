/- What the rows' listed variable gives the walks, a world for the rows' witnesses, and what every card of this seat asks besides. -/
import Derived.Test.YtbajpejnnfacbaaGreatDoorCards
import Derived.Test.YtbajpejnnfacbaaGreatDoorTie
import Derived.Test.YtbajpejnnfacbaaGreatDoorPch
import Derived.ProofKit
import Derived.OpenShut
import Derived.Lib.SmallJoins
import Derived.Deep.DeepHandedRow
import Derived.Test.YtbajpejnnfacbaaGreatDoorLxa
import Derived.Test.YtbajpejnnfacbaaGreatDoorLxk
import Derived.ChangeOld
import Derived.Deep.Slices
namespace Go.Proofs.YtbajpejnnfacbaaGreatDoor
open Go.ChangeShapes Go.WideShapes Go.ChangeAt Go.RowKit
set_option maxRecDepth 100000

theorem own : ownKnob Tryz.prog.godebug = none := by kernel_rfl
theorem gRows : Tryz.prog.globalNamed "midden/prim.rows" = some 0 := by kernel_rfl
theorem gRowsType : (Tryz.prog.globals[0]?).map (·.type) = some 174 := by kernel_rfl
theorem cells38 : Tryz.prog.cellsOf 174 = 85 := by kernel_rfl
theorem cells36 : Tryz.prog.cellsOf 173 = 5 := by kernel_rfl
theorem cells34 : Tryz.prog.cellsOf 171 = 3 := by kernel_rfl
theorem cells3 : Tryz.prog.cellsOf 3 = 1 := by kernel_rfl
theorem cells9 : Tryz.prog.cellsOf 9 = 1 := by kernel_rfl

abbrev listed : List (String × DataW Unit) := [("midden/prim.rows", Rows.laid_midden_prim_rows)]

theorem str_of {s : ByteArray} {l : List UInt8} (h : s.data.toList = l) : s = str l := bytes_inj (by rw [h]; simp [str])

/-- what three arguments must be: three cells -/
theorem rowThree {enc : TypeId × Value → Unit} {W : World} {sp : Nat → Bool} {hd : Bool} {m : Nat} {cs : List Value} {a b c : Int} {q : List MemPlace}
    (h : DataW.trod enc Tryz.prog W 0 sp hd m 171 cs = some (.agg [.lit (.int .i64 a), .lit (.int .i64 b), .lit (.int .i64 c)], q)) : cs = [.int .i64 a, .int .i64 b, .int .i64 c] := by
  obtain ⟨xs, n, hm, hx, hl, hn, hel⟩ := DataW.trod_array Tryz.underlying171 h
  rw [cells3] at hel
  match cs, hl with
  | [c0, c1, c2], _ =>
    match xs, hn with
    | [(y0, p0), (y1, p1), (y2, p2)], _ =>
      have h0 := hel 0 (by decide)
      have h1 := hel 1 (by decide)
      have h2 := hel 2 (by decide)
      simp at h0 h1 h2
      obtain ⟨a', e0, r0, _⟩ := DataW.trod_int Tryz.underlying3 h0
      obtain ⟨b', e1, r1, _⟩ := DataW.trod_int Tryz.underlying3 h1
      obtain ⟨c', e2, r2, _⟩ := DataW.trod_int Tryz.underlying3 h2
      simp at e0 e1 e2 r0 r1 r2 hx
      obtain ⟨⟨x0, x1, x2⟩, _⟩ := hx
      rw [r0.1] at x0
      rw [r1.1] at x1
      rw [r2.1] at x2
      simp at x0 x1 x2
      simp [e0, e1, e2, x0, x1, x2]
/-- A row of the table: its five cells. -/
theorem rowOne {enc : TypeId × Value → Unit} {W : World} {sp : Nat → Bool} {hd : Bool} {m : Nat} {cs : List Value} {l : List UInt8} {a b c d : Int} {q : List MemPlace}
    (h : DataW.trod enc Tryz.prog W 0 sp hd m 173 cs = some (.agg [.lit (.string l), .lit (.int .i64 a), .agg [.lit (.int .i64 b), .lit (.int .i64 c), .lit (.int .i64 d)]], q)) :
    cs = [.string (str l), .int .i64 a, .int .i64 b, .int .i64 c, .int .i64 d] := by
  obtain ⟨xs, n, hm, hx, hl, hn, hf⟩ := DataW.trod_struct Tryz.underlying173 h
  rw [cells36] at hl
  match cs, hl with
  | [c0, c1, c2, c3, c4], _ =>
    match xs, hn with
    | [(y0, p0), (y1, p1), (y2, p2)], _ =>
      have h0 : DataW.trod enc Tryz.prog W 0 sp hd n 9 (([c0, c1, c2, c3, c4].drop 0).take (Tryz.prog.cellsOf 9)) = some (y0, p0) := hf 0 _ rfl
      have h1 : DataW.trod enc Tryz.prog W 0 sp hd n 3 (([c0, c1, c2, c3, c4].drop 1).take (Tryz.prog.cellsOf 3)) = some (y1, p1) := hf 1 _ rfl
      have h2 : DataW.trod enc Tryz.prog W 0 sp hd n 171 (([c0, c1, c2, c3, c4].drop 2).take (Tryz.prog.cellsOf 171)) = some (y2, p2) := hf 2 _ rfl
      simp only [cells9, cells3, cells34, List.drop_zero, List.drop_succ_cons, List.take_succ_cons, List.take_zero] at h0 h1 h2
      simp only [List.map_cons, List.map_nil, Prod.mk.injEq, DataW.agg.injEq, List.cons.injEq, and_true] at hx
      obtain ⟨⟨e0, e1, e2⟩, _⟩ := hx
      subst e0 e1 e2
      obtain ⟨s', f0, r0, _⟩ := DataW.trod_string Tryz.underlying9 h0
      obtain ⟨a', f1, r1, _⟩ := DataW.trod_int Tryz.underlying3 h1
      have g2 := rowThree h2
      simp at f0 f1 r0 r1 g2
      simp [f0, f1, g2, r1, str_of r0.1.symm]

theorem chop {l : List Value} {n : Nat} {r t : List Value} (h : (l.drop n).take 5 = r) (g : l.drop (n + 5) = t) : l.drop n = r ++ t := by
  rw [← h, ← g, ← List.drop_drop, List.take_append_drop]
theorem cellOf {W : World} {l : List Value} {k : Nat} {r : List Value} (cell : ∀ o, W.cell? ⟨0, o, none⟩ = l[o]?) (h : (l.drop (k * 5)).take 5 = r) (j : Nat) (hj : j < 5) : W.cell? ⟨0, k * 5 + j, none⟩ = r[j]? := by
  rw [cell, ← h, List.getElem?_take_of_lt hj, List.getElem?_drop]

theorem table_of {W : World} (h : laidMetH Tryz.prog listed W) : Table W := by
  obtain ⟨ps, ⟨g0, t0, cs0, f0, p0, q0, hg0, ht0, hv0, hd0, _, _⟩, _, _⟩ := h
  obtain rfl := Option.some.inj (gRows.symm.trans hg0)
  obtain rfl := Option.some.inj (gRowsType.symm.trans ht0)
  obtain ⟨xs, m, rfl, hx, hlen, hn, hel⟩ := DataW.trod_array Tryz.underlying174 hd0
  have cell := World.var?_cell hg0 hv0
  rw [cells36] at hel
  rw [cells38] at hlen
  simp only [Prod.mk.injEq, Rows.laid_midden_prim_rows, DataW.agg.injEq] at hx
  obtain ⟨l⟩ := cs0
  have cell : ∀ o, W.cell? ⟨0, o, none⟩ = l[o]? := fun o => by rw [cell o]; simp
  match xs, hn with
  | [x0, x1, x2, x3, x4, x5, x6, x7, x8, x9, x10, x11, x12, x13, x14, x15, x16], _ =>
    simp only [List.map_cons, List.map_nil, List.cons.injEq, and_true] at hx
    obtain ⟨⟨e0, e1, e2, e3, e4, e5, e6, e7, e8, e9, e10, e11, e12, e13, e14, e15, e16⟩, _⟩ := hx
    obtain ⟨d0, q0⟩ := x0
    obtain ⟨d1, q1⟩ := x1
    obtain ⟨d2, q2⟩ := x2
    obtain ⟨d3, q3⟩ := x3
    obtain ⟨d4, q4⟩ := x4
    obtain ⟨d5, q5⟩ := x5
    obtain ⟨d6, q6⟩ := x6
    obtain ⟨d7, q7⟩ := x7
    obtain ⟨d8, q8⟩ := x8
    obtain ⟨d9, q9⟩ := x9
    obtain ⟨d10, q10⟩ := x10
    obtain ⟨d11, q11⟩ := x11
    obtain ⟨d12, q12⟩ := x12
    obtain ⟨d13, q13⟩ := x13
    obtain ⟨d14, q14⟩ := x14
    obtain ⟨d15, q15⟩ := x15
    obtain ⟨d16, q16⟩ := x16
    dsimp only at e0 e1 e2 e3 e4 e5 e6 e7 e8 e9 e10 e11 e12 e13 e14 e15 e16
    subst e0 e1 e2 e3 e4 e5 e6 e7 e8 e9 e10 e11 e12 e13 e14 e15 e16
    have r0 : (l.drop (0 * 5)).take 5 = rowL 0 := rowOne (hel 0 (by decide))
    have r1 : (l.drop (1 * 5)).take 5 = rowL 1 := rowOne (hel 1 (by decide))
    have r2 : (l.drop (2 * 5)).take 5 = rowL 2 := rowOne (hel 2 (by decide))
    have r3 : (l.drop (3 * 5)).take 5 = rowL 3 := rowOne (hel 3 (by decide))
    have r4 : (l.drop (4 * 5)).take 5 = rowL 4 := rowOne (hel 4 (by decide))
    have r5 : (l.drop (5 * 5)).take 5 = rowL 5 := rowOne (hel 5 (by decide))
    have r6 : (l.drop (6 * 5)).take 5 = rowL 6 := rowOne (hel 6 (by decide))
    have r7 : (l.drop (7 * 5)).take 5 = rowL 7 := rowOne (hel 7 (by decide))
    have r8 : (l.drop (8 * 5)).take 5 = rowL 8 := rowOne (hel 8 (by decide))
    have r9 : (l.drop (9 * 5)).take 5 = rowL 9 := rowOne (hel 9 (by decide))
    have r10 : (l.drop (10 * 5)).take 5 = rowL 10 := rowOne (hel 10 (by decide))
    have r11 : (l.drop (11 * 5)).take 5 = rowL 11 := rowOne (hel 11 (by decide))
    have r12 : (l.drop (12 * 5)).take 5 = rowL 12 := rowOne (hel 12 (by decide))
    have r13 : (l.drop (13 * 5)).take 5 = rowL 13 := rowOne (hel 13 (by decide))
    have r14 : (l.drop (14 * 5)).take 5 = rowL 14 := rowOne (hel 14 (by decide))
    have r15 : (l.drop (15 * 5)).take 5 = rowL 15 := rowOne (hel 15 (by decide))
    have r16 : (l.drop (16 * 5)).take 5 = rowL 16 := rowOne (hel 16 (by decide))
    have R : ∀ k, k < 17 → (l.drop (k * 5)).take 5 = rowL k := fun k hk => by
      have c : k = 0 ∨ k = 1 ∨ k = 2 ∨ k = 3 ∨ k = 4 ∨ k = 5 ∨ k = 6 ∨ k = 7 ∨ k = 8 ∨ k = 9 ∨ k = 10 ∨ k = 11 ∨ k = 12 ∨ k = 13 ∨ k = 14 ∨ k = 15 ∨ k = 16 := by omega
      rcases c with rfl | rfl | rfl | rfl | rfl | rfl | rfl | rfl | rfl | rfl | rfl | rfl | rfl | rfl | rfl | rfl | rfl
      · exact r0
      · exact r1
      · exact r2
      · exact r3
      · exact r4
      · exact r5
      · exact r6
      · exact r7
      · exact r8
      · exact r9
      · exact r10
      · exact r11
      · exact r12
      · exact r13
      · exact r14
      · exact r15
      · exact r16
    have len : l.length = 85 := by simpa using hlen
    have z85 : l.drop 85 = [] := List.drop_eq_nil_of_le (by omega)
    have z80 := chop (n := 80) r16 z85
    have z75 := chop (n := 75) r15 z80
    have z70 := chop (n := 70) r14 z75
    have z65 := chop (n := 65) r13 z70
    have z60 := chop (n := 60) r12 z65
    have z55 := chop (n := 55) r11 z60
    have z50 := chop (n := 50) r10 z55
    have z45 := chop (n := 45) r9 z50
    have z40 := chop (n := 40) r8 z45
    have z35 := chop (n := 35) r7 z40
    have z30 := chop (n := 30) r6 z35
    have z25 := chop (n := 25) r5 z30
    have z20 := chop (n := 20) r4 z25
    have z15 := chop (n := 15) r3 z20
    have z10 := chop (n := 10) r2 z15
    have z5 := chop (n := 5) r1 z10
    have z0 := chop (n := 0) r0 z5
    have whole : l = tabL := z0
    refine ⟨?_, fun k hk => ?_, fun k hk => ?_, fun k hk => ?_, fun k hk => ?_, fun k hk => ?_⟩
    · simp only [World.var?, hg0, Option.bind_some] at hv0
      split at hv0
      · rename_i c t fr hb
        cases hv0
        rw [whole] at hb
        exact ⟨t, fr, hb⟩
      · cases hv0
    · exact cellOf cell (R k hk) 0 (by decide)
    · exact cellOf cell (R k hk) 1 (by decide)
    · exact cellOf cell (R k hk) 2 (by decide)
    · exact cellOf cell (R k hk) 3 (by decide)
    · exact cellOf cell (R k hk) 4 (by decide)

/-- A world for the witnesses: the settled one, the table (block 0) holding what its initialiser lays. -/
noncomputable def laidWorld (os : Os) : World :=
  { World.holding Tryz.prog os ⟨#[], #[], []⟩ with heap := (World.holding Tryz.prog os ⟨#[], #[], []⟩).heap.modify 0 fun
      | .cells _ t frozen => .cells tabC t frozen
      | o => o }
end Go.Proofs.YtbajpejnnfacbaaGreatDoor

/- The law of lazy: the same numbers; nothing is the same as nothing. -/
namespace Go.Proofs.YtbajpejnnfacbaaGreatDoor.Lz
open Go.RowKit
set_option linter.unusedVariables false
set_option linter.unusedSimpArgs false


theorem begins_same : ∀ (a b : List Int), (decide (a.length = b.length) && begins a b) = decide (a = b)
  | [], [] => by simp [begins]
  | [], y :: q => by simp
  | x :: r, [] => by simp
  | x :: r, y :: q => by
    have := begins_same r q
    rw [begins]
    by_cases e : x = y
    · subst e
      simpa using this
    · have h : (x == y) = false := beq_eq_false_iff_ne.2 e
      rw [h]
      simp [e]
set_option maxRecDepth 100000 in
theorem nsame_any {w : World} {a b : List Int} {va vb : Value} (ha : Ints w a va) (hb : Ints w b vb) (ca : ∀ x ∈ a, isI x) (cb : ∀ x ∈ b, isI x) (la : a.length ≤ 1000000000000) (lb : b.length ≤ 1000000000000) :
    Calls Tryz.prog 14 #[va, vb] w fun r w' => r = .returned (.bool (decide (a = b))) ∧ Below w.heap.size w w' := by
  have BG := fun w1 (k : Below w.heap.size w w1) => begins_any (ha.below k) (hb.below k) ca cb la lb
  have HBG := Hid.mk BG
  have es := begins_same a b
  obtain ⟨ga, capa, rfl, hca, q1⟩ := ha
  obtain ⟨gb, capb, rfl, hcb, q2⟩ := hb
  clear q1 q2
  have BD := BG w.drew (Below.refl _ _).drew
  have B0 := BG w (Below.refl _ _)
  clear BG
  by_cases g : a.length = b.length
  · have es' : Hid (begins a b = decide (a = b)) := ⟨by rw [← es]; simp [g]⟩
    rw [← es'.out]
    clear es
    generalize begins a b = bo at *
    have gI : ((a.length : Int) == (b.length : Int)) = true := by simp [g]
    generalize a.length = n at *
    generalize b.length = m at *
    subst g
    go_enter Tryz.func14, Tryz.ntmps14
    go_wp2_with (go_at_call 10; refine B0.mono ?_; rintro e w8 ⟨rfl, B8⟩; have HB8 := Hid.mk B8; clear B8)
    go_ret
    exact ⟨rfl, HB8.out⟩
  · have es' : Hid (decide (a = b) = false) := ⟨decide_eq_false (fun z => g (by rw [z]))⟩
    rw [es'.out]
    clear es es'
    have gI : ((a.length : Int) == (b.length : Int)) = false := beq_eq_false_iff_ne.2 (by omega)
    generalize a.length = n at *
    generalize b.length = m at *
    go_enter Tryz.func14, Tryz.ntmps14
    go_wp2
    go_ret
    exact ⟨rfl, Below.refl _ _⟩
set_option maxRecDepth 100000 in
set_option maxHeartbeats 2000000 in
theorem trees_none (w : World) : Calls Tryz.prog 23 #[.agg #[.int .i64 0, .string ⟨#[]⟩, .int .i64 0, .slice none 0 0], .agg #[.int .i64 0, .string ⟨#[]⟩, .int .i64 0, .slice none 0 0]] w fun r w' => r = .returned (.bool true) ∧ Below w.heap.size w w' := by
  obtain ⟨W, hW⟩ : ∃ W, W = (w.alloc (.cells #[.int .i64 0, .string ⟨#[]⟩, .int .i64 0, .slice none 0 0] 33)).alloc (.cells #[.int .i64 0, .string ⟨#[]⟩, .int .i64 0, .slice none 0 0] 33) := ⟨_, rfl⟩
  have KW : Below w.heap.size w W := by rw [hW]; exact (Joins.below_alloc1 w _).alloc (Joins.below_alloc1 w _).size _
  have X1 : Bx W w.heap.size #[.int .i64 0, .string ⟨#[]⟩, .int .i64 0, .slice none 0 0] 33 := by rw [hW]; exact later' (heap_alloc_new w _) (Joins.below_alloc1 _ _)
  have X2 : Bx W (w.heap.size + 1) #[.int .i64 0, .string ⟨#[]⟩, .int .i64 0, .slice none 0 0] 33 := by
    rw [hW]
    have := heap_alloc_new (w.alloc (.cells #[.int .i64 0, .string ⟨#[]⟩, .int .i64 0, .slice none 0 0] 33)) (.cells #[.int .i64 0, .string ⟨#[]⟩, .int .i64 0, .slice none 0 0] 33)
    rwa [World.size_alloc] at this
  have HK := Hid.mk KW
  have a0 := X1.cell 0
  have a1 := X1.cell 1
  have a2 := X1.cell 2
  have a3 := X1.cell 3
  have b0 := X2.cell 0
  have b1 := X2.cell 1
  have b2 := X2.cell 2
  have b3 := X2.cell 3
  clear KW X1 X2
  go_enter Tryz.func23, Tryz.ntmps23
  go_wp2
  rw [← hW]
  clear hW
  go_loopw [5] (fun c wr => c = .int .i64 0 ∧ wr = W) (fun _ _ => 0)
  case atStart => exact ⟨rfl, rfl⟩
  case round =>
    obtain ⟨rfl, rfl⟩ := hrel
    go_wp2
    go_ret
    exact ⟨rfl, HK.out⟩
set_option maxRecDepth 100000 in
set_option maxHeartbeats 2000000 in
theorem osame_none (w : World) : Calls Tryz.prog 13 #[.agg #[.int .i64 0, .int .i64 0, .int .i64 0, .string ⟨#[]⟩, .int .i64 0, .slice none 0 0], .agg #[.int .i64 0, .int .i64 0, .int .i64 0, .string ⟨#[]⟩, .int .i64 0, .slice none 0 0]] w fun r w' => r = .returned (.bool true) ∧ Below w.heap.size w w' := by
  obtain ⟨W, hW⟩ : ∃ W, W = (w.alloc (.cells #[.int .i64 0, .int .i64 0, .int .i64 0, .string ⟨#[]⟩, .int .i64 0, .slice none 0 0] 35)).alloc (.cells #[.int .i64 0, .int .i64 0, .int .i64 0, .string ⟨#[]⟩, .int .i64 0, .slice none 0 0] 35) := ⟨_, rfl⟩
  have KW : Below w.heap.size w W := by rw [hW]; exact (Joins.below_alloc1 w _).alloc (Joins.below_alloc1 w _).size _
  have TN := trees_none W
  have HK := Hid.mk KW
  subst hW
  clear KW
  go_enter Tryz.func13, Tryz.ntmps13
  go_wp2_with (go_at_call 23; refine TN.mono ?_; rintro e w8 ⟨rfl, B8⟩; have HB8 := Hid.mk B8; clear B8)
  go_ret
  exact ⟨rfl, HK.out.trans (Joins.below_le HB8.out HK.out.size)⟩
end Go.Proofs.YtbajpejnnfacbaaGreatDoor.Lz

/- A nil machine does nothing: the law's walk; a call that came in, opened. -/
namespace Go.Proofs.YtbajpejnnfacbaaGreatDoor.Lz
open Go.ChangeShapes Go.WideShapes Go.ChangeAt Go.RowKit
set_option linter.unusedVariables false
set_option linter.unusedSimpArgs false

abbrev nil6 : Array Value := #[.int .i64 0, .int .i64 0, .int .i64 0, .string ⟨#[]⟩, .int .i64 0, .slice none 0 0]
set_option maxRecDepth 100000 in
set_option maxHeartbeats 4000000 in
theorem none_any (w : World) (T : Table w) (a0 a1 a2 a3 : Int) (s : ByteArray) (ga : Option Addr) (m cap : Nat) :
    Calls Tryz.prog 6 #[.agg #[.int .i64 a0, .int .i64 a1, .int .i64 a2, .int .i64 a3, .string s, .slice ga m cap]] w fun e w' => e = .returned (.bool true) ∧ Below w.heap.size w w' := by
  obtain ⟨W1, hW1⟩ : ∃ W1, W1 = w.alloc (.cells #[.int .i64 a0, .int .i64 a1, .int .i64 a2, .int .i64 a3, .string s, .slice ga m cap] 28) := ⟨_, rfl⟩
  have B1 : Below w.heap.size w W1 := by subst hW1; exact Joins.below_alloc1 _ _
  have c1 : W1.cell? ⟨w.heap.size, 1, none⟩ = some (.int .i64 a1) := by subst hW1; exact cellN _ _ _ _ _ rfl
  have c2 : W1.cell? ⟨w.heap.size, 2, none⟩ = some (.int .i64 a2) := by subst hW1; exact cellN _ _ _ _ _ rfl
  have c3 : W1.cell? ⟨w.heap.size, 3, none⟩ = some (.int .i64 a3) := by subst hW1; exact cellN _ _ _ _ _ rfl
  have c4 : W1.cell? ⟨w.heap.size, 4, none⟩ = some (.string s) := by subst hW1; exact cellN _ _ _ _ _ rfl
  have c5 : W1.cell? ⟨w.heap.size, 5, none⟩ = some (.slice ga m cap) := by subst hW1; exact cellN _ _ _ _ _ rfl
  have HT : Hid (∀ W, Below W1.heap.size W1 W → Table W) := ⟨fun W hW => T.later (lOn B1 hW)⟩
  have HB1 := Hid.mk B1
  clear T B1
  go_enter Tryz.func6, Tryz.ntmps6
  go_upto_region 1 with fail
  rw [← hW1]
  clear hW1
  go_wp2_with (first
    | (go_at_call 18; refine (make_none _ _ _ _ _).mono ?_; rintro r w9 ⟨rfl, rfl⟩)
    | (go_at_call 16; refine (show_none _ _ _ _).mono ?_; rintro r w3 ⟨rfl, G3⟩; have A3 := Joins.below_alloc1 w3 (.cells nil6 35); have d1 := cellL A3 (cellL G3 c1); have k0 := cellN w3 nil6 35 0 _ rfl; have k1 := cellN w3 nil6 35 1 _ rfl; have k2 := cellN w3 nil6 35 2 _ rfl; have k3 := cellN w3 nil6 35 3 _ rfl; have k4 := cellN w3 nil6 35 4 _ rfl; have k5 := cellN w3 nil6 35 5 _ rfl; have K3 := Hid.mk (lOn G3 A3); clear G3 A3 c1 c2 c3 c4 c5)
    | (go_at_call 8; refine (awake_any _ (HT.out _ K3.out)).mono ?_; rintro r w5 ⟨rfl, G5⟩; replace d1 := cellL G5 d1; replace k0 := cellL G5 k0; replace k1 := cellL G5 k1; replace k2 := cellL G5 k2; replace k3 := cellL G5 k3; replace k4 := cellL G5 k4; replace k5 := cellL G5 k5; have K5 := Hid.mk (lOn K3.out G5); clear G5)
    | (go_at_call 13; refine (osame_none _).mono ?_; rintro r w6 ⟨rfl, G6⟩; replace d1 := cellL G6 d1; have K6 := Hid.mk (lOn K5.out G6); clear G6)
    | (go_at_call 19; refine (drop_none _ _).mono ?_; rintro r w9 ⟨rfl, rfl⟩)
    | (go_at_call 11; refine (out_none _).mono ?_; rintro r w9 ⟨rfl, rfl⟩)
    | (go_at_call 12; refine (steps_none _).mono ?_; rintro r w9 ⟨rfl, rfl⟩))
  go_ret
  exact ⟨rfl, lOn HB1.out K6.out⟩
theorem c28 : Tryz.prog.cellsOf 28 = 6 := by kernel_rfl
theorem q3 : Tryz.prog.cellsOf 3 = 1 := by kernel_rfl
theorem q9 : Tryz.prog.cellsOf 9 = 1 := by kernel_rfl
theorem q26 : Tryz.prog.cellsOf 26 = 1 := by kernel_rfl
section
variable {H : Type} {enc : TypeId × Value → H} {w : World} {spare : Nat → Bool} {held : Bool}
set_option maxRecDepth 100000 in
theorem op_act {fuel : Nat} {cs : List Value} {x : DataW H × List MemPlace} (h : DataW.trod enc Tryz.prog w 0 spare held fuel 28 cs = some x) : ∃ a0 a1 a2 a3 s ga m c, cs = [.int .i64 a0, .int .i64 a1, .int .i64 a2, .int .i64 a3, .string s, .slice ga m c] := by
  obtain ⟨xs, n, _, rfl, hl, hlen, hf⟩ := DataW.trod_struct Tryz.underlying28 h
  rw [c28] at hl
  match cs, hl, xs, hlen with
  | [v0, v1, v2, v3, v4, v5], _, [x0, x1, x2, x3, x4, x5], _ =>
    have f0 := hf 0 _ rfl
    have f1 := hf 1 _ rfl
    have f2 := hf 2 _ rfl
    have f3 := hf 3 _ rfl
    have f4 := hf 4 _ rfl
    have f5 := hf 5 _ rfl
    simp [q3, q9, q26] at f0 f1 f2 f3 f4 f5
    obtain ⟨k0, e0, y0, w0⟩ := DataW.trod_int Tryz.underlying3 f0
    obtain ⟨k1, e1, y1, w1⟩ := DataW.trod_int Tryz.underlying3 f1
    obtain ⟨k2, e2, y2, w2⟩ := DataW.trod_int Tryz.underlying3 f2
    obtain ⟨k3, e3, y3, w3⟩ := DataW.trod_int Tryz.underlying3 f3
    obtain ⟨k4, e4, y4, w4⟩ := DataW.trod_string Tryz.underlying9 f4
    obtain ⟨ga, m, c, e5⟩ : ∃ ga m c, [v5] = [Value.slice ga m c] := by
      rcases Deep.open_slice Tryz.underlying26 f5 with ⟨e, _⟩ | ⟨a, len, cap, m, n, D, Pl, e, _⟩
      · exact ⟨none, 0, 0, e⟩
      · exact ⟨some a, len, cap, e⟩
    simp only [List.cons.injEq, and_true] at e0 e1 e2 e3 e4 e5
    subst e0 e1 e2 e3 e4 e5
    exact ⟨_, _, _, _, _, _, _, _, rfl⟩
theorem open_act {v : Value} {d : DataW H} {p : List MemPlace} (h : DataW.Trod enc Tryz.prog w 0 spare held 28 v d p) : ∃ a0 a1 a2 a3 s ga m c, v = .agg #[.int .i64 a0, .int .i64 a1, .int .i64 a2, .int .i64 a3, .string s, .slice ga m c] := by
  obtain ⟨fuel, hf⟩ := h
  obtain ⟨a0, a1, a2, a3, s, ga, m, c, e⟩ := op_act hf
  refine ⟨a0, a1, a2, a3, s, ga, m, c, ?_⟩
  cases v with
  | agg cs =>
    obtain ⟨l⟩ := cs
    simp only [Value.cells] at e
    rw [e]
  | _ => simp [Value.cells] at e
end
end Go.Proofs.YtbajpejnnfacbaaGreatDoor.Lz
