/- How many fields a constructor has, whatever list of datas there is. -/
import Derived.Test.YtcbdolflgpmaoaaDoorOpn
import Derived.Test.YtcbdolflgpmaoaaDoorAwk
namespace Go.Proofs.YtcbdolflgpmaoaaDoor
open Go.ChangeShapes Go.WideShapes Go.ChangeAt Go.RowKit
set_option linter.unusedVariables false
set_option linter.unusedSimpArgs false
set_option maxRecDepth 100000

/-- a slice of n items whose cells are those, however many -/
def IsRowG (w : World) (ok : Nat → Prop) (xs : List Value) (n : Nat) (v : Value) : Prop :=
  ∃ ga cap, v = .slice ga n cap ∧ (n ≤ cap ∧ n ≤ 9223372036854775807) ∧ (0 < n → ∃ g off, ga = some ⟨g, off, none⟩ ∧ ok g ∧ ∀ j u, xs[j]? = some u → w.cell? ⟨g, off + j, none⟩ = some u)
theorem IsRowG.keeps {ok ok' : Nat → Prop} {w w' : World} {xs : List Value} {n : Nat} {v : Value} (hk : Keeps ok ok' w w') (h : IsRowG w ok xs n v) : IsRowG w' ok' xs n v := by
  obtain ⟨ga, cap, rfl, hc, h⟩ := h
  refine ⟨ga, cap, rfl, hc, fun hn => ?_⟩
  obtain ⟨g, off, rfl, ho, hx⟩ := h hn
  exact ⟨g, off, rfl, hk.ok g ho, fun j u hj => hk.cell g _ u ho (hx j u hj)⟩
section
variable {H : Type} {enc : TypeId × Value → H} {w : World} {spare : Nat → Bool} {held : Bool}
theorem open_datas {fuel : Nat} {cs : List Value} {x : DataW H × List MemPlace} (h : DataW.trod enc Tryd.prog w 0 spare held fuel 22 cs = some x) : ∃ (l : List D) (v : Value), cs = [v] ∧ IsRowG w (fun g => g < w.heap.size) (datC l) l.length v := by
  have cD : Tryd.prog.cellsOf 58 = 3 := by kernel_rfl
  have elem : ∀ fuel cs (x : DataW H × List MemPlace), DataW.trod enc Tryd.prog w 0 spare held fuel 58 cs = some x → ∃ y : D, cs = [.string (str y.name), .int .i64 y.arity, .int .i64 y.at'] := fun fuel cs x hh => by
    obtain ⟨q2, q3, q9, _, _, _, _, _⟩ := c1s
    obtain ⟨xs, n, _, rfl, hl, hlen, hf⟩ := DataW.trod_struct Tryd.underlying58 hh
    rw [cD] at hl
    match cs, hl, xs, hlen with
    | [v0, v1, v2], _, [x0, x1, x2], _ =>
      have f0 := hf 0 _ rfl
      have f1 := hf 1 _ rfl
      have f2 := hf 2 _ rfl
      simp [q3, q9] at f0 f1 f2
      obtain ⟨s, e0, y0, _⟩ := DataW.trod_string Tryd.underlying9 f0
      obtain ⟨k, e1, y1, w1⟩ := DataW.trod_int Tryd.underlying3 f1
      obtain ⟨k2, e2, y2, w2⟩ := DataW.trod_int Tryd.underlying3 f2
      simp only [List.cons.injEq, and_true] at e0 e1 e2
      subst e0 e1 e2
      exact ⟨⟨s.data.toList, k, k2⟩, by simp only [← str_eq (s := s) rfl]⟩
  rcases Deep.open_slice Tryd.underlying22 h with ⟨rfl, rfl⟩ | ⟨a, len, cap, m, n, D', Pl, rfl, _, hl, hm, hmm, rfl, hx⟩
  · exact ⟨[], _, rfl, none, 0, rfl, ⟨Nat.le_refl _, by simp⟩, fun q => absurd q (Nat.lt_irrefl _)⟩
  · rw [cD] at hx
    have hlm : len ≤ m := by rw [hmm]; split <;> omega
    have inh : Inhabited (D × List Value) := ⟨⟨⟨[], 0, 0⟩, []⟩⟩
    obtain ⟨T, hT⟩ := Deep.choose_lt (α := D × List Value) (n := len) (p := fun i t => w.cells? 0 (a.add (i * 3)) 3 = some t.2 ∧ t.2 = [.string (str t.1.name), .int .i64 t.1.arity, .int .i64 t.1.at']) (fun i hi => by
      obtain ⟨cs', h1, h2⟩ := hx i (by omega)
      obtain ⟨y, q1⟩ := elem n cs' _ h2
      exact ⟨(y, cs'), h1, q1⟩)
    have hlen : ∀ i, i < len → (T i).2.length = 3 := fun i hi => (World.cells?_some (hT i hi).1).2.1
    have eC : datC ((List.range len).map fun i => (T i).1) = (List.range len).flatMap fun i => (T i).2 := by
      have : ∀ n, n ≤ len → datC ((List.range n).map fun i => (T i).1) = (List.range n).flatMap fun i => (T i).2 := fun n => by
        induction n with
        | zero => intro _; rfl
        | succ n ih =>
          intro hn
          have e1 := ih (by omega)
          have e2 := (hT n (by omega)).2
          rw [List.range_succ, List.map_append, List.flatMap_append, ← e1]
          simp only [datC, List.map_cons, List.map_nil, List.flatMap_append, List.flatMap_cons, List.flatMap_nil, List.append_nil]
          rw [e2]
      exact this len (Nat.le_refl _)
    refine ⟨(List.range len).map fun i => (T i).1, _, rfl, ?_⟩
    rw [eC, List.length_map, List.length_range]
    refine ⟨some a, cap, rfl, ⟨hl, by simp only [maxLen] at hm; omega⟩, fun hq => ?_⟩
    obtain ⟨B, O, spot⟩ := a
    have hz : 0 < 3 := by decide
    have hs : spot = none := by
      obtain ⟨_, _, hcell⟩ := World.cells?_some (hT 0 hq).1
      have q := hcell 0 hz
      have q2 : (T 0).2[0]? = some ((T 0).2[0]'(by rw [hlen 0 hq]; exact hz)) := List.getElem?_eq_getElem _
      rw [q2] at q
      simp [Addr.add] at q
      simpa using World.cell?_spot q
    subst hs
    have cellsI : ∀ i r u, i < len → r < 3 → (T i).2[r]? = some u → w.cell? ⟨B, O + (i * 3 + r), none⟩ = some u := fun i r u hi hr hu => by
      obtain ⟨_, _, hcell⟩ := World.cells?_some (hT i hi).1
      have q := hcell r hr
      rw [add_spot, add_spot, hu, Nat.add_assoc] at q
      exact q
    refine ⟨B, O, rfl, ?_, fun j u hj => ?_⟩
    · have q2 : (T 0).2[0]? = some ((T 0).2[0]'(by rw [hlen 0 hq]; exact hz)) := List.getElem?_eq_getElem _
      exact World.block_lt_of_cell? _ _ (cellsI 0 0 _ hq hz q2)
    · obtain ⟨i, r, hi, hr, rfl, hu⟩ := flat_get _ 3 hz len hlen j u hj
      exact cellsI i r u hi hr hu
theorem open_pd {v : Value} {d : DataW H} {p : List MemPlace} (h : DataW.Trod enc Tryd.prog w 0 spare held 25 v d p) : ∃ (l : List D) (vd vb : Value), v = .agg #[vd, vb] ∧ IsRowG w (fun g => g < w.heap.size) (datC l) l.length vd ∧ ∃ g n c, vb = .slice g n c := by
  obtain ⟨fuel, hf0⟩ := h
  obtain ⟨xs, n, _, ex, hl, hlen, hf⟩ := DataW.trod_struct Tryd.underlying25 hf0
  have c0 : Tryd.prog.cellsOf 25 = 2 := by kernel_rfl
  have c1 : Tryd.prog.cellsOf 22 = 1 := by kernel_rfl
  obtain ⟨q2, q3, q9, qs, qt, qb, qe, qa⟩ := c1s
  rw [c0] at hl
  cases v with
  | agg cs =>
    simp only [Value.cells] at hl hf
    obtain ⟨cl⟩ := cs
    simp only at hl hf
    match cl, hl, xs, hlen with
    | [v0, v1], _, [x0, x1], _ =>
      have f0 := hf 0 _ rfl
      have f1 := hf 1 _ rfl
      simp [c1, qb] at f0 f1
      obtain ⟨l, v, ev, R⟩ := open_datas f0
      simp only [List.cons.injEq, and_true] at ev
      subst ev
      have hb : ∃ g n c, v1 = .slice g n c := by
        rcases Deep.open_slice Tryd.underlying23 f1 with ⟨e, _⟩ | ⟨a, len, cap, m, n, D', Pl, e, _⟩
        · simp only [List.cons.injEq, and_true] at e; exact ⟨_, _, _, e⟩
        · simp only [List.cons.injEq, and_true] at e; exact ⟨_, _, _, e⟩
      exact ⟨l, _, _, rfl, R, hb⟩
  | _ => simp [Value.cells] at hl
end
set_option maxHeartbeats 1000000 in
theorem refArityG_any {w : World} {ok : Nat → Prop} (ds : List D) (vd vb : Value) (R : IsRowG w ok (datC ds) ds.length vd) (s : Nm) :
    Calls Tryd.prog 13 #[.agg #[vd, vb], .string (str s)] w fun e w' => e = .returned (arV (arityN ds s)) ∧ Below w.heap.size w w' := by
  obtain ⟨ga, cap, rfl, hc, hx⟩ := R
  obtain ⟨r, hr⟩ : ∃ r, arityN ds s = r := ⟨_, rfl⟩
  have HR : Hid (arityN (ds.drop 0) s = r) := ⟨by rw [List.drop_zero]; exact hr⟩
  have HX : Hid (0 < ds.length → ∃ g off, ga = some ⟨g, off, none⟩ ∧ ok g ∧ ∀ (j : Nat) (u : Value), (datC ds)[j]? = some u → w.cell? ⟨g, off + j, none⟩ = some u) := ⟨hx⟩
  rw [hr]
  clear hr hx
  obtain ⟨n, hn⟩ : ∃ n, ds.length = n := ⟨_, rfl⟩
  have HN : Hid (ds.length = n) := ⟨hn⟩
  rw [hn] at hc ⊢
  clear hn
  have q0 : (w.alloc (.cells #[.slice ga n cap, vb] 25)).cell? ⟨w.heap.size, 0, none⟩ = some (.slice ga n cap) := Joins.cell_of_block (heap_alloc_new w _) 0
  have b0 := Joins.below_alloc1 w (.cells #[.slice ga n cap, vb] 25)
  have HB : Hid (Below w.heap.size w (w.alloc (.cells #[.slice ga n cap, vb] 25))) := ⟨b0⟩
  clear b0
  go_enter Tryd.func13, Tryd.ntmps13
  go_wp2
  generalize w.alloc (.cells #[.slice ga n cap, vb] 25) = w1 at *
  go_loopw [6] (fun c wr => ∃ k : Nat, c = .int .i64 k ∧ k ≤ n ∧ Hid (arityN (ds.drop k) s = r) ∧ w1 = wr) (fun c _ => n - (intOf c).toNat)
  case atStart => exact ⟨0, rfl, Nat.zero_le _, HR, rfl⟩
  case round =>
    obtain ⟨k, rfl, hk, HK, rfl⟩ := hrel
    by_cases hlt : k < n
    · have kl : k < ds.length := by rw [HN.out]; exact hlt
      obtain ⟨g, off, rfl, _, hx⟩ := HX.out (by omega)
      obtain ⟨g0, g1, _⟩ := datC_get ds k kl
      have c0 := hx _ _ g0
      have c1 := hx _ _ g1
      replace c0 := (HB.out.cell (World.block_lt_of_cell? _ _ c0)).trans c0
      replace c1 := (HB.out.cell (World.block_lt_of_cell? _ _ c1)).trans c1
      rw [← Nat.add_assoc] at c1
      have hst := HK.out
      rw [List.drop_eq_getElem_cons kl, arityN] at hst
      have hlt' : (k : Int) < n := by omega
      by_cases q : (ds[k]'kl).name = s
      · rw [if_pos q] at hst
        have q' : ((str (ds[k]'kl).name).toList == (str s).toList) = true := by rw [q]; simp
        have HT : Hid (r = some (ds[k]'kl).arity) := ⟨hst.symm⟩
        generalize str (ds[k]'kl).name = t at c0 q'
        generalize (ds[k]'kl).arity = a at c1 HT
        clear hst hx HK HR HX g0 g1 q
        go_wp2
        go_ret2
        exact ⟨by rw [HT.out]; rfl, HB.out⟩
      · rw [if_neg q] at hst
        have q' : ((str (ds[k]'kl).name).toList == (str s).toList) = false := by rw [str_eqb]; exact beq_eq_false_iff_ne.2 q
        have HK' : Hid (arityN (ds.drop (k + 1)) s = r) := ⟨hst⟩
        generalize str (ds[k]'kl).name = t at c0 q'
        clear hst hx HK HR HX g0 g1 q
        go_wp2
        exact ⟨⟨k + 1, by go_num, by omega, HK', trivial⟩, by simp [intOf]; omega⟩
    · obtain rfl : k = n := by omega
      have HT : Hid (r = none) := ⟨by have := HK.out; rw [List.drop_eq_nil_of_le (by rw [HN.out]; omega)] at this; exact this.symm⟩
      clear HK HR HX
      go_wp2
      go_ret2
      exact ⟨by rw [HT.out]; rfl, HB.out⟩
set_option maxHeartbeats 1000000 in
theorem parityG_any {w : World} {ok : Nat → Prop} (ds : List D) (vd vb : Value) (R : IsRowG w ok (datC ds) ds.length vd) (s : Nm) :
    Calls Tryd.prog 12 #[.agg #[vd, vb], .string (str s)] w fun e w' => e = .returned (arV (arityN ds s)) ∧ Below w.heap.size w w' := by
  obtain ⟨ga, cap, rfl, hc, hx⟩ := R
  obtain ⟨r, hr⟩ : ∃ r, arityN ds s = r := ⟨_, rfl⟩
  have HR : Hid (arityN (ds.drop 0) s = r) := ⟨by rw [List.drop_zero]; exact hr⟩
  have HX : Hid (0 < ds.length → ∃ g off, ga = some ⟨g, off, none⟩ ∧ ok g ∧ ∀ (j : Nat) (u : Value), (datC ds)[j]? = some u → w.cell? ⟨g, off + j, none⟩ = some u) := ⟨hx⟩
  rw [hr]
  clear hr hx
  obtain ⟨n, hn⟩ : ∃ n, ds.length = n := ⟨_, rfl⟩
  have HN : Hid (ds.length = n) := ⟨hn⟩
  rw [hn] at hc ⊢
  clear hn
  have q0 : (w.alloc (.cells #[.slice ga n cap, vb] 25)).cell? ⟨w.heap.size, 0, none⟩ = some (.slice ga n cap) := Joins.cell_of_block (heap_alloc_new w _) 0
  have b0 := Joins.below_alloc1 w (.cells #[.slice ga n cap, vb] 25)
  have HB : Hid (Below w.heap.size w (w.alloc (.cells #[.slice ga n cap, vb] 25))) := ⟨b0⟩
  clear b0
  go_enter Tryd.func12, Tryd.ntmps12
  go_wp2
  generalize w.alloc (.cells #[.slice ga n cap, vb] 25) = w1 at *
  go_loopw [11] (fun c wr => ∃ k : Nat, c = .int .i64 k ∧ k ≤ n ∧ Hid (arityN (ds.drop k) s = r) ∧ Hid (Below w.heap.size w wr)) (fun c _ => n - (intOf c).toNat)
  case atStart => exact ⟨0, rfl, Nat.zero_le _, HR, HB⟩
  case round =>
    obtain ⟨k, rfl, hk, HK, HBW⟩ := hrel
    by_cases hlt : k < n
    · have kl : k < ds.length := by rw [HN.out]; exact hlt
      obtain ⟨g, off, rfl, _, hx⟩ := HX.out (by omega)
      obtain ⟨g0, g1, g2⟩ := datC_get ds k kl
      have c0 := hx _ _ g0
      have c1 := hx _ _ g1
      have c2 := hx _ _ g2
      replace c0 := (HBW.out.cell (World.block_lt_of_cell? _ _ c0)).trans c0
      replace c1 := (HBW.out.cell (World.block_lt_of_cell? _ _ c1)).trans c1
      replace c2 := (HBW.out.cell (World.block_lt_of_cell? _ _ c2)).trans c2
      rw [← Nat.add_assoc] at c1 c2
      generalize (ds[k]'kl).at' = dt at c2
      have hst := HK.out
      rw [List.drop_eq_getElem_cons kl, arityN] at hst
      have hlt' : (k : Int) < n := by omega
      by_cases q : (ds[k]'kl).name = s
      · rw [if_pos q] at hst
        have q' : ((str (ds[k]'kl).name).toList == (str s).toList) = true := by rw [q]; simp
        have HT : Hid (r = some (ds[k]'kl).arity) := ⟨hst.symm⟩
        generalize str (ds[k]'kl).name = t at c0 q'
        generalize (ds[k]'kl).arity = a at c1 HT
        clear hst hx HK HR HX g0 g1 g2 q
        have XW : Bx (wr.alloc (.cells #[.string t, .int .i64 a, .int .i64 dt] 58)) wr.heap.size #[.string t, .int .i64 a, .int .i64 dt] 58 := heap_alloc_new wr _
        have y0 := XW.cell 0
        have y1 := XW.cell 1
        have HB2 : Hid (Below w.heap.size w (wr.alloc (.cells #[.string t, .int .i64 a, .int .i64 dt] 58))) := ⟨HBW.out.alloc HBW.out.size _⟩
        go_wp2
        go_ret2
        exact ⟨by rw [HT.out]; rfl, HB2.out⟩
      · rw [if_neg q] at hst
        have q' : ((str (ds[k]'kl).name).toList == (str s).toList) = false := by rw [str_eqb]; exact beq_eq_false_iff_ne.2 q
        have HK' : Hid (arityN (ds.drop (k + 1)) s = r) := ⟨hst⟩
        generalize str (ds[k]'kl).name = t at c0 q'
        generalize (ds[k]'kl).arity = a at c1
        clear hst hx HK HR HX g0 g1 g2 q
        have XW : Bx (wr.alloc (.cells #[.string t, .int .i64 a, .int .i64 dt] 58)) wr.heap.size #[.string t, .int .i64 a, .int .i64 dt] 58 := heap_alloc_new wr _
        have y0 := XW.cell 0
        have y1 := XW.cell 1
        have HB2 : Hid (Below w.heap.size w (wr.alloc (.cells #[.string t, .int .i64 a, .int .i64 dt] 58))) := ⟨HBW.out.alloc HBW.out.size _⟩
        go_wp2
        exact ⟨⟨k + 1, by go_num, by omega, HK', HB2⟩, by simp [intOf]; omega⟩
    · obtain rfl : k = n := by omega
      have HT : Hid (r = none) := ⟨by have := HK.out; rw [List.drop_eq_nil_of_le (by rw [HN.out]; omega)] at this; exact this.symm⟩
      clear HK HR HX
      go_wp2
      go_ret2
      exact ⟨by rw [HT.out]; rfl, HBW.out⟩
set_option maxHeartbeats 4000000 in
/-- ScopeArity, of whatever list of datas -/
theorem arity_law (l : List D) (vd : Value) (g : Option Addr) (n c : Nat) (s : Nm) (w : World) (T : Table w) (R : IsRowG w (fun g => g < w.heap.size) (datC l) l.length vd) :
    Calls Tryd.prog 5 #[.agg #[vd, .slice g n c], .string (str s)] w fun e w' => e = .returned (.bool true) ∧ Below w.heap.size w w' := by
  obtain ⟨gd, cd, rfl, _, _⟩ := id R
  have K1 := Joins.below_alloc1 w (.cells #[.slice gd l.length cd, .slice g n c] 25)
  have X1 : Bx (w.alloc (.cells #[.slice gd l.length cd, .slice g n c] 25)) w.heap.size #[.slice gd l.length cd, .slice g n c] 25 := heap_alloc_new w _
  have lift : ∀ W, Below w.heap.size w W → IsRowG W (fun g => g < W.heap.size) (datC l) l.length (.slice gd l.length cd) := fun W k => R.keeps (keeps_below k (fun g hg => Nat.lt_of_lt_of_le hg k.size))
  have C1 := parityG_any (ok := fun q => q < (w.alloc (.cells #[.slice gd l.length cd, .slice g n c] 25)).heap.size) l _ (.slice g n c) (lift _ K1) s
  have HC2 := Hid.mk (fun (W : World) (k : Below w.heap.size w W) => refArityG_any (w := W) (ok := fun g => g < W.heap.size) l _ (.slice g n c) (lift W k) s)
  have HAW := Hid.mk (fun (W : World) (k : Below w.heap.size w W) => awake_any W (T.later k))
  have HALL := Hid.mk (And.intro K1 X1)
  have y0 := X1.cell 0
  have y1 := X1.cell 1
  generalize l.length = ld at *
  have ev : ∃ a b, arV (arityN l s) = .tuple #[.int .i64 a, .bool b] := by
    cases arityN l s with
    | none => exact ⟨_, _, rfl⟩
    | some r => exact ⟨_, _, rfl⟩
  obtain ⟨ra, rb, er⟩ := ev
  rw [er] at C1 HC2
  clear R T K1 X1 lift er
  go_enter Tryd.func5, Tryd.ntmps5
  go_wp2_with (first
    | (go_at_call 10; refine (HAW.out _ HB3.out).mono ?_; rintro e w4 ⟨rfl, B4⟩; have HB4 := Hid.mk (HB3.out.trans (Joins.below_le B4 HB3.out.size)); clear B4)
    | (go_at_call 13; refine (HC2.out _ HB2.out).mono ?_; rintro e w3 ⟨rfl, B3⟩; have HB3 := Hid.mk (HB2.out.trans (Joins.below_le B3 HB2.out.size)); clear B3)
    | (go_at_call 12; refine C1.mono ?_; rintro e w2 ⟨rfl, B2⟩; have HB2 := Hid.mk (HALL.out.1.trans (Joins.below_le B2 HALL.out.1.size)); have XW : Bx w2 w.heap.size #[.slice gd ld cd, .slice g n c] 25 := (B2.block _ HALL.out.2.lt).trans HALL.out.2; have z0 := XW.cell 0; have z1 := XW.cell 1; clear B2 C1 XW))
  go_ret
  exact ⟨rfl, HB4.out⟩
end Go.Proofs.YtcbdolflgpmaoaaDoor
