/- The document's check: its block, the fault, the first data of a name. -/
import Derived.Test.YtcbdolflgpmaoaaDoorScb
namespace Go.Proofs.YtcbdolflgpmaoaaDoor
open Go.RowKit
set_option linter.unusedVariables false
set_option linter.unusedSimpArgs false

abbrev ptr (b : Nat) : Value := .pointer (some ⟨b, 0, none⟩)
abbrev done : Ending := .returned (.tuple #[])
def atF : Flt → Int | none => 0 | some x => x.1
def erF : Flt → Int | none => 0 | some x => x.2
/-- the checker's block: the program's two lists, and the first fault -/
def Ck (w : World) (b : Nat) (vd vb : Value) (f : Flt) : Prop := w.heap[b]? = some (.cells #[vd, vb, .bool f.isSome, .int .i64 (atF f), .int .i64 (erF f)] 56 (0, 0))
theorem Ck.lt {w : World} {b : Nat} {vd vb : Value} {f : Flt} (h : Ck w b vd vb f) : b < w.heap.size := (Array.getElem?_eq_some_iff.1 h).1
theorem Ck.later {w w' : World} {b : Nat} {vd vb : Value} {f : Flt} (h : Ck w b vd vb f) (hb : Below w.heap.size w w') : Ck w' b vd vb f := (hb.block b h.lt).trans h
theorem Ck.cell {w : World} {b : Nat} {vd vb : Value} {f : Flt} (h : Ck w b vd vb f) (j : Nat) : w.cell? ⟨b, j, none⟩ = #[vd, vb, .bool f.isSome, .int .i64 (atF f), .int .i64 (erF f)][j]? := Joins.cell_of_block h j
theorem Ck.z {w : World} {b : Nat} {vd vb : Value} {f : Flt} (h : Ck w b vd vb f) (j : Nat) : w.frozen? ⟨b, j, none⟩ = false := Joins.unfrozen_of_block h j
set_option maxHeartbeats 1000000 in
theorem fail_any {w : World} {b : Nat} {vd vb : Value} {f : Flt} (h : Ck w b vd vb f) (a c : Int) :
    Calls Tryd.prog 17 #[ptr b, .int .i64 a, .int .i64 c] w fun e w' => e = done ∧ Fr b w w' ∧ Ck w' b vd vb (orF f (some (a, c))) := by
  have c2 : w.cell? ⟨b, 2, none⟩ = some (.bool f.isSome) := h.cell 2
  have c3 : w.cell? ⟨b, 3, none⟩ = some (.int .i64 (atF f)) := h.cell 3
  have c4 : w.cell? ⟨b, 4, none⟩ = some (.int .i64 (erF f)) := h.cell 4
  have z2 := h.z 2
  have z3 := h.z 3
  have z4 := h.z 4
  have H : Hid (Ck w b vd vb f) := ⟨h⟩
  clear h
  cases f with
  | some x =>
    simp only [Option.isSome_some] at c2
    go_enter Tryd.func17, Tryd.ntmps17
    go_wp2
    go_end0
    exact ⟨rfl, Fr.refl _ _, H.out⟩
  | none =>
    simp only [Option.isSome_none] at c2
    go_enter Tryd.func17, Tryd.ntmps17
    go_wp2
    go_end0
    refine ⟨rfl, (((Fr.refl b w).set 2 _).set 3 _).set 4 _, ?_⟩
    exact Joins.block_setCell (i := 4) (Joins.block_setCell (i := 3) (Joins.block_setCell (i := 2) H.out _) _) _
def arV (r : Option Int) : Value := match r with | none => .tuple #[.int .i64 0, .bool false] | some a => .tuple #[.int .i64 a, .bool true]
theorem datC_get (ds : List D) (k : Nat) (h : k < ds.length) : (datC ds)[k * 3]? = some (.string (str (ds[k]'h).name)) ∧ (datC ds)[k * 3 + 1]? = some (.int .i64 (ds[k]'h).arity) ∧ (datC ds)[k * 3 + 2]? = some (.int .i64 (ds[k]'h).at') := by
  induction ds generalizing k with
  | nil => simp at h
  | cons d r ih =>
    have e : datC (d :: r) = [.string (str d.name), .int .i64 d.arity, .int .i64 d.at'] ++ datC r := by simp [datC]
    rw [e]
    cases k with
    | zero => simp
    | succ k =>
      have := ih k (by simpa using h)
      have e3 : (k + 1) * 3 = k * 3 + 3 := by omega
      rw [e3]
      simpa using this
set_option maxHeartbeats 1000000 in
theorem refArity_any {w : World} {ok : Nat → Prop} (ds : List D) (vd vb : Value) (R : IsRow w ok (datC ds) ds.length vd) (s : Nm) :
    Calls Tryd.prog 13 #[.agg #[vd, vb], .string (str s)] w fun e w' => e = .returned (arV (arityN ds s)) ∧ Below w.heap.size w w' := by
  obtain ⟨ga, cap, rfl, hc, hx⟩ := R
  obtain ⟨r, hr⟩ : ∃ r, arityN ds s = r := ⟨_, rfl⟩
  have HR : Hid (arityN (ds.drop 0) s = r) := ⟨by rw [List.drop_zero]; exact hr⟩
  have HX : Hid (0 < ds.length → ∃ g off, ga = some ⟨g, off, none⟩ ∧ ok g ∧ ∀ (j : Nat) (u : Value), (datC ds)[j]? = some u → w.cell? ⟨g, off + j, none⟩ = some u) := ⟨hx⟩
  rw [hr]
  clear hr hx
  obtain ⟨n, hn⟩ : ∃ n, ds.length = n := ⟨_, rfl⟩
  have HN : Hid (ds.length = n) := ⟨hn⟩
  rw [hn] at hc ⊢
  clear hn
  have q0 : (w.alloc (.cells #[.slice ga n cap, vb] 25)).cell? ⟨w.heap.size, 0, none⟩ = some (.slice ga n cap) := Joins.cell_of_block (heap_alloc_new w _) 0
  have b0 := Joins.below_alloc1 w (.cells #[.slice ga n cap, vb] 25)
  have HB : Hid (Below w.heap.size w (w.alloc (.cells #[.slice ga n cap, vb] 25))) := ⟨b0⟩
  clear b0
  go_enter Tryd.func13, Tryd.ntmps13
  go_wp2
  generalize w.alloc (.cells #[.slice ga n cap, vb] 25) = w1 at *
  go_loopw [6] (fun c wr => ∃ k : Nat, c = .int .i64 k ∧ k ≤ n ∧ Hid (arityN (ds.drop k) s = r) ∧ w1 = wr) (fun c _ => n - (intOf c).toNat)
  case atStart => exact ⟨0, rfl, Nat.zero_le _, HR, rfl⟩
  case round =>
    obtain ⟨k, rfl, hk, HK, rfl⟩ := hrel
    by_cases hlt : k < n
    · have kl : k < ds.length := by rw [HN.out]; exact hlt
      obtain ⟨g, off, rfl, _, hx⟩ := HX.out (by omega)
      obtain ⟨g0, g1, _⟩ := datC_get ds k kl
      have c0 := hx _ _ g0
      have c1 := hx _ _ g1
      replace c0 := (HB.out.cell (World.block_lt_of_cell? _ _ c0)).trans c0
      replace c1 := (HB.out.cell (World.block_lt_of_cell? _ _ c1)).trans c1
      rw [← Nat.add_assoc] at c1
      have hst := HK.out
      rw [List.drop_eq_getElem_cons kl, arityN] at hst
      have hlt' : (k : Int) < n := by omega
      by_cases q : (ds[k]'kl).name = s
      · rw [if_pos q] at hst
        have q' : ((str (ds[k]'kl).name).toList == (str s).toList) = true := by rw [q]; simp
        have HT : Hid (r = some (ds[k]'kl).arity) := ⟨hst.symm⟩
        generalize str (ds[k]'kl).name = t at c0 q'
        generalize (ds[k]'kl).arity = a at c1 HT
        clear hst hx HK HR HX g0 g1 q
        go_wp2
        go_ret2
        exact ⟨by rw [HT.out]; rfl, HB.out⟩
      · rw [if_neg q] at hst
        have q' : ((str (ds[k]'kl).name).toList == (str s).toList) = false := by rw [str_eqb]; exact beq_eq_false_iff_ne.2 q
        have HK' : Hid (arityN (ds.drop (k + 1)) s = r) := ⟨hst⟩
        generalize str (ds[k]'kl).name = t at c0 q'
        clear hst hx HK HR HX g0 g1 q
        go_wp2
        exact ⟨⟨k + 1, by go_num, by omega, HK', trivial⟩, by simp [intOf]; omega⟩
    · obtain rfl : k = n := by omega
      have HT : Hid (r = none) := ⟨by have := HK.out; rw [List.drop_eq_nil_of_le (by rw [HN.out]; omega)] at this; exact this.symm⟩
      clear HK HR HX
      go_wp2
      go_ret2
      exact ⟨by rw [HT.out]; rfl, HB.out⟩
end Go.Proofs.YtcbdolflgpmaoaaDoor
