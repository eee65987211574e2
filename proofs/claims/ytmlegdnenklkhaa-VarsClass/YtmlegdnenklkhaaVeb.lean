/- A form that came in, however great, opened as far as its field is read. -/
import Derived.Test.YtmlegdnenklkhaaOpn
import Derived.Test.YtmlegdnenklkhaaVea
import Derived.SliceStrings
namespace Go.Proofs.Ytmlegdnenklkhaa
open Go.ChangeShapes Go.WideShapes Go.ChangeAt Go.RowKit
set_option linter.unusedVariables false
set_option linter.unusedSimpArgs false
set_option maxRecDepth 100000

section
variable {H : Type} {enc : TypeId × Value → H} {w : World} {spare : Nat → Bool} {held : Bool}
theorem slice_form {t e : TypeId} {fuel : Nat} {cs : List Value} {x : DataW H × List MemPlace} (ht : Try.prog.underlying t = some (.slice e)) (h : DataW.trod enc Try.prog w 0 spare held fuel t cs = some x) :
    ∃ g n c, cs = [.slice g n c] ∧ n ≤ c ∧ c ≤ maxLen := by
  rcases Deep.open_slice ht h with ⟨e, _⟩ | ⟨a, len, cap, m, n, D', Pl, e, _, hl, hm, _⟩
  · exact ⟨none, 0, 0, e, Nat.le_refl _, Nat.zero_le _⟩
  · exact ⟨_, _, _, e, hl, hm⟩
/-- an expression's cells -/
theorem exp_form {fuel : Nat} {cs : List Value} {x : DataW H × List MemPlace} (h : DataW.trod enc Try.prog w 0 spare held fuel 28 cs = some x) :
    ∃ (k a xm : Int) (s : ByteArray) (g4 : Option Addr) (n4 c4 : Nat) (g5 : Option Addr) (n5 c5 : Nat) (g6 : Option Addr) (n6 c6 : Nat) (g7 : Option Addr) (n7 c7 : Nat) (n : Nat) (x6 x7 : DataW H × List MemPlace), cs = (exp8 k a xm s g4 g5 g6 g7 n4 n5 n6 n7 c4 c5 c6 c7).toList ∧
      DataW.trod enc Try.prog w 0 spare held n 25 [.slice g6 n6 c6] = some x6 ∧ DataW.trod enc Try.prog w 0 spare held n 26 [.slice g7 n7 c7] = some x7 := by
  obtain ⟨xs, n, _, rfl, hl, hlen, hf⟩ := DataW.trod_struct Try.underlying28 h
  obtain ⟨q2, q3, q9, qs, qt, qb, qe, qa⟩ := c1s
  rw [cE] at hl
  match cs, hl, xs, hlen with
  | [v0, v1, v2, v3, v4, v5, v6, v7], _, [x0, x1, x2, x3, x4, x5, x6, x7], _ =>
    have f0 := hf 0 _ rfl
    have f1 := hf 1 _ rfl
    have f2 := hf 2 _ rfl
    have f3 := hf 3 _ rfl
    have f4 := hf 4 _ rfl
    have f5 := hf 5 _ rfl
    have f6 := hf 6 _ rfl
    have f7 := hf 7 _ rfl
    simp [q2, q3, q9, qt, qb, qe, qa] at f0 f1 f2 f3 f4 f5 f6 f7
    obtain ⟨k0, e0, y0, w0⟩ := DataW.trod_int Try.underlying3 f0
    obtain ⟨k1, e1, y1, w1⟩ := DataW.trod_int Try.underlying3 f1
    obtain ⟨s, e2, y2, _⟩ := DataW.trod_string Try.underlying9 f2
    obtain ⟨k3, e3, y3, w3⟩ := DataW.trod_int Try.underlying2 f3
    obtain ⟨g4, n4, c4, e4, _, _⟩ := slice_form Try.underlying23 f4
    obtain ⟨g5, n5, c5, e5, _, _⟩ := slice_form Try.underlying24 f5
    obtain ⟨g6, n6, c6, e6, _, _⟩ := slice_form Try.underlying25 f6
    obtain ⟨g7, n7, c7, e7, _, _⟩ := slice_form Try.underlying26 f7
    simp only [List.cons.injEq, and_true] at e0 e1 e2 e3 e4 e5 e6 e7
    subst e0 e1 e2 e3 e4 e5 e6 e7
    exact ⟨_, _, _, _, _, _, _, _, _, _, _, _, _, _, _, _, n, x6, x7, rfl, f6, f7⟩
/-- the first element of a slice -/
theorem first_of {t e : TypeId} {sz : Nat} (ht : Try.prog.underlying t = some (.slice e)) (hc : Try.prog.cellsOf e = sz) (hz : 0 < sz) {fuel : Nat} {g : Option Addr} {n c : Nat} {x : DataW H × List MemPlace} (h : DataW.trod enc Try.prog w 0 spare held fuel t [.slice g n c] = some x) (hn : 0 < n) :
    ∃ (B O : Nat) (cs : List Value) (m : Nat) (y : DataW H × List MemPlace), g = some ⟨B, O, none⟩ ∧ (∀ j u, cs[j]? = some u → w.cell? ⟨B, O + j, none⟩ = some u) ∧ DataW.trod enc Try.prog w 0 spare held m e cs = some y := by
  rcases Deep.open_slice ht h with ⟨e, _⟩ | ⟨a, len, cap, m, k, D', Pl, e, _, hl, hm, hmm, _, hx⟩
  · simp only [List.cons.injEq, Value.slice.injEq, and_true] at e
    omega
  · simp only [List.cons.injEq, Value.slice.injEq, and_true] at e
    obtain ⟨rfl, rfl, rfl⟩ := e
    have hlm : n ≤ m := by rw [hmm]; split <;> omega
    rw [hc] at hx
    obtain ⟨cs', h1, h2⟩ := hx 0 (by omega)
    rw [Nat.zero_mul] at h1
    obtain ⟨B, O, spot⟩ := a
    obtain ⟨_, hlen, hcell⟩ := World.cells?_some h1
    have hs : spot = none := by
      have q := hcell 0 hz
      have q2 : cs'[0]? = some (cs'[0]'(by rw [hlen]; exact hz)) := List.getElem?_eq_getElem _
      rw [q2] at q
      simp [Addr.add] at q
      simpa using World.cell?_spot q
    subst hs
    refine ⟨B, O, cs', k, _, rfl, fun j u hj => ?_, h2⟩
    have hj' : j < sz := by rw [← hlen]; exact (List.getElem?_eq_some_iff.1 hj).1
    have q := hcell j hj'
    rw [add_spot, add_spot, hj, Nat.add_zero] at q
    exact q
theorem open_kid {fuel : Nat} {g : Option Addr} {n c : Nat} {x : DataW H × List MemPlace} (h : DataW.trod enc Try.prog w 0 spare held fuel 25 [.slice g n c] = some x) : ∃ kk ks kl, 0 < n → KidAt w g kk ks kl := by
  by_cases hn : 0 < n
  · obtain ⟨B, O, cs, m, y, rfl, hx, h2⟩ := first_of Try.underlying25 cE (by decide) h hn
    obtain ⟨k, a, xm, s, g4, n4, c4, g5, n5, c5, g6, n6, c6, g7, n7, c7, _, _, _, rfl, _, _⟩ := exp_form h2
    exact ⟨k, s, n4, fun _ => ⟨B, O, a, xm, g4, c4, g5, n5, c5, g6, n6, c6, g7, n7, c7, rfl, fun j u hj => hx j u (by rw [← hj, ← Array.getElem?_toList])⟩⟩
  · exact ⟨0, ⟨#[]⟩, 0, fun z => absurd z hn⟩
theorem open_vars {fuel : Nat} {g : Option Addr} {n c : Nat} {x : DataW H × List MemPlace} (h : DataW.trod enc Try.prog w 0 spare held fuel 22 [.slice g n c] = some x) : ∃ vs : List Nm, vs.length = n ∧ StrRow w g vs := by
  rcases open_strings Try.underlying22 Try.underlying9 (by kernel_rfl) h with ⟨e, _⟩ | ⟨a, len, cap, ss, e, _, hl, hm, hss, _, hc, hsz⟩
  · simp only [List.cons.injEq, Value.slice.injEq, and_true] at e
    obtain ⟨rfl, rfl, rfl⟩ := e
    exact ⟨[], rfl, Nat.zero_le _, fun q => absurd q (by decide)⟩
  · simp only [List.cons.injEq, Value.slice.injEq, and_true] at e
    obtain ⟨rfl, rfl, rfl⟩ := e
    have hle : n ≤ ss.length := by rw [hss]; split <;> omega
    have el : ((ss.take n).map fun s => s.data.toList).length = n := by rw [List.length_map, List.length_take]; omega
    refine ⟨(ss.take n).map fun s => s.data.toList, el, by rw [el]; unfold maxLen at hm; omega, fun hn => ?_⟩
    rw [el] at hn
    obtain ⟨B, O, spot⟩ := a
    have hs : spot = none := by
      have q := hc 0 (by omega)
      simp [Addr.add] at q
      simpa using World.cell?_spot q
    subst hs
    refine ⟨B, O, rfl, fun j hj => ?_⟩
    rw [el] at hj
    have q := hc j (by omega)
    rw [add_spot] at q
    rw [q]
    congr 2
    rw [List.getElem_map, List.getElem_take, List.getD_eq_getElem?_getD, List.getElem?_eq_getElem (by omega)]
    exact str_eq rfl
theorem open_alt1 {fuel : Nat} {g : Option Addr} {n c : Nat} {x : DataW H × List MemPlace} (h : DataW.trod enc Try.prog w 0 spare held fuel 26 [.slice g n c] = some x) : ∃ ak an vs bk bs bl, 0 < n → AltAt w g ak an vs bk (str bs) bl := by
  by_cases hn : 0 < n
  · obtain ⟨B, O, cs, m, y, rfl, hx, h2⟩ := first_of Try.underlying26 cA (by decide) h hn
    obtain ⟨xs, m2, _, rfl, hl, hlen, hf⟩ := DataW.trod_struct Try.underlying51 h2
    obtain ⟨q2, q3, q9, qs, _, _, _, _⟩ := c1s
    rw [cA] at hl
    match cs, hl, xs, hlen with
    | [v0, v1, v2, v3, v4, v5, v6, v7, v8, v9, v10, v11, v12], _, [x0, x1, x2, x3, x4, x5], _ =>
      have f0 := hf 0 _ rfl
      have f1 := hf 1 _ rfl
      have f2 := hf 2 _ rfl
      have f3 := hf 3 _ rfl
      have f4 := hf 4 _ rfl
      have f5 := hf 5 _ rfl
      simp [q2, q3, q9, qs, cE] at f0 f1 f2 f3 f4 f5
      obtain ⟨k0, e0, y0, w0⟩ := DataW.trod_int Try.underlying3 f0
      obtain ⟨k1, e1, y1, w1⟩ := DataW.trod_int Try.underlying3 f1
      obtain ⟨s, e2, y2, _⟩ := DataW.trod_string Try.underlying9 f2
      obtain ⟨k3, e3, y3, w3⟩ := DataW.trod_int Try.underlying2 f3
      obtain ⟨gv, nv, cv, e4, hcv, _⟩ := slice_form Try.underlying22 f4
      simp only [List.cons.injEq, and_true] at e0 e1 e2 e3 e4
      subst e0 e1 e2 e3 e4
      obtain ⟨vs, rfl, SR⟩ := open_vars f4
      obtain ⟨k, a, xm, s', g4, n4, c4, g5, n5, c5, g6, n6, c6, g7, n7, c7, _, _, _, ec, _, _⟩ := exp_form f5
      simp only [List.cons.injEq, and_true] at ec
      obtain ⟨rfl, rfl, rfl, rfl, rfl, rfl, rfl, rfl⟩ := ec
      refine ⟨k0, s, vs, k, s'.data.toList, n4, fun _ => ⟨B, O, k1, k3, gv, cv, a, xm, g4, c4, g5, n5, c5, g6, n6, c6, g7, n7, c7, rfl, SR, hcv, fun j u hj => hx j u ?_⟩⟩
      rw [← str_eq (s := s') rfl] at hj
      rw [← hj, ← Array.getElem?_toList]
  · exact ⟨0, ⟨#[]⟩, [], 0, [], 0, fun z => absurd z hn⟩
theorem open_form1 {v : Value} {d : DataW H} {p : List MemPlace} (h : DataW.Trod enc Try.prog w 0 spare held 30 v d p) :
    ∃ ga la ca k a xm s g4 g5 g6 g7 n4 n5 n6 n7 c4 c5 c6 c7 kk ks kl ak an vs bk bs bl, v = .agg (frm9 ga la ca k a xm s g4 g5 g6 g7 n4 n5 n6 n7 c4 c5 c6 c7) ∧ (0 < n6 → KidAt w g6 kk ks kl) ∧ (0 < n7 → AltAt w g7 ak an vs bk (str bs) bl) ∧ n6 ≤ c6 ∧ n7 ≤ c7 := by
  obtain ⟨fuel, hf0⟩ := h
  obtain ⟨xs, n, _, ex, hl, hlen, hf⟩ := DataW.trod_struct Try.underlying30 hf0
  have c0 : Try.prog.cellsOf 30 = 9 := by kernel_rfl
  have c1 : Try.prog.cellsOf 22 = 1 := by kernel_rfl
  rw [c0] at hl
  cases v with
  | agg cs =>
    simp only [Value.cells] at hl hf
    obtain ⟨cl⟩ := cs
    simp only at hl hf
    match cl, hl, xs, hlen with
    | [v0, v1, v2, v3, v4, v5, v6, v7, v8], _, [x0, x1], _ =>
      have f0 := hf 0 _ rfl
      have f1 := hf 1 _ rfl
      simp [c1, cE] at f0 f1
      obtain ⟨ga, la, ca, e0, _, _⟩ := slice_form Try.underlying22 f0
      obtain ⟨k, a, xm, s, g4, n4, c4, g5, n5, c5, g6, n6, c6, g7, n7, c7, m, x6, x7, ec, f6, f7⟩ := exp_form f1
      simp only [List.cons.injEq, and_true] at e0 ec
      subst e0
      obtain ⟨rfl, rfl, rfl, rfl, rfl, rfl, rfl, rfl⟩ := ec
      obtain ⟨kk, ks, kl, HK⟩ := open_kid f6
      obtain ⟨ak, an, vs, bk, bs, bl, HA⟩ := open_alt1 f7
      obtain ⟨_, _, _, e6, l6, _⟩ := slice_form Try.underlying25 f6
      obtain ⟨_, _, _, e7, l7, _⟩ := slice_form Try.underlying26 f7
      simp only [List.cons.injEq, Value.slice.injEq, and_true] at e6 e7
      obtain ⟨_, rfl, rfl⟩ := e6
      obtain ⟨_, rfl, rfl⟩ := e7
      exact ⟨ga, la, ca, k, a, xm, s, g4, g5, g6, g7, n4, n5, _, _, c4, c5, _, _, kk, ks, kl, ak, an, vs, bk, bs, bl, rfl, HK, HA, l6, l7⟩
  | _ => simp [Value.cells] at hl
end
end Go.Proofs.Ytmlegdnenklkhaa
