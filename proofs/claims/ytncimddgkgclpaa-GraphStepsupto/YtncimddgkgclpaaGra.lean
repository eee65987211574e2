/- What all texts of this seat use: graphs as plain data, graphs in memory, the small functions. -/
import Derived.Test.YtncimddgkgclpaaProg
import Derived.WalkKit
import Derived.Handy
import Derived.BigQuiet
import Derived.Deep.QuietTactic
import Derived.Deep.RegionWith
import Derived.Below
import Derived.WalkMore
import Derived.Lib.SmallJoins
import Derived.KernelRfl
import Derived.Laws.EntriesVeiled
namespace Go.Proofs.Ytncimddgkgclpaa
open Go.RowKit
set_option linter.unusedVariables false
set_option linter.unusedSimpArgs false

theorem retInt {k : IntKind} {a b : Int} (h : a = b) : Ending.returned (.int k a) = .returned (.int k b) := by rw [h]
theorem retBool {a b : Bool} (h : a = b) : Ending.returned (.bool a) = .returned (.bool b) := by rw [h]
structure Hid (p : Prop) : Prop where
  out : p
def intOf : Value → Int
  | .int _ n => n
  | _ => 0
theorem belowOn {w wr w' : World} (B : Below w.heap.size w wr) (h : Below wr.heap.size wr w') : Below w.heap.size w w' := B.trans (h.mono B.size)
theorem cellLater {w w' : World} {b o : Nat} {v : Value} (h : Below w.heap.size w w') (q : w.cell? ⟨b, o, none⟩ = some v) : w'.cell? ⟨b, o, none⟩ = some v := (h.cell (p := ⟨b, o, none⟩) (World.block_lt_of_cell? _ _ q)).trans q

theorem below_drewN {m : Nat} {w W : World} (B : Below m w W) (n : Nat) : Below m w (W.drewN n) := ⟨B.os, B.tape, B.output, B.size, B.block⟩

/-! ## Graphs -/
/-- a node: kind, info, its other words, its kids -/
structure Nd where
  k : Int
  i : Int
  ns : List Int
  ks : List Int
/-- a graph: roots, nodes -/
structure Gr where
  rs : List Int
  nd : List Nd
/-- a node's number, or -1 -/
def kn (m : Nat) (n : Int) : Int := if 0 ≤ n ∧ n < m then n else -1
theorem kn_yes {m : Nat} {n : Int} (h : 0 ≤ n ∧ n < m) : kn m n = n := if_pos h
theorem kn_no {m : Nat} {n : Int} (h : ¬ (0 ≤ n ∧ n < m)) : kn m n = -1 := if_neg h
/-- lists of numbers are the same -/
def SameN (m : Nat) (l r : List Int) : Prop := l.length = r.length ∧ ∀ i (h : i < l.length) (h' : i < r.length), kn m l[i] = kn m r[i]
def SameL (l r : List Int) : Prop := l.length = r.length ∧ ∀ i (h : i < l.length) (h' : i < r.length), l[i] = r[i]
/-- nodes are the same -/
structure SameD (m : Nat) (x y : Nd) : Prop where
  k : x.k = y.k
  i : x.i = y.i
  ns : SameL x.ns y.ns
  ks : SameN m x.ks y.ks
/-- graphs are the same -/
structure SameG (a b : Gr) : Prop where
  rs : SameN a.nd.length a.rs b.rs
  len : a.nd.length = b.nd.length
  nd : ∀ i (h : i < a.nd.length) (h' : i < b.nd.length), SameD a.nd.length a.nd[i] b.nd[i]
theorem SameN.refl (m : Nat) (l : List Int) : SameN m l l := ⟨rfl, fun _ _ _ => rfl⟩
theorem SameL.refl (l : List Int) : SameL l l := ⟨rfl, fun _ _ _ => rfl⟩
theorem SameL.iff {l r : List Int} : SameL l r ↔ l = r := ⟨fun h => List.ext_getElem h.1 h.2, fun h => h ▸ SameL.refl _⟩
theorem SameG.refl (a : Gr) : SameG a a := ⟨SameN.refl _ _, rfl, fun _ _ _ => ⟨rfl, rfl, SameL.refl _, SameN.refl _ _⟩⟩
/-- how many words a node has -/
def wd (x : Nd) : Int := 1 + x.ks.length + x.ns.length
/-- how many words nodes have, as Go tells it -/
def wdsI : List Nd → Int → Int
  | [], a => a
  | x :: l, a => wdsI l (IntKind.i64.wrap (a + IntKind.i64.wrap (IntKind.i64.wrap (1 + x.ks.length) + x.ns.length)))

/-! ## In memory -/
def maxLen : Nat := 9223372036854775807
/-- these numbers lie from o on -/
structure PS (kd : IntKind) (w : World) (o : Option Addr) (cap : Nat) (ps : List Int) : Prop where
  cap : ps.length ≤ cap
  len : ps.length ≤ maxLen
  num : 0 < ps.length → ∃ g off, o = some ⟨g, off, none⟩ ∧ ∀ i (h : i < ps.length), w.cell? ⟨g, off + i, none⟩ = some (.int kd (ps[i]'h))
theorem PS.later {kd : IntKind} {w w' : World} {o : Option Addr} {cap : Nat} {ps : List Int} (h : PS kd w o cap ps) (hb : Below w.heap.size w w') : PS kd w' o cap ps := by
  refine ⟨h.cap, h.len, fun hn => ?_⟩
  obtain ⟨g, off, rfl, hx⟩ := h.num hn
  exact ⟨g, off, rfl, fun i hi => (hb.cell (p := ⟨g, off + i, none⟩) (World.block_lt_of_cell? _ _ (hx i hi))).trans (hx i hi)⟩
theorem PS.get {kd : IntKind} {w : World} {o : Option Addr} {cap : Nat} {ps : List Int} (h : PS kd w o cap ps) (i : Nat) (hi : i < ps.length) : ∃ g off, o = some ⟨g, off, none⟩ ∧ w.cell? ⟨g, off + i, none⟩ = some (.int kd (ps[i]'hi)) := by
  obtain ⟨g, off, rfl, hx⟩ := h.num (by omega)
  exact ⟨g, off, rfl, hx i hi⟩
/-- a list of things of so many cells each, as a slice -/
def Lst (w : World) {α : Type} (sz : Nat) (P : α → List Value → Prop) (l : List α) (v : Value) : Prop :=
  ∃ ga cap, v = .slice ga l.length cap ∧ (l.length ≤ cap ∧ l.length ≤ maxLen) ∧
    (0 < l.length → ∃ g off, ga = some ⟨g, off, none⟩ ∧ ∀ i x, l[i]? = some x → ∃ c, P x c ∧ ∀ j u, c[j]? = some u → w.cell? ⟨g, off + i * sz + j, none⟩ = some u)
theorem Lst.later {α : Type} {w w' : World} {sz : Nat} {P P' : α → List Value → Prop} {l : List α} {v : Value} (h : Lst w sz P l v) (hb : Below w.heap.size w w') (hP : ∀ x c, P x c → P' x c) : Lst w' sz P' l v := by
  obtain ⟨ga, cap, rfl, hc, hx⟩ := h
  refine ⟨ga, cap, rfl, hc, fun hn => ?_⟩
  obtain ⟨g, off, rfl, hy⟩ := hx hn
  refine ⟨g, off, rfl, fun i x hi => ?_⟩
  obtain ⟨c, pc, hc⟩ := hy i x hi
  refine ⟨c, hP _ _ pc, fun j u hj => ?_⟩
  have := hc j u hj
  exact (hb.cell (p := ⟨g, off + i * sz + j, none⟩) (World.block_lt_of_cell? _ _ this)).trans this
theorem Lst.get {α : Type} {w : World} {sz : Nat} {P : α → List Value → Prop} {l : List α} {v : Value} (h : Lst w sz P l v) (i : Nat) (hi : i < l.length) :
    ∃ g off cap c, v = .slice (some ⟨g, off, none⟩) l.length cap ∧ l.length ≤ cap ∧ l.length ≤ maxLen ∧ P (l[i]'hi) c ∧ ∀ j u, c[j]? = some u → w.cell? ⟨g, off + i * sz + j, none⟩ = some u := by
  obtain ⟨ga, cap, rfl, hc, hx⟩ := h
  obtain ⟨g, off, rfl, hy⟩ := hx (by omega)
  obtain ⟨c, pc, hc'⟩ := hy i _ (List.getElem?_eq_getElem hi)
  exact ⟨g, off, cap, c, rfl, hc.1, hc.2, pc, hc'⟩
/-- a node's cells -/
def isNd (w : World) (x : Nd) (c : List Value) : Prop :=
  ∃ o1 c1 o2 c2, c = [.int .i64 x.k, .int .i64 x.i, .slice o1 x.ns.length c1, .slice o2 x.ks.length c2] ∧ PS .u64 w o1 c1 x.ns ∧ PS .i64 w o2 c2 x.ks
theorem isNd_later {w w' : World} (hb : Below w.heap.size w w') {x : Nd} {c : List Value} (h : isNd w x c) : isNd w' x c := by
  obtain ⟨o1, c1, o2, c2, e, p, q⟩ := h
  exact ⟨o1, c1, o2, c2, e, p.later hb, q.later hb⟩
abbrev nv (x : Nd) (o1 : Option Addr) (c1 : Nat) (o2 : Option Addr) (c2 : Nat) : Value := .agg #[.int .i64 x.k, .int .i64 x.i, .slice o1 x.ns.length c1, .slice o2 x.ks.length c2]
/-- nodes as a slice -/
abbrev Nds (w : World) (l : List Nd) (v : Value) : Prop := Lst w 4 (isNd w) l v
theorem Nds.later {w w' : World} {l : List Nd} {v : Value} (h : Nds w l v) (hb : Below w.heap.size w w') : Nds w' l v := Lst.later h hb fun _ _ q => isNd_later hb q
/-- a graph, as its two slices -/
structure Gv (w : World) (g : Gr) (o : Option Addr) (cr : Nat) (a : Option Addr) (ca : Nat) : Prop where
  rs : PS .i64 w o cr g.rs
  nd : Nds w g.nd (.slice a g.nd.length ca)
theorem Gv.later {w w' : World} {g : Gr} {o a : Option Addr} {cr ca : Nat} (h : Gv w g o cr a ca) (hb : Below w.heap.size w w') : Gv w' g o cr a ca := ⟨h.rs.later hb, Nds.later h.nd hb⟩
abbrev gv (g : Gr) (o : Option Addr) (cr : Nat) (a : Option Addr) (ca : Nat) : Value := .agg #[.slice o g.rs.length cr, .slice a g.nd.length ca]

/-! ## The small ones -/
theorem isNode_any (n : Int) (m : Nat) (w : World) : Calls Try.prog 40 #[.int .i64 n, .int .i64 m] w fun e w' => e = .returned (.bool (decide (0 ≤ n ∧ n < m))) ∧ w' = w := by
  by_cases a : 0 ≤ n
  · have a1 : (n ≥ 0) := a
    by_cases b : n < m
    · have e : decide (0 ≤ n ∧ n < m) = true := by simp [a, b]
      rw [e]
      clear e
      go_enter Try.func40, Try.ntmps40
      go_wp2
      go_ret
      exact ⟨rfl, rfl⟩
    · have e : decide (0 ≤ n ∧ n < m) = false := by simp [b]
      rw [e]
      clear e
      go_enter Try.func40, Try.ntmps40
      go_wp2
      go_ret
      exact ⟨rfl, rfl⟩
  · have a1 : ¬ (n ≥ 0) := a
    have e : decide (0 ≤ n ∧ n < m) = false := by simp [a]
    rw [e]
    clear e
    go_enter Try.func40, Try.ntmps40
    go_wp2
    go_ret
    exact ⟨rfl, rfl⟩
theorem known_any (n : Int) (m : Nat) (w : World) : Calls Try.prog 23 #[.int .i64 n, .int .i64 m] w fun e w' => e = .returned (.int .i64 (kn m n)) ∧ w' = w := by
  have C := isNode_any n m w
  by_cases h : 0 ≤ n ∧ n < m
  · rw [kn_yes h]
    rw [decide_eq_true h] at C
    clear h
    go_enter Try.func23, Try.ntmps23
    go_wp2_with (go_at_call 40; refine C.mono ?_; clear C; rintro e w' ⟨rfl, hw⟩; subst hw)
    go_ret
    exact ⟨rfl, rfl⟩
  · rw [kn_no h]
    rw [decide_eq_false h] at C
    clear h
    go_enter Try.func23, Try.ntmps23
    go_wp2_with (go_at_call 40; refine C.mono ?_; clear C; rintro e w' ⟨rfl, hw⟩; subst hw)
    go_ret
    exact ⟨rfl, rfl⟩
end Go.Proofs.Ytncimddgkgclpaa
