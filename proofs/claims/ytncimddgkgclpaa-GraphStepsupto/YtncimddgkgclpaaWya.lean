/- A way in memory; what stays; kid, next, field, ring. -/
import Derived.Test.YtncimddgkgclpaaGrb
import Derived.Test.YtncimddgkgclpaaWpl
import Derived.Deep.RegionHeld3
import Derived.Deep.AppendLies
namespace Go.Proofs.Ytncimddgkgclpaa
open Go.RowKit
set_option linter.unusedVariables false
set_option linter.unusedSimpArgs false
set_option maxRecDepth 100000

/-- all stays below base; what is no row of steps stays, but for blocks of X -/
structure Kx (base : Nat) (X : Nat → Prop) (w w' : World) : Prop where
  bel : Below base w w'
  keep : ∀ k o, w.heap[k]? = some o → ¬ X k → (∀ c f, o ≠ .cells c 67 f) → w'.heap[k]? = some o
theorem Kx.refl (base : Nat) (X : Nat → Prop) (w : World) : Kx base X w w := ⟨Below.refl _ _, fun _ _ h _ _ => h⟩
theorem Kx.trans {base : Nat} {X : Nat → Prop} {a b c : World} (h : Kx base X a b) (k : Kx base X b c) : Kx base X a c :=
  ⟨h.bel.trans k.bel, fun i o h1 h2 h3 => k.keep i o (h.keep i o h1 h2 h3) h2 h3⟩
theorem Kx.later {base : Nat} {X : Nat → Prop} {a b : World} (hb : base ≤ a.heap.size) (h : Below a.heap.size a b) : Kx base X a b :=
  ⟨h.mono hb, fun k o h1 _ _ => (h.block k (Array.getElem?_eq_some_iff.1 h1).1).trans h1⟩
theorem Kx.set {base : Nat} {X : Nat → Prop} {w : World} {g i : Nat} {v : Value} (hx : X g) (hg : base ≤ g) : Kx base X w (w.setCell ⟨g, i, none⟩ v) :=
  ⟨Below.setCell (Below.refl _ _) hg _, fun k o h1 h2 _ => (Below.heap_setCell _ _ _ _ (fun e => h2 (by have e' : k = g := e; rw [e']; exact hx))).trans h1⟩
/-- a row of numbers -/
def IR (w : World) (b m : Nat) (E : Nat → Int) : Prop := ∃ c, w.heap[b]? = some (.cells c 3 (0, 0)) ∧ c.size = m ∧ ∀ i, i < m → c[i]? = some (.int .i64 (E i))
def upd (E : Nat → Int) (n : Nat) (x : Int) : Nat → Int := fun i => if i = n then x else E i
theorem upd_at (E : Nat → Int) (n : Nat) (x : Int) : upd E n x n = x := if_pos rfl
theorem upd_far (E : Nat → Int) {n i : Nat} (x : Int) (h : i ≠ n) : upd E n x i = E i := if_neg h
theorem IR.cell {w : World} {b m : Nat} {E : Nat → Int} (h : IR w b m E) {i : Nat} (hi : i < m) : w.cell? ⟨b, i, none⟩ = some (.int .i64 (E i)) := by
  obtain ⟨c, h1, _, h3⟩ := h
  rw [Joins.cell_of_block h1]; exact h3 i hi
theorem IR.z {w : World} {b m : Nat} {E : Nat → Int} (h : IR w b m E) (i : Nat) : w.frozen? ⟨b, i, none⟩ = false := by
  obtain ⟨c, h1, _⟩ := h
  exact Joins.unfrozen_of_block h1 i
theorem IR.block {w w' : World} {b m : Nat} {E : Nat → Int} (h : IR w b m E) (e : ∀ o, w.heap[b]? = some o → (∀ c f, o ≠ .cells c 67 f) → w'.heap[b]? = some o) : IR w' b m E := by
  obtain ⟨c, h1, h2⟩ := h
  exact ⟨c, e _ h1 (fun _ _ q => by cases q), h2⟩
theorem IR.set {w : World} {b m : Nat} {E : Nat → Int} (h : IR w b m E) {i : Nat} (hi : i < m) (x : Int) : IR (w.setCell ⟨b, i, none⟩ (.int .i64 x)) b m (upd E i x) := by
  obtain ⟨c, h1, h2, h3⟩ := h
  refine ⟨_, Joins.block_setCell h1 _, by simp [h2], fun j hj => ?_⟩
  simp only [Array.getElem?_setIfInBounds]
  by_cases e : i = j
  · subst e; simp [h2, hi, upd_at]
  · rw [if_neg e, upd_far _ _ (Ne.symm e)]; exact h3 j hj
theorem IR.lt {w : World} {b m : Nat} {E : Nat → Int} (h : IR w b m E) : b < w.heap.size := by
  obtain ⟨c, h1, _⟩ := h
  exact (Array.getElem?_eq_some_iff.1 h1).1
theorem ne_kind {w : World} {p q : Nat} {a b : Array Value} {s t : TypeId} {l m : Nat × Nat} (h : w.heap[p]? = some (.cells a s l)) (k : w.heap[q]? = some (.cells b t m)) (ne : s ≠ t) : p ≠ q := by
  rintro rfl
  rw [h] at k
  simp only [Option.some.injEq, Obj.cells.injEq] at k
  exact ne k.2.1
def flat : List (Nat × Bool) → List Value
  | [] => []
  | s :: r => .int .i64 s.1 :: .bool s.2 :: flat r
theorem flat_len : ∀ p : List (Nat × Bool), (flat p).length = p.length * 2
  | [] => rfl
  | s :: r => by simp [flat, flat_len r]; omega
theorem flat_app : ∀ p q : List (Nat × Bool), flat (p ++ q) = flat p ++ flat q
  | [], _ => rfl
  | s :: r, q => by simp [flat, flat_app r q]
theorem flat_get : ∀ (p : List (Nat × Bool)) (i : Nat) (h : i < p.length), (flat p)[i * 2]? = some (.int .i64 p[i].1) ∧ (flat p)[i * 2 + 1]? = some (.bool p[i].2)
  | s :: r, 0, _ => ⟨rfl, rfl⟩
  | s :: r, i + 1, h => by
    have := flat_get r i (by simpa using h)
    rw [show (i + 1) * 2 = i * 2 + 1 + 1 by omega]
    exact this
/-- a way in memory; w0: the world that it was made in -/
structure Wy (w0 w : World) (wb eb sb : Nat) (g : List Nd) (a : Option Addr) (ca : Nat) (E S : Nat → Int) (v : Value) (P : List (Nat × Bool)) : Prop where
  bel : Below w0.heap.size w0 w
  nds : Nds w0 g (.slice a g.length ca)
  box : w.heap[wb]? = some (.cells #[.slice a g.length ca, .slice (some ⟨eb, 0, none⟩) g.length g.length, v, .slice (some ⟨sb, 0, none⟩) g.length g.length] 64 (0, 0))
  ends : IR w eb g.length E
  spots : IR w sb g.length S
  path : w.ownsRow w0.heap.size 67 2 v P.length (flat P)
  lo : w0.heap.size ≤ wb ∧ w0.heap.size ≤ eb ∧ w0.heap.size ≤ sb
  ne : eb ≠ sb
def Xw (wb eb sb : Nat) (k : Nat) : Prop := k = wb ∨ k = eb ∨ k = sb
section
variable {w0 w w' : World} {wb eb sb ca : Nat} {g : List Nd} {a : Option Addr} {E S : Nat → Int} {v : Value} {P : List (Nat × Bool)}
theorem Wy.c0 (h : Wy w0 w wb eb sb g a ca E S v P) : w.cell? ⟨wb, 0, none⟩ = some (.slice a g.length ca) := by rw [Joins.cell_of_block h.box]; rfl
theorem Wy.c1 (h : Wy w0 w wb eb sb g a ca E S v P) : w.cell? ⟨wb, 1, none⟩ = some (.slice (some ⟨eb, 0, none⟩) g.length g.length) := by rw [Joins.cell_of_block h.box]; rfl
theorem Wy.c2 (h : Wy w0 w wb eb sb g a ca E S v P) : w.cell? ⟨wb, 2, none⟩ = some v := by rw [Joins.cell_of_block h.box]; rfl
theorem Wy.c3 (h : Wy w0 w wb eb sb g a ca E S v P) : w.cell? ⟨wb, 3, none⟩ = some (.slice (some ⟨sb, 0, none⟩) g.length g.length) := by rw [Joins.cell_of_block h.box]; rfl
theorem own_later {w w' : World} {base size n : Nat} {e : TypeId} {v : Value} {xs : List Value} (h : w.ownsRow base e size v n xs) (hb : Below w.heap.size w w') : w'.ownsRow base e size v n xs :=
  World.ownsRow.kept (row := none) h ⟨hb.os, hb.tape, hb.output, hb.size, fun k hk _ => hb.block k hk⟩ (by cases v.ownBlock <;> simp)
theorem Wy.later (h : Wy w0 w wb eb sb g a ca E S v P) (B : Below w.heap.size w w') : Wy w0 w' wb eb sb g a ca E S v P :=
  ⟨h.bel.trans (B.mono h.bel.size), h.nds, (B.block _ (Array.getElem?_eq_some_iff.1 h.box).1).trans h.box, h.ends.block fun o e _ => (B.block _ (Array.getElem?_eq_some_iff.1 e).1).trans e, h.spots.block fun o e _ => (B.block _ (Array.getElem?_eq_some_iff.1 e).1).trans e, own_later h.path B, h.lo, h.ne⟩
/-- a node of the way's -/
theorem Wy.nd (h : Wy w0 w wb eb sb g a ca E S v P) {n : Nat} (hn : n < g.length) :
    ∃ q off o1 c1 o2 c2, a = some ⟨q, off, none⟩ ∧ PS .u64 w o1 c1 (nd0 g n).ns ∧ PS .i64 w o2 c2 (nd0 g n).ks ∧
      w.cell? ⟨q, off + n * 4, none⟩ = some (.int .i64 (nd0 g n).k) ∧ w.cell? ⟨q, off + n * 4 + 1, none⟩ = some (.int .i64 (nd0 g n).i) ∧
      w.cell? ⟨q, off + n * 4 + 2, none⟩ = some (.slice o1 (nd0 g n).ns.length c1) ∧ w.cell? ⟨q, off + n * 4 + 3, none⟩ = some (.slice o2 (nd0 g n).ks.length c2) := by
  obtain ⟨q, off, cap, c, e, _, _, pc, hx⟩ := (Nds.later h.nds h.bel).get n hn
  simp only [Value.slice.injEq] at e
  obtain ⟨rfl, _, rfl⟩ := e
  rw [nd0_get hn]
  obtain ⟨o1, c1, o2, c2, rfl, p1, p2⟩ := pc
  exact ⟨q, off, o1, c1, o2, c2, rfl, p1, p2, hx 0 _ rfl, hx 1 _ rfl, hx 2 _ rfl, hx 3 _ rfl⟩
theorem Wy.cap (h : Wy w0 w wb eb sb g a ca E S v P) : g.length ≤ ca ∧ g.length ≤ maxLen := by
  obtain ⟨_, _, e, q, _⟩ := h.nds
  simp only [Value.slice.injEq] at e
  obtain ⟨rfl, _, rfl⟩ := e
  exact q
end

/-! ## The small ones -/
set_option maxHeartbeats 1000000 in
theorem kid49 (x : Nd) (i : Nat) (o1 o2 : Option Addr) (c1 c2 wb m ca : Nat) (a : Option Addr) (w : World) (c0 : w.cell? ⟨wb, 0, none⟩ = some (.slice a m ca)) (P : PS .i64 w o2 c2 x.ks) (hi : i < 18446744073709551616) :
    Calls Try.prog 49 #[pt wb, nv x o1 c1 o2 c2, .int .u64 i] w fun e w' => e = .returned (.int .i64 (oI (kdO m x i))) ∧ Below w.heap.size w w' := by
  unfold nv
  obtain ⟨xk, xi, xns, xks⟩ := x
  dsimp only at *
  obtain ⟨n1, h1⟩ : ∃ n, xns.length = n := ⟨_, rfl⟩
  obtain ⟨n2, h2⟩ : ∃ n, xks.length = n := ⟨_, rfl⟩
  have hc := P.cap
  have hl := P.len
  unfold maxLen at hl
  rw [h1, h2]
  rw [h2] at hl hc
  have cv : IntKind.u64.wrap (n2 : Int) = n2 := by rw [IntKind.wrap_u64]; omega
  have ci : IntKind.i64.wrap (i : Int) = i ∨ ¬ i < n2 := by rw [IntKind.wrap_i64]; omega
  by_cases hh : i < n2
  · have hi2 : i < xks.length := by omega
    have B1 : Below w.heap.size w (w.alloc (.cells #[.int .i64 xk, .int .i64 xi, .slice o1 n1 c1, .slice o2 n2 c2] 34)) := by go_grown
    obtain ⟨q, off, rfl, cx⟩ := (P.later B1).get i hi2
    have e : oI (kdO m ⟨xk, xi, xns, xks⟩ i) = kn m xks[i] := by
      unfold kdO kn
      simp only [List.getElem?_eq_getElem hi2]
      split
      · rename_i z; simp [oI]; omega
      · rfl
    rw [e]
    generalize xks[i] = y at *
    have CK := fun W => known_any y m W
    have n3 : ¬ ((i : Int) ≥ n2) := by omega
    have d0 := cellLater B1 c0
    clear e P h1 h2 hi2 ci
    go_enter Try.func49, Try.ntmps49
    go_wp2
    go_quiet ((go_at_call 23; exact Calls.quiet_of_same (CK _)))
    go_wp2
    go_ret
    exact ⟨rfl, below_drewN B1 _⟩
  · have e : oI (kdO m ⟨xk, xi, xns, xks⟩ i) = -1 := by
      unfold kdO
      simp only [List.getElem?_eq_none (by omega : xks.length ≤ i)]
      rfl
    rw [e]
    have n3 : ((i : Int) ≥ n2) := by omega
    clear e P h1 h2 ci
    go_enter Try.func49, Try.ntmps49
    go_wp2
    go_ret
    exact ⟨rfl, by go_grown⟩

/-- for which node another one waits -/
def nxO (m : Nat) (x : Nd) : Option Nat := if x.k = 8 ∨ x.k = 7 then kdO m x 0 else none
section
variable {w0 w w' : World} {wb eb sb ca : Nat} {g : List Nd} {a : Option Addr} {E S : Nat → Int} {v : Value} {P : List (Nat × Bool)}
set_option maxHeartbeats 2000000 in
theorem next48 (h : Wy w0 w wb eb sb g a ca E S v P) {n : Nat} (hn : n < g.length) :
    Calls Try.prog 48 #[pt wb, .int .i64 n] w fun e w' => e = .returned (.tuple #[.int .i64 (oI (nxO g.length (nd0 g n))), .bool (decide ((nd0 g n).k = 8))]) ∧ Below w.heap.size w w' := by
  obtain ⟨q, off, o1, c1, o2, c2, rfl, p1, p2, x0, x1, x2, x3⟩ := h.nd hn
  have c0 := h.c0
  have hcap := h.cap
  have KD : ∀ (W : World) (b : Below w.heap.size w W), Calls Try.prog 49 #[pt wb, nv (nd0 g n) o1 c1 o2 c2, .int .u64 0] W fun e w' => e = .returned (.int .i64 (oI (kdO g.length (nd0 g n) 0))) ∧ Below W.heap.size W w' := fun W b => kid49 (nd0 g n) 0 o1 o2 c1 c2 wb g.length ca _ W (cellLater b c0) (p2.later b) (by decide)
  obtain ⟨m, hm⟩ : ∃ m, g.length = m := ⟨_, rfl⟩
  rw [hm] at KD hcap c0 hn ⊢
  unfold nv at KD
  unfold nxO
  obtain ⟨r, hr⟩ : ∃ r, oI (kdO m (nd0 g n) 0) = r := ⟨_, rfl⟩
  rw [hr] at KD
  have hk := hcap.1
  have hl := hcap.2
  unfold maxLen at hl
  generalize nd0 g n = x at *
  obtain ⟨xk, xi, xns, xks⟩ := x
  dsimp only at *
  obtain ⟨n1, h1⟩ : ∃ n, xns.length = n := ⟨_, rfl⟩
  obtain ⟨n2, h2⟩ : ∃ n, xks.length = n := ⟨_, rfl⟩
  rw [h1, h2] at KD
  rw [h1] at x2
  rw [h2] at x3
  have B1 : Below w.heap.size w (w.alloc (.cells #[.int .i64 xk, .int .i64 xi, .slice o1 n1 c1, .slice o2 n2 c2] 34)) := by go_grown
  have HB1 := Hid.mk B1
  have KD1 := KD _ B1
  have hn' : (n : Int) < m := by omega
  have HR := Hid.mk hr
  clear h p1 p2 KD B1 h1 h2 hcap hm hr
  by_cases e8 : xk = 8
  · subst e8
    rw [if_pos (.inl rfl), HR.out, decide_eq_true rfl]
    go_enter Try.func48, Try.ntmps48
    go_wp2_with (go_at_call 49; refine KD1.mono ?_; clear KD1; rintro e w1 ⟨rfl, B2⟩)
    go_ret2
    exact ⟨rfl, belowOn HB1.out B2⟩
  · by_cases e7 : xk = 7
    · subst e7
      rw [if_pos (.inr rfl), HR.out, decide_eq_false e8]
      go_enter Try.func48, Try.ntmps48
      go_wp2_with (go_at_call 49; refine KD1.mono ?_; clear KD1; rintro e w1 ⟨rfl, B2⟩)
      go_ret2
      exact ⟨rfl, belowOn HB1.out B2⟩
    · rw [if_neg (by omega), decide_eq_false e8]
      have f8 : (xk == 8) = false := by simpa using e8
      have f7 : (xk == 7) = false := by simpa using e7
      clear e8 e7
      go_enter Try.func48, Try.ntmps48
      go_wp2
      go_ret2
      exact ⟨rfl, HB1.out⟩
end
end Go.Proofs.Ytncimddgkgclpaa
