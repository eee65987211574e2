/- Package scope's checker in memory: its maps, its block; the fault; which names are in scope. -/
import Derived.Test.YtcbdolflgpmaoaaDoorPri
import Derived.Maps.OwnSet
import Derived.Deep.RegionLaw
namespace Go.Proofs.YtcbdolflgpmaoaaDoor
open Go.RowKit
open Go.Maps (Keyed string_keyed)
set_option linter.unusedVariables false
set_option linter.unusedSimpArgs false

/-- nothing that was there has turned but the blocks b, f, m -/
structure Ge (b f m : Nat) (w w' : World) : Prop where
  os : w'.os = w.os
  tape : w'.tape = w.tape
  output : w'.output = w.output
  size : w.heap.size ≤ w'.heap.size
  block : ∀ i, i < w.heap.size → i ≠ b → i ≠ f → i ≠ m → w'.heap[i]? = w.heap[i]?
theorem Ge.refl (b f m : Nat) (w : World) : Ge b f m w w := ⟨rfl, rfl, rfl, Nat.le_refl _, fun _ _ _ _ _ => rfl⟩
theorem Ge.trans {b f m : Nat} {w w1 w2 : World} (h : Ge b f m w w1) (k : Ge b f m w1 w2) : Ge b f m w w2 :=
  ⟨k.os.trans h.os, k.tape.trans h.tape, k.output.trans h.output, Nat.le_trans h.size k.size, fun i hi a c d => (k.block i (Nat.lt_of_lt_of_le hi h.size) a c d).trans (h.block i hi a c d)⟩
theorem Ge.of_below {b f m : Nat} {w w' : World} (h : Below w.heap.size w w') : Ge b f m w w' := ⟨h.os, h.tape, h.output, h.size, fun i hi _ _ _ => h.block i hi⟩
theorem Ge.of_grown {b f m : Nat} {w w' : World} {row : Option Nat} (h : w.grownBy w' row) (hr : ∀ i, row = some i → i = b ∨ i = f ∨ i = m) : Ge b f m w w' :=
  ⟨h.os, h.tape, h.output, h.size, fun i hi a c d => h.block i hi (fun e => by rcases hr i e.symm with z | z | z; exact a z; exact c z; exact d z)⟩
theorem Ge.alloc {b f m : Nat} {w w1 : World} (h : Ge b f m w w1) (o : Obj) : Ge b f m w (w1.alloc o) := h.trans (Ge.of_below (Joins.below_alloc1 _ _))
theorem Ge.drew {b f m : Nat} {w w1 : World} (h : Ge b f m w w1) : Ge b f m w w1.drew := h.trans (Ge.of_grown (grown_drew w1) (fun i e => by cases e))
theorem Ge.below {b f m B : Nat} {w w' : World} (h : Ge b f m w w') (hb : B ≤ b) (hf : B ≤ f) (hm : B ≤ m) (hw : B ≤ w.heap.size) : Below B w w' :=
  ⟨h.os, h.tape, h.output, h.size, fun k hk => h.block k (by omega) (by omega) (by omega) (by omega)⟩
/-- any block but those three -/
abbrev but3 (b f m : Nat) : Nat → Prop := fun g => g ≠ b ∧ g ≠ f ∧ g ≠ m
theorem Ge.keeps {b f m : Nat} {w w' : World} (h : Ge b f m w w') : Keeps (but3 b f m) (but3 b f m) w w' :=
  ⟨fun g off u hg hc => (World.cell?_of_block (h.block g (World.block_lt_of_cell? _ _ hc) hg.1 hg.2.1 hg.2.2)).trans hc, fun _ h => h⟩
theorem Bx.ge {w w' : World} {b f m x : Nat} {cs : Array Value} {t : TypeId} (h : Bx w x cs t) (k : Ge b f m w w') (hx : but3 b f m x) : Bx w' x cs t := (k.block x h.lt hx.1 hx.2.1 hx.2.2).trans h

theorem law9 : Keyed Tryd.prog 9 := string_keyed Tryd.underlying9
theorem zero3 (w : World) : (zeroValue 3).run Tryd.prog w = .ok (.int .i64 0) w := by kernel_rfl
/-- a map from names to numbers -/
def Mp (w : World) (m n : Nat) (g : Nm → Option Int) : Prop :=
  ∃ D : DataW Unit, w.ownsMap Tryd.prog 9 (plainElem Tryd.prog 3) m n D ∧ ∀ s : Nm, Maps.has D (.string s) = (g s).isSome ∧ D.atKey (.string s) (.lit (.int .i64 0)) = .lit (.int .i64 ((g s).getD 0))
theorem Mp.lt {w : World} {m n : Nat} {g : Nm → Option Int} (h : Mp w m n g) : m < w.heap.size := by obtain ⟨D, h, _⟩ := h; exact h.lt
theorem Mp.grown {w w' : World} {m n : Nat} {g : Nm → Option Int} {row : Option Nat} (h : Mp w m n g) (k : w.grownBy w' row) (hr : row ≠ some m) : Mp w' m n g := by
  obtain ⟨D, h, q⟩ := h
  exact ⟨D, h.kept k (fun e => hr e.symm), q⟩
theorem Mp.of_block {w w' : World} {m n : Nat} {g : Nm → Option Int} (h : Mp w m n g) (k : w'.heap[m]? = w.heap[m]?) : Mp w' m n g := by
  obtain ⟨D, ⟨es, clock, hb, r⟩, q⟩ := h
  exact ⟨D, ⟨es, clock, k.trans hb, r⟩, q⟩
theorem Mp.mono {w : World} {m n n' : Nat} {g : Nm → Option Int} (h : Mp w m n g) (k : n ≤ n') : Mp w m n' g := by
  obtain ⟨D, h, q⟩ := h
  exact ⟨D, h.mono k, q⟩
theorem Mp.made (w : World) : Mp (w.alloc (.map #[] 0)) w.heap.size 0 (fun _ => none) :=
  ⟨.map [], World.ownsMap_made w _ _ _, fun s => ⟨rfl, rfl⟩⟩
def updG (g : Nm → Option Int) (s : Nm) (v : Int) : Nm → Option Int := fun x => if x = s then some v else g x
theorem key_str {s : Nm} (hs : s.length ≤ maxLen) : keyOf Tryd.prog 9 (.string (str s)) = some (.string s) := by
  have := WideMaps.keyOf_string_mk (P := Tryd.prog) Tryd.underlying9 (s := str s) (by rw [str_size]; exact hs)
  rwa [str_list] at this
theorem Mp.put {w' : World} {m n : Nat} {D : DataW Unit} {g : Nm → Option Int} (q : ∀ s : Nm, Maps.has D (.string s) = (g s).isSome ∧ D.atKey (.string s) (.lit (.int .i64 0)) = .lit (.int .i64 ((g s).getD 0))) (hm : Maps.IsMap D) (s : Nm) (v : Int)
    (h : w'.ownsMap Tryd.prog 9 (plainElem Tryd.prog 3) m n (D.put (.string s) (.lit (.int .i64 v)))) : Mp w' m n (updG g s v) := by
  refine ⟨_, h, fun x => ?_⟩
  unfold updG
  by_cases e : x = s
  · subst e
    rw [if_pos rfl]
    exact ⟨Maps.has_put_same hm (by trivial) _, Maps.atKey_put_same hm (by trivial) _ _⟩
  · rw [if_neg e]
    have ne : Lit.string x ≠ Lit.string s := fun z => e (by cases z; rfl)
    exact ⟨(Maps.has_put_other ne _).trans (q x).1, (Maps.atKey_put_other ne _ _).trans (q x).2⟩
/-- the names in scope, each counted -/
def Mb (w : World) (m n : Nat) (bd : Nm → Nat) : Prop := ∃ g, Mp w m n g ∧ ∀ s, (g s).getD 0 = (bd s : Int) ∧ bd s ≤ n
/-- the checker, where nothing has been wrong -/
structure Cs (w : World) (b f m nf n : Nat) (fl : Nm → Option Int) (bd : Nm → Nat) : Prop where
  blk : w.heap[b]? = some (.cells #[.map (some f), .map (some m), .int .i64 0, .int .i64 0] 53 (0, 0))
  fs : Mp w f nf fl
  bs : Mb w m n bd
  ne : b ≠ f ∧ b ≠ m ∧ f ≠ m
  tb : Table w
  pos : 0 ≠ b ∧ 0 ≠ f ∧ 0 ≠ m
/-- .. where something has been wrong -/
def Ft (w : World) (b : Nat) (a c : Int) : Prop := ∃ v0 v1, w.heap[b]? = some (.cells #[v0, v1, .int .i64 a, .int .i64 c] 53 (0, 0))
section
variable {w w' : World} {b f m nf n : Nat} {fl : Nm → Option Int} {bd : Nm → Nat}
theorem Cs.lt (h : Cs w b f m nf n fl bd) : b < w.heap.size := (Array.getElem?_eq_some_iff.1 h.blk).1
theorem Cs.lts (h : Cs w b f m nf n fl bd) : b < w.heap.size ∧ f < w.heap.size ∧ m < w.heap.size := ⟨h.lt, h.fs.lt, by obtain ⟨g, h, _⟩ := h.bs; exact h.lt⟩
theorem Cs.new (h : Cs w b f m nf n fl bd) {x : Nat} (hx : w.heap.size ≤ x) : but3 b f m x := by
  obtain ⟨a, c, d⟩ := h.lts
  exact ⟨by omega, by omega, by omega⟩
theorem Cs.later (h : Cs w b f m nf n fl bd) (k : Below w.heap.size w w') : Cs w' b f m nf n fl bd := by
  obtain ⟨l1, l2, l3⟩ := h.lts
  obtain ⟨g, hg, q⟩ := h.bs
  exact ⟨(k.block b l1).trans h.blk, h.fs.of_block (k.block f l2), ⟨g, hg.of_block (k.block m l3), q⟩, h.ne, h.tb.later k, h.pos⟩
theorem Cs.alloc (h : Cs w b f m nf n fl bd) (o : Obj) : Cs (w.alloc o) b f m nf n fl bd := h.later (Joins.below_alloc1 w o)
theorem Cs.drew (h : Cs w b f m nf n fl bd) : Cs w.drew b f m nf n fl bd := h.later ⟨rfl, rfl, rfl, Nat.le_refl _, fun _ _ => rfl⟩
theorem Cs.mono (h : Cs w b f m nf n fl bd) {n' : Nat} (k : n ≤ n') : Cs w b f m nf n' fl bd := by
  obtain ⟨g, hg, q⟩ := h.bs
  exact ⟨h.blk, h.fs, ⟨g, hg.mono k, fun s => ⟨(q s).1, Nat.le_trans (q s).2 k⟩⟩, h.ne, h.tb, h.pos⟩
theorem Cs.cell (h : Cs w b f m nf n fl bd) (j : Nat) : w.cell? ⟨b, j, none⟩ = #[.map (some f), .map (some m), .int .i64 0, .int .i64 0][j]? := Joins.cell_of_block h.blk j
theorem Cs.z (h : Cs w b f m nf n fl bd) (j : Nat) : w.frozen? ⟨b, j, none⟩ = false := Joins.unfrozen_of_block h.blk j
theorem Ft.later {a c : Int} (h : Ft w b a c) (k : Below w.heap.size w w') : Ft w' b a c := by
  obtain ⟨v0, v1, h⟩ := h
  exact ⟨v0, v1, (k.block b (Array.getElem?_eq_some_iff.1 h).1).trans h⟩
abbrev yes : Ending := .returned (.bool true)
abbrev no : Ending := .returned (.bool false)
/-- what a step leaves: it tells whether all was right -/
def Res (w : World) (b f m nf n : Nat) (fl : Nm → Option Int) (bd : Nm → Nat) : Flt → Ending → World → Prop
  | none, e, w' => e = yes ∧ Ge b f m w w' ∧ Cs w' b f m nf n fl bd
  | some (a, c), e, w' => e = no ∧ Ge b f m w w' ∧ Ft w' b a c
set_option maxHeartbeats 1000000 in
theorem pfail_any (h : Cs w b f m nf n fl bd) (a c : Int) : Calls Tryd.prog 33 #[ptr b, .int .i64 a, .int .i64 c] w fun e w' => e = no ∧ Ge b f m w w' ∧ Ft w' b a c := by
  have c2 : w.cell? ⟨b, 2, none⟩ = some (.int .i64 0) := h.cell 2
  have c3 : w.cell? ⟨b, 3, none⟩ = some (.int .i64 0) := h.cell 3
  have z2 := h.z 2
  have z3 := h.z 3
  have H := Hid.mk h
  clear h
  go_enter Tryd.func33, Tryd.ntmps33
  go_wp2
  go_ret
  refine ⟨rfl, Ge.of_grown (((Fr.refl b w).set 2 _).set 3 _) (fun i e => .inl (Option.some.inj e).symm), _, _, Joins.block_setCell (i := 3) (Joins.block_setCell (i := 2) H.out.blk _) _⟩
set_option maxHeartbeats 1000000 in
theorem phas_any (h : Cs w b f m nf n fl bd) (s : Nm) (hs : s.length ≤ maxLen) : Calls Tryd.prog 32 #[ptr b, .string (str s)] w fun e w' => e = .returned (.bool (decide (0 < bd s))) ∧ w' = w := by
  have c1 : w.cell? ⟨b, 1, none⟩ = some (.map (some m)) := h.cell 1
  obtain ⟨g, ⟨D, hD, q⟩, q2⟩ := h.bs
  have hat0 := (q s).2
  rw [(q2 s).1] at hat0
  have H := Hid.mk hat0
  clear h q q2 hat0
  go_enter Tryd.func32, Tryd.ntmps32
  go_wp2_with (at_lookup; refine wpList_lookup_own_int _ rfl _ _ 51 rfl 9 3 .i64 law9 Tryd.underlying51 Tryd.underlying3 (zero3 _) m n D rfl hD _ _ rfl (key_str hs) ?_; intro c hat hwc; have HC : Hid (c = (bd s : Int)) := ⟨by have := hat.symm.trans H.out; cases this; rfl⟩; clear hat)
  go_ret
  exact ⟨by rw [HC.out]; simp, rfl⟩
end
end Go.Proofs.YtcbdolflgpmaoaaDoor
