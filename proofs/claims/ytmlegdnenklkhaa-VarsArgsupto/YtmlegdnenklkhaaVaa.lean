/- Package vars' reader in memory: its maps and its block, the list of free names; what stays as it was. -/
import Derived.Test.YtmlegdnenklkhaaSck
import Derived.Maps.OwnSet
import Derived.Deep.RegionLaw
namespace Go.Proofs.Ytmlegdnenklkhaa
open Go.RowKit
open Go.Maps (Keyed string_keyed)
set_option linter.unusedVariables false
set_option linter.unusedSimpArgs false

theorem law9 : Keyed Try.prog 9 := string_keyed Try.underlying9
theorem zero3 (w : World) : (zeroValue 3).run Try.prog w = .ok (.int .i64 0) w := by kernel_rfl
/-- a map from names to numbers -/
def Mp (w : World) (m n : Nat) (g : Nm → Option Int) : Prop :=
  ∃ D : DataW Unit, w.ownsMap Try.prog 9 (plainElem Try.prog 3) m n D ∧ ∀ s : Nm, Maps.has D (.string s) = (g s).isSome ∧ D.atKey (.string s) (.lit (.int .i64 0)) = .lit (.int .i64 ((g s).getD 0))
theorem Mp.lt {w : World} {m n : Nat} {g : Nm → Option Int} (h : Mp w m n g) : m < w.heap.size := by obtain ⟨D, h, _⟩ := h; exact h.lt
theorem Mp.of_block {w w' : World} {m n : Nat} {g : Nm → Option Int} (h : Mp w m n g) (k : w'.heap[m]? = w.heap[m]?) : Mp w' m n g := by
  obtain ⟨D, ⟨es, clock, hb, r⟩, q⟩ := h
  exact ⟨D, ⟨es, clock, k.trans hb, r⟩, q⟩
theorem owns_of_block {w w' : World} {m n : Nat} {D : DataW Unit} (h : w.ownsMap Try.prog 9 (plainElem Try.prog 3) m n D) (k : w'.heap[m]? = w.heap[m]?) : w'.ownsMap Try.prog 9 (plainElem Try.prog 3) m n D := by
  obtain ⟨es, clock, hb, r⟩ := h
  exact ⟨es, clock, k.trans hb, r⟩
theorem Mp.mono {w : World} {m n n' : Nat} {g : Nm → Option Int} (h : Mp w m n g) (k : n ≤ n') : Mp w m n' g := by
  obtain ⟨D, h, q⟩ := h
  exact ⟨D, h.mono k, q⟩
theorem Mp.made (w : World) : Mp (w.alloc (.map #[] 0)) w.heap.size 0 (fun _ => none) :=
  ⟨.map [], World.ownsMap_made w _ _ _, fun s => ⟨rfl, rfl⟩⟩
def updG (g : Nm → Option Int) (s : Nm) (v : Int) : Nm → Option Int := fun x => if x = s then some v else g x
theorem key_str {s : Nm} (hs : s.length ≤ maxLen) : keyOf Try.prog 9 (.string (str s)) = some (.string s) := by
  have := WideMaps.keyOf_string_mk (P := Try.prog) Try.underlying9 (s := str s) (by rw [str_size]; exact hs)
  rwa [str_list] at this
theorem Mp.put {w' : World} {m n : Nat} {D : DataW Unit} {g : Nm → Option Int} (q : ∀ s : Nm, Maps.has D (.string s) = (g s).isSome ∧ D.atKey (.string s) (.lit (.int .i64 0)) = .lit (.int .i64 ((g s).getD 0))) (hm : Maps.IsMap D) (s : Nm) (v : Int)
    (h : w'.ownsMap Try.prog 9 (plainElem Try.prog 3) m n (D.put (.string s) (.lit (.int .i64 v)))) : Mp w' m n (updG g s v) := by
  refine ⟨_, h, fun x => ?_⟩
  unfold updG
  by_cases e : x = s
  · subst e
    rw [if_pos rfl]
    exact ⟨Maps.has_put_same hm (by trivial) _, Maps.atKey_put_same hm (by trivial) _ _⟩
  · rw [if_neg e]
    have ne : Lit.string x ≠ Lit.string s := fun z => e (by cases z; rfl)
    exact ⟨(Maps.has_put_other ne _).trans (q x).1, (Maps.atKey_put_other ne _ _).trans (q x).2⟩
/-- names, each counted -/
def Mb (w : World) (m n : Nat) (bd : Nm → Nat) : Prop := ∃ g, Mp w m n g ∧ ∀ s, (g s).getD 0 = (bd s : Int) ∧ bd s ≤ n
theorem Mb.of_block {w w' : World} {m n : Nat} {bd : Nm → Nat} (h : Mb w m n bd) (k : w'.heap[m]? = w.heap[m]?) : Mb w' m n bd := by
  obtain ⟨g, h, q⟩ := h
  exact ⟨g, h.of_block k, q⟩
theorem Mb.mono {w : World} {m n n' : Nat} {bd : Nm → Nat} (h : Mb w m n bd) (k : n ≤ n') : Mb w m n' bd := by
  obtain ⟨g, h, q⟩ := h
  exact ⟨g, h.mono k, fun s => ⟨(q s).1, Nat.le_trans (q s).2 k⟩⟩
theorem Mb.lt {w : World} {m n : Nat} {bd : Nm → Nat} (h : Mb w m n bd) : m < w.heap.size := by obtain ⟨g, h, _⟩ := h; exact h.lt
theorem Mb.put {w1 : World} {m n : Nat} {bd bd' : Nm → Nat} {g : Nm → Option Int} {D : DataW Unit} {s : Nm} {v : Int} (q : ∀ s : Nm, Maps.has D (.string s) = (g s).isSome ∧ D.atKey (.string s) (.lit (.int .i64 0)) = .lit (.int .i64 ((g s).getD 0))) (q2 : ∀ s, (g s).getD 0 = (bd s : Int) ∧ bd s ≤ n) (hm : Maps.IsMap D)
    (hw : w1.ownsMap Try.prog 9 (plainElem Try.prog 3) m (n + 1) (D.put (.string s) (.lit (.int .i64 v)))) (hb : ∀ x, x ≠ s → bd' x = bd x) (hs : v = (bd' s : Int)) (hn : bd' s ≤ n + 1) : Mb w1 m (n + 1) bd' := by
  refine ⟨updG g s v, Mp.put q hm s v hw, fun x => ?_⟩
  unfold updG
  by_cases e : x = s
  · subst e
    rw [if_pos rfl]
    exact ⟨hs, hn⟩
  · rw [if_neg e, hb x e]
    exact ⟨(q2 x).1, Nat.le_succ_of_le (q2 x).2⟩
theorem Mb.made (w : World) : Mb (w.alloc (.map #[] 0)) w.heap.size 0 (fun _ => 0) := ⟨_, Mp.made w, fun s => ⟨rfl, Nat.le_refl _⟩⟩

/-- some names more -/
def plus (bd : Nm → Nat) (l : List Nm) : Nm → Nat := fun s => bd s + l.count s
theorem plus_nil (bd : Nm → Nat) : plus bd [] = bd := by funext s; simp [plus]
theorem plus_take (bd : Nm → Nat) (l : List Nm) (k : Nat) (h : k < l.length) (s : Nm) : plus bd (l.take (k + 1)) s = if s = l[k]'h then plus bd (l.take k) s + 1 else plus bd (l.take k) s := by
  unfold plus
  rw [List.take_succ_eq_append_getElem h, List.count_append, List.count_singleton]
  by_cases e : s = l[k]'h
  · rw [if_pos e, if_pos (by simp [e])]; omega
  · rw [if_neg e, if_neg (by simp; exact fun z => e z.symm)]; omega
theorem plus_drop (bd : Nm → Nat) (l : List Nm) (k : Nat) (h : k < l.length) (s : Nm) : plus bd (l.drop k) s = if s = l[k]'h then plus bd (l.drop (k + 1)) s + 1 else plus bd (l.drop (k + 1)) s := by
  unfold plus
  rw [List.drop_eq_getElem_cons h, List.count_cons]
  by_cases e : s = l[k]'h
  · rw [if_pos e, if_pos (by simp [e])]; omega
  · rw [if_neg e, if_neg (by simp; exact fun z => e z.symm)]; omega

/-- the blocks that the reader leaves alone -/
def Qk (b p q : Nat) (o : Option Nat) (n : Nat) : Nat → Prop := fun g => g ≠ b ∧ g ≠ p ∧ g ≠ q ∧ o ≠ some g ∧ g < n
/-- nothing that was there has turned but the reader's own -/
structure Fe (b p q : Nat) (o o' : Option Nat) (w w' : World) : Prop where
  os : w'.os = w.os
  tape : w'.tape = w.tape
  output : w'.output = w.output
  size : w.heap.size ≤ w'.heap.size
  block : ∀ i, Qk b p q o w.heap.size i → w'.heap[i]? = w.heap[i]?
  own : o' = o ∨ ∃ j, o' = some j ∧ w.heap.size ≤ j
section
variable {b p q : Nat} {o o' o'' : Option Nat} {w w' w'' : World}
theorem Fe.refl (b p q : Nat) (o : Option Nat) (w : World) : Fe b p q o o w w := ⟨rfl, rfl, rfl, Nat.le_refl _, fun _ _ => rfl, .inl rfl⟩
theorem Qk.on (h : Fe b p q o o' w w') {g : Nat} (k : Qk b p q o w.heap.size g) : Qk b p q o' w'.heap.size g := by
  obtain ⟨k1, k2, k3, k4, k5⟩ := k
  refine ⟨k1, k2, k3, ?_, Nat.lt_of_lt_of_le k5 h.size⟩
  rcases h.own with e | ⟨j, e, l⟩
  · rw [e]; exact k4
  · rw [e]
    intro z
    cases z
    omega
theorem Fe.trans (h : Fe b p q o o' w w') (k : Fe b p q o' o'' w' w'') : Fe b p q o o'' w w'' := by
  refine ⟨k.os.trans h.os, k.tape.trans h.tape, k.output.trans h.output, Nat.le_trans h.size k.size, fun i hi => (k.block i (Qk.on h hi)).trans (h.block i hi), ?_⟩
  rcases k.own with e | ⟨j, e, l⟩
  · rw [e]; exact h.own
  · exact .inr ⟨j, e, Nat.le_trans h.size l⟩
theorem Fe.of_below (h : Below w.heap.size w w') : Fe b p q o o w w' := ⟨h.os, h.tape, h.output, h.size, fun i hi => h.block i hi.2.2.2.2, .inl rfl⟩
theorem Fe.alloc (h : Fe b p q o o' w w') (x : Obj) : Fe b p q o o' w (w'.alloc x) := h.trans (Fe.of_below (Joins.below_alloc1 _ _))
theorem Fe.drew (h : Fe b p q o o' w w') : Fe b p q o o' w w'.drew := h.trans (Fe.of_below ⟨rfl, rfl, rfl, Nat.le_refl _, fun _ _ => rfl⟩)
theorem Fe.keeps (h : Fe b p q o o' w w') : Keeps (Qk b p q o w.heap.size) (Qk b p q o' w'.heap.size) w w' :=
  ⟨fun g off u hg hc => (World.cell?_of_block (h.block g hg)).trans hc, fun g hg => Qk.on h hg⟩
theorem Fe.below {B : Nat} (h : Fe b p q o o' w w') (hb : B ≤ b) (hp : B ≤ p) (hq : B ≤ q) (ho : ∀ j, o = some j → B ≤ j) (hw : B ≤ w.heap.size) : Below B w w' :=
  ⟨h.os, h.tape, h.output, h.size, fun k hk => h.block k ⟨by omega, by omega, by omega, fun e => by have := ho k e; omega, by omega⟩⟩
theorem Bx.fe {x : Nat} {cs : Array Value} {t : TypeId} (h : Bx w x cs t) (k : Fe b p q o o' w w') (hx : Qk b p q o w.heap.size x) : Bx w' x cs t := (k.block x hx).trans h
theorem Fe.of_map {m : Nat} (hm : m = p ∨ m = q) (h : w.grownBy w' (some m)) : Fe b p q o o w w' := by
  refine ⟨h.os, h.tape, h.output, h.size, fun i hi => h.block i hi.2.2.2.2 (fun e => ?_), .inl rfl⟩
  cases e
  rcases hm with z | z
  · exact hi.2.1 z
  · exact hi.2.2.1 z
end

/-- the reader -/
structure Rs (w : World) (b p q n : Nat) (bd : Nm → Nat) (fr : List Nm) (v : Value) : Prop where
  blk : w.heap[b]? = some (.cells #[.map (some p), .map (some q), v] 69 (0, 0))
  bs : Mb w p n bd
  ms : ∃ c : Nm → Nat, Mb w q n c ∧ ∀ s, 0 < c s ↔ s ∈ fr
  row : w.ownsRow 0 9 1 v fr.length (strC fr)
  ne : b ≠ p ∧ b ≠ q ∧ p ≠ q
  no : v.ownBlock ≠ some b ∧ v.ownBlock ≠ some p ∧ v.ownBlock ≠ some q
  len : fr.length ≤ n
section
variable {w w' : World} {b p q n : Nat} {bd : Nm → Nat} {fr : List Nm} {v : Value}
theorem Rs.lt (h : Rs w b p q n bd fr v) : b < w.heap.size := (Array.getElem?_eq_some_iff.1 h.blk).1
theorem Rs.lts (h : Rs w b p q n bd fr v) : b < w.heap.size ∧ p < w.heap.size ∧ q < w.heap.size := ⟨h.lt, h.bs.lt, by obtain ⟨c, h, _⟩ := h.ms; exact h.lt⟩
theorem Rs.own (h : Rs w b p q n bd fr v) : ∀ j, v.ownBlock = some j → j < w.heap.size := fun j e => (h.row.lt j e).2
theorem Rs.new (h : Rs w b p q n bd fr v) {x k : Nat} (hx : w.heap.size ≤ x) (hk : x < k) : Qk b p q v.ownBlock k x := by
  obtain ⟨a, c, d⟩ := h.lts
  exact ⟨by omega, by omega, by omega, fun e => by have := h.own x e; omega, hk⟩
theorem Rs.later (h : Rs w b p q n bd fr v) (k : Below w.heap.size w w') : Rs w' b p q n bd fr v := by
  obtain ⟨l1, l2, l3⟩ := h.lts
  obtain ⟨c, hc, e⟩ := h.ms
  exact ⟨(k.block b l1).trans h.blk, h.bs.of_block (k.block p l2), ⟨c, hc.of_block (k.block q l3), e⟩, h.row.kept (row := none) ⟨k.os, k.tape, k.output, k.size, fun i hi _ => k.block i hi⟩ (by cases v.ownBlock <;> simp), h.ne, h.no, h.len⟩
theorem Rs.alloc (h : Rs w b p q n bd fr v) (o : Obj) : Rs (w.alloc o) b p q n bd fr v := h.later (Joins.below_alloc1 w o)
theorem Rs.drew (h : Rs w b p q n bd fr v) : Rs w.drew b p q n bd fr v := h.later ⟨rfl, rfl, rfl, Nat.le_refl _, fun _ _ => rfl⟩
theorem Rs.mono (h : Rs w b p q n bd fr v) {n' : Nat} (k : n ≤ n') : Rs w b p q n' bd fr v := by
  obtain ⟨c, hc, e⟩ := h.ms
  exact ⟨h.blk, h.bs.mono k, ⟨c, hc.mono k, e⟩, h.row, h.ne, h.no, Nat.le_trans h.len k⟩
theorem Rs.cell (h : Rs w b p q n bd fr v) (j : Nat) : w.cell? ⟨b, j, none⟩ = #[.map (some p), .map (some q), v][j]? := Joins.cell_of_block h.blk j
theorem Rs.z (h : Rs w b p q n bd fr v) (j : Nat) : w.frozen? ⟨b, j, none⟩ = false := Joins.unfrozen_of_block h.blk j
/-- what a step leaves -/
def Out (w : World) (b p q n : Nat) (bd : Nm → Nat) (fr : List Nm) (v : Value) (e : Ending) (w' : World) : Prop :=
  ∃ v', e = done ∧ Fe b p q v.ownBlock v'.ownBlock w w' ∧ Rs w' b p q n bd fr v'
theorem Out.mono {e : Ending} (h : Out w b p q n bd fr v e w') {n' : Nat} (k : n ≤ n') : Out w b p q n' bd fr v e w' := by
  obtain ⟨v', e, F, R⟩ := h
  exact ⟨v', e, F, R.mono k⟩
/-- where a map has been written -/
theorem Rs.bound (h : Rs w b p q n bd fr v) {bd' : Nm → Nat} {w1 : World} (hb : Mb w1 p (n + 1) bd') (hg : w.grownBy w1 (some p)) : Rs w1 b p q (n + 1) bd' fr v := by
  obtain ⟨c, hc, e⟩ := h.ms
  obtain ⟨l1, l2, l3⟩ := h.lts
  exact ⟨(hg.block b l1 (fun z => h.ne.1 (Option.some.inj z))).trans h.blk, hb, ⟨c, (hc.of_block (hg.block q l3 (fun z => h.ne.2.2 (Option.some.inj z).symm))).mono (by omega), e⟩,
    h.row.kept hg (.inr h.no.2.1), h.ne, h.no, Nat.le_succ_of_le h.len⟩
end
end Go.Proofs.Ytmlegdnenklkhaa
