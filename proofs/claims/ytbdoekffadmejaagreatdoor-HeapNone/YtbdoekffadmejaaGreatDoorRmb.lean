/- Lists in memory: a map for each generation; what turns and what stays; which lists there are. -/
import Derived.Test.YtbdoekffadmejaaGreatDoorProg
import Derived.Test.YtbdoekffadmejaaGreatDoorRma
import Derived.WalkKit
import Derived.Handy
import Derived.BigQuiet
import Derived.Deep.QuietTactic
import Derived.Deep.RegionLaw
import Derived.Deep.OwnRows
import Derived.Maps.OwnSet
import Derived.Maps.OwnOps
import Derived.DeepKeys4
import Derived.KernelRfl
import Derived.Lib.SliceRun
import Derived.Lib.SmallJoins
import Derived.Lib.SlKeysI
namespace Go.Proofs.YtbdoekffadmejaaGreatDoor.Rm
open Go.RowKit
open Go.Maps (Keyed int_keyed)
set_option linter.unusedVariables false
set_option linter.unusedSimpArgs false
set_option maxRecDepth 100000

/-- A fact that the walk does not look at. -/
structure Hid (P : Prop) : Prop where
  out : P

/-! ### What turns -/
/-- All blocks below lo stay, and so does every block that is not of this kind. -/
structure Kp (X : Obj → Prop) (lo : Nat) (w w' : World) : Prop where
  bel : Below lo w w'
  keep : ∀ (k : Nat) (o : Obj), w.heap[k]? = some o → ¬ X o → w'.heap[k]? = some o
theorem Kp.refl (X : Obj → Prop) (lo : Nat) (w : World) : Kp X lo w w := ⟨Below.refl _ _, fun _ _ h _ => h⟩
theorem Kp.trans {X : Obj → Prop} {lo : Nat} {a b c : World} (h : Kp X lo a b) (k : Kp X lo b c) : Kp X lo a c :=
  ⟨h.bel.trans k.bel, fun i o hi hx => k.keep i o (h.keep i o hi hx) hx⟩
theorem Kp.mono {X Y : Obj → Prop} {lo : Nat} {a b : World} (h : Kp X lo a b) (q : ∀ o, X o → Y o) : Kp Y lo a b := ⟨h.bel, fun i o hi hx => h.keep i o hi (fun e => hx (q o e))⟩
theorem Kp.later {X : Obj → Prop} {lo : Nat} {a b : World} (h : Below a.heap.size a b) (hlo : lo ≤ a.heap.size) : Kp X lo a b :=
  ⟨h.mono hlo, fun i o hi _ => (h.block i (Array.getElem?_eq_some_iff.1 hi).1).trans hi⟩
theorem Kp.size {X : Obj → Prop} {lo : Nat} {a b : World} (h : Kp X lo a b) : a.heap.size ≤ b.heap.size := h.bel.size
theorem Kp.one {X : Obj → Prop} {lo k : Nat} {a b : World} {o : Obj} (h : a.grownBy b (some k)) (hk : a.heap[k]? = some o) (hx : X o) (hl : lo ≤ k) : Kp X lo a b :=
  ⟨⟨h.os, h.tape, h.output, h.size, fun i hi => by
      have := (Array.getElem?_eq_some_iff.1 hk).1
      exact h.block i (by omega) (by simp; omega)⟩, fun i o' hi hx' => by
    by_cases e : i = k
    · subst e; rw [hk] at hi; cases hi; exact absurd hx hx'
    · exact (h.block i (Array.getElem?_eq_some_iff.1 hi).1 (by simpa using e)).trans hi⟩
/-- maps, and rows of maps -/
def XP (o : Obj) : Prop := (∃ a c, o = .map a c) ∨ ∃ cur lay, o = .cells cur 156 lay
/-- rows of rows -/
def XR (o : Obj) : Prop := ∃ cur lay, o = .cells cur 31 lay

/-! ### Numbers in a row -/
def ints (l : List Int) : List Value := l.map (Value.int .i64)
/-- A slice value whose elements are these numbers. -/
def Sl (w : World) (v : Value) (xs : List Int) : Prop := ((∃ ga c, v = .slice ga 0 c) ∧ xs = []) ∨ ∃ g c cur, v = .slice (some ⟨g, 0, none⟩) xs.length c ∧ xs.length ≤ c ∧ w.heap[g]? = some (.cells cur 3 (0, 0)) ∧ ∀ j, j < xs.length → cur[j]? = some (.int .i64 (xs.getD j 0))
theorem Sl.kp {X : Obj → Prop} {lo : Nat} {w w' : World} {v : Value} {xs : List Int} (h : Sl w v xs) (B : Kp X lo w w') (hx : ∀ cur, ¬ X (.cells cur 3 (0, 0))) : Sl w' v xs := by
  rcases h with h | ⟨g, c, cur, h1, h2, h3, h4⟩
  · exact .inl h
  · exact .inr ⟨g, c, cur, h1, h2, B.keep g _ h3 (hx _), h4⟩
theorem Sl.later {w w' : World} {v : Value} {xs : List Int} (h : Sl w v xs) (B : Below w.heap.size w w') : Sl w' v xs :=
  h.kp (Kp.later (X := fun _ => False) (lo := 0) B (Nat.zero_le _)) (fun _ h => h)
theorem notXP (cur : Array Value) (T : TypeId) (lay : Nat × Nat) (h : T ≠ 156) : ¬ XP (.cells cur T lay) := by
  rintro (⟨a, c, e⟩ | ⟨cur', lay', e⟩)
  · cases e
  · cases e; exact h rfl
theorem notXR (cur : Array Value) (T : TypeId) (lay : Nat × Nat) (h : T ≠ 31) : ¬ XR (.cells cur T lay) := by
  rintro ⟨cur', lay', e⟩
  cases e; exact h rfl
theorem notXRm (a : Array MapEntry) (c : Nat) : ¬ XR (.map a c) := by
  rintro ⟨cur', lay', e⟩
  cases e
theorem sl_of {w : World} {n : Nat} {v : Value} {xs : List Int} (h : w.ownsRow n 3 1 v xs.length (ints xs)) : Sl w v xs := by
  rcases h.2 with ⟨h1, h2⟩ | ⟨g, cap, cur, hv, hb, hg, h1, h2, h3, h4⟩
  · exact .inl ⟨⟨none, 0, h1⟩, List.eq_nil_of_length_eq_zero h2⟩
  · refine .inr ⟨g, cap, cur, hv, h1, hg, fun j hj => ?_⟩
    have e : (cur.toList.take (xs.length * 1))[j]? = (ints xs)[j]? := by rw [h4]
    rw [Nat.mul_one, List.getElem?_take_of_lt hj] at e
    have : (ints xs)[j]? = some (.int .i64 (xs.getD j 0)) := by simp [ints, hj]
    rw [this] at e
    simpa using e

/-! ### A set of addresses -/
def SM (w : World) (m : Nat) (l : List Int) : Prop :=
  ∃ D : DataW Unit, w.ownsMap Tryz.prog 3 unitElem m (Maps.size D) D ∧ Maps.size D = l.length ∧ ∀ x : Int, Maps.has D (.int .i64 x) = decide (x ∈ l)
theorem own_fit {w : World} {m n : Nat} {D : DataW Unit} (h : w.ownsMap Tryz.prog 3 unitElem m n D) : w.ownsMap Tryz.prog 3 unitElem m (Maps.size D) D := by
  obtain ⟨es, clock, hb, F, hs, rfl⟩ := h
  exact ⟨es, clock, hb, F, by rw [Maps.size_eq, length_read]; exact Nat.le_refl _, rfl⟩
theorem SM.block {w : World} {m : Nat} {l : List Int} (h : SM w m l) : ∃ es clock, w.heap[m]? = some (.map es clock) := by
  obtain ⟨D, ⟨es, clock, hb, _⟩, _⟩ := h
  exact ⟨es, clock, hb⟩
theorem SM.lt {w : World} {m : Nat} {l : List Int} (h : SM w m l) : m < w.heap.size := by obtain ⟨es, clock, hb⟩ := h.block; exact (Array.getElem?_eq_some_iff.1 hb).1
theorem SM.of_block {w w' : World} {m : Nat} {l : List Int} (h : SM w m l) (e : w'.heap[m]? = w.heap[m]?) : SM w' m l := by
  obtain ⟨D, ⟨es, clock, hb, r⟩, q⟩ := h
  exact ⟨D, ⟨es, clock, e.trans hb, r⟩, q⟩
theorem SM.made (w : World) : SM (w.alloc (.map #[] 0)) w.heap.size [] := ⟨.map [], World.ownsMap_made w _ _ _, rfl, fun x => by rw [Maps.has_eq]; simp⟩
theorem law3 : Keyed Tryz.prog 3 := int_keyed Tryz.underlying3
def isI (n : Int) : Prop := -9223372036854775808 ≤ n ∧ n ≤ 9223372036854775807
theorem wf_isI {n : Int} (h : isI n) : (Lit.int .i64 n).wf = true := by
  obtain ⟨h1, h2⟩ := h
  simp only [Lit.wf, IntKind.min, IntKind.max, IntKind.signed, IntKind.bits, Bool.and_eq_true, decide_eq_true_eq, if_true]
  omega
theorem keyI {n : Int} (h : isI n) : keyOf Tryz.prog 3 (.int .i64 n) = some (.int .i64 n) := Maps.keyOf_int_mk Tryz.underlying3 (wf_isI h)
theorem litk (n : Int) (h : isI n) : WideAt.IsKeyLit (Lit.int .i64 n) := law3.key (keyI h)
theorem zero58 (w : World) : (zeroValue 157).run Tryz.prog w = .ok (.agg #[]) w := by kernel_rfl
theorem lit_ne {x y : Int} (h : y ≠ x) : Lit.int .i64 y ≠ Lit.int .i64 x := fun e => h (by simpa using e)
section
variable {P : Program} (w : World) {ops : Array Oper} {rest : List Oper} {o : Oper} {a : Act} {Q : Exit → Act → World → Prop}
/-- 'm[k] = struct{}{}' -/
theorem wpList_sm_put (hg : o.guard = none) (m x v : Operand) (t : TypeId) (hop : o.op = Op.mapUpdate t m x v) (ht : Tryz.prog.underlying t = some (.map 3 157)) (b : Nat) (l : List Int)
    (hm : a.eval m = .map (some b)) (hown : SM w b l) (hl : Gd l) (n : Int) (hn : 1 ≤ n ∧ n ≤ 524288) (hx : a.eval x = .int .i64 n) (hv : a.eval v = .agg #[])
    (hK : ∀ w', SM w' b (putL l n) → w.grownBy w' (some b) → wpList Tryz.prog ops Q rest (a.put o.dst undef) w') :
    wpList Tryz.prog ops Q (o :: rest) a w := by
  obtain ⟨D, hD, hs, hh⟩ := hown
  have hi : isI n := ⟨by omega, by omega⟩
  have hkey := keyI hi
  have len := hl.len
  refine wpList_mapUpdate_in w hg m x v t hop 3 157 law3 ht unitElem b _ D hm hD (by rw [hs]; unfold maxLen; omega) _ _ _ hx hv hkey (.agg []) [] unitElem_mk (fun w' r1 r2 => hK w' ⟨_, own_fit r1, ?_, fun y => ?_⟩ r2.grown)
  · rw [Maps.size_put (hD.tidy law3), hh n, hs, putL_len hl hn]
    simp
  · by_cases e : y = n
    · subst e
      rw [Maps.has_put_same hD.isMap (litk y hi)]
      symm; rw [decide_eq_true_eq, put_mem]; exact .inl rfl
    · rw [Maps.has_put_other (lit_ne e), hh y]
      congr 1
      rw [put_mem]
      simp [e]
/-- 'delete(m, k)' -/
theorem wpList_sm_del (hg : o.guard = none) (m x : Operand) (t : TypeId) (hop : o.op = Op.call { callee := Callee.builtin Builtin.delete, args := #[m, x], argTypes := #[t, 3] }) (ht : Tryz.prog.underlying t = some (.map 3 157)) (b : Nat) (l : List Int)
    (hm : a.eval m = .map (some b)) (hown : SM w b l) (hl : Gd l) (n : Int) (hn : isI n) (hx : a.eval x = .int .i64 n)
    (hK : ∀ w', SM w' b (les l n) → w.grownBy w' (some b) → wpList Tryz.prog ops Q rest (a.put o.dst (.tuple #[])) w') :
    wpList Tryz.prog ops Q (o :: rest) a w := by
  obtain ⟨D, hD, hs, hh⟩ := hown
  have hkey := keyI hn
  refine wpList_delete_own w hg m x t 3 hop 157 law3 ht unitElem b _ D hm hD _ _ hx hkey (fun w' r1 r2 => hK w' ⟨_, own_fit r1, ?_, fun y => ?_⟩ r2.grown)
  · have h1 := Maps.size_del (k := Lit.int .i64 n) (hD.tidy law3)
    rw [hh n, hs] at h1
    have h2 := les_len hl n
    by_cases e : n ∈ l <;> simp [e] at h1 h2 <;> omega
  · by_cases e : y = n
    · subst e
      rw [Maps.has_del_same]
      symm; rw [decide_eq_false_iff_not, les_mem]; exact fun q => q.2 rfl
    · rw [Maps.has_del_other (lit_ne e), hh y]
      congr 1
      rw [les_mem]
      simp [e]
/-- '_, ok := m[k]' -/
theorem wpList_sm_look (hg : o.guard = none) (m x : Operand) (t : TypeId) (hop : o.op = Op.lookup t m x true) (ht : Tryz.prog.underlying t = some (.map 3 157)) (b : Nat) (l : List Int)
    (hm : a.eval m = .map (some b)) (hown : SM w b l) (n : Int) (hn : isI n) (hx : a.eval x = .int .i64 n)
    (hK : wpList Tryz.prog ops Q rest (a.put o.dst (.tuple #[.agg #[], .bool (decide (n ∈ l))])) w) :
    wpList Tryz.prog ops Q (o :: rest) a w := by
  obtain ⟨D, hD, hs, hh⟩ := hown
  refine wpList_lookup_own_unit w hg m x t hop 3 157 law3 ht (zero58 w) b _ D hm hD _ _ hx (keyI hn) ?_
  rw [hh n]
  exact hK
/-- 'len(m)' -/
theorem wpList_sm_len (hg : o.guard = none) (m : Operand) (t : TypeId) (hop : o.op = Op.call { callee := Callee.builtin Builtin.len, args := #[m], argTypes := #[t] }) (ht : Tryz.prog.underlying t = some (.map 3 157)) (b : Nat) (l : List Int)
    (hm : a.eval m = .map (some b)) (hown : SM w b l)
    (hK : wpList Tryz.prog ops Q rest (a.put o.dst (.int .i64 (l.length : Int))) w) :
    wpList Tryz.prog ops Q (o :: rest) a w := by
  obtain ⟨D, hD, hs, hh⟩ := hown
  refine wpList_len_own w hg m t hop 3 157 ht unitElem b _ D hm hD ?_
  rw [hs]
  exact hK
end
theorem SM.keys {w : World} {m : Nat} {l : List Int} (h : SM w m l) (hl : Gd l) : ∃ D : DataW Unit, w.ownsMap Tryz.prog 3 unitElem m (Maps.size D) D ∧ Maps.size D = l.length ∧ l.Perm (intKeys D) := by
  obtain ⟨D, hD, hs, hh⟩ := h
  refine ⟨D, hD, hs, ?_⟩
  obtain ⟨es, hE, hpw, _⟩ := hD.entries law3
  obtain ⟨es', hE', hko⟩ := hD.keysOf
  obtain rfl : es = es' := by rw [hE] at hE'; simpa using hE'
  subst hE
  exact perm_intKeys hpw (fun p hp => by obtain ⟨v, hv⟩ := hko p hp; obtain ⟨x, _, hx, _⟩ := Maps.keyOf_i64 Tryz.underlying3 hv; exact ⟨x, hx⟩) hl.nodup (fun x => by rw [hh x]; simp)

/-! ### Lists -/
def maps' (n : Nat) (m : Nat → Nat) : List Value := (List.range n).map fun i => Value.map (some (m i))
structure Ls (lo : Nat) (w : World) (s sb n : Nat) (m : Nat → Nat) (L : Nat → List Int) : Prop where
  box : w.heap[s]? = some (.cells #[.slice (some ⟨sb, 0, none⟩) n n] 160 (0, 0))
  sets : w.heap[sb]? = some (.cells (maps' n m).toArray 156 (0, 0))
  map : ∀ i, i < n → SM w (m i) (L i)
  gd : ∀ i, i < n → Gd (L i)
  inj : ∀ i j, i < n → j < n → m i = m j → i = j
  le : 1 ≤ n ∧ n ≤ 4
  lo : lo ≤ s ∧ lo ≤ sb ∧ ∀ i, i < n → lo ≤ m i
section
variable {lo : Nat} {w w' : World} {s sb n : Nat} {m : Nat → Nat} {L : Nat → List Int}
theorem Ls.c0 (h : Ls lo w s sb n m L) : w.cell? ⟨s, 0, none⟩ = some (.slice (some ⟨sb, 0, none⟩) n n) := by rw [Joins.cell_of_block h.box]; rfl
theorem Ls.c1 (h : Ls lo w s sb n m L) (i : Nat) (hi : i < n) : w.cell? ⟨sb, i, none⟩ = some (.map (some (m i))) := by rw [Joins.cell_of_block h.sets]; simp [maps', hi]
theorem Ls.z (h : Ls lo w s sb n m L) (i : Nat) : w.frozen? ⟨sb, i, none⟩ = false := Joins.unfrozen_of_block h.sets i
theorem Ls.kp {X : Obj → Prop} {q : Nat} (h : Ls lo w s sb n m L) (B : Kp X q w w') (hx : ∀ cur lay, ¬ X (.cells cur 160 lay)) (hy : ∀ cur lay, ¬ X (.cells cur 156 lay)) (hz : ∀ a c, ¬ X (.map a c)) : Ls lo w' s sb n m L :=
  ⟨B.keep _ _ h.box (hx _ _), B.keep _ _ h.sets (hy _ _), fun i hi => by
    obtain ⟨es, c, hb⟩ := (h.map i hi).block
    exact (h.map i hi).of_block ((B.keep _ _ hb (hz _ _)).trans hb.symm), h.gd, h.inj, h.le, h.lo⟩
theorem Ls.later (h : Ls lo w s sb n m L) (B : Below w.heap.size w w') : Ls lo w' s sb n m L :=
  h.kp (Kp.later (X := fun _ => False) (lo := 0) B (Nat.zero_le _)) (fun _ _ h => h) (fun _ _ h => h) (fun _ _ h => h)
theorem Ls.lt (h : Ls lo w s sb n m L) : s < w.heap.size ∧ sb < w.heap.size := ⟨(Array.getElem?_eq_some_iff.1 h.box).1, (Array.getElem?_eq_some_iff.1 h.sets).1⟩
/-- one map turns -/
theorem Ls.turn (h : Ls lo w s sb n m L) {i : Nat} (hi : i < n) {l : List Int} (hl : Gd l) (M : SM w' (m i) l) (g : w.grownBy w' (some (m i))) : Ls lo w' s sb n m (upd L i l) ∧ Kp XP lo w w' := by
  obtain ⟨es, c, hb⟩ := (h.map i hi).block
  have far : ∀ (k : Nat) (o : Obj), w.heap[k]? = some o → k ≠ m i → w'.heap[k]? = some o := fun k o hk e => (g.block k (Array.getElem?_eq_some_iff.1 hk).1 (by simpa using e)).trans hk
  refine ⟨⟨far _ _ h.box ?_, far _ _ h.sets ?_, fun j hj => ?_, fun j hj => ?_, h.inj, h.le, h.lo⟩, Kp.one g hb (.inl ⟨_, _, rfl⟩) (h.lo.2.2 i hi)⟩
  · intro e; have := h.box; rw [e, hb] at this; cases this
  · intro e; have := h.sets; rw [e, hb] at this; cases this
  · by_cases e : j = i
    · subst e; rw [upd_at]; exact M
    · rw [upd_far _ _ e]
      obtain ⟨es', c', hb'⟩ := (h.map j hj).block
      exact (h.map j hj).of_block ((far _ _ hb' (fun q => e (h.inj j i hj hi q))).trans hb'.symm)
  · by_cases e : j = i
    · subst e; rw [upd_at]; exact hl
    · rw [upd_far _ _ e]; exact h.gd j hj
end
theorem maps_set (n : Nat) (m : Nat → Nat) (i k : Nat) : maps' n (upd m i k) = (maps' n m).set i (.map (some k)) := by
  apply List.ext_getElem
  · simp [maps']
  · intro j h1 h2
    simp only [maps', List.getElem_map, List.getElem_range, List.getElem_set, upd]
    split <;> split <;> first | rfl | omega
/-- one map is another one -/
theorem Ls.swap {lo : Nat} {w w1 : World} {s sb n k : Nat} {m : Nat → Nat} {L : Nat → List Int} (h : Ls lo w s sb n m L) {i : Nat} (hi : i < n) (B : Below w.heap.size w w1) (M : SM w1 k []) (hk : w.heap.size ≤ k) :
    Ls lo (w1.setCell ⟨sb, i, none⟩ (.map (some k))) s sb n (upd m i k) (upd L i []) ∧ Kp XP lo w (w1.setCell ⟨sb, i, none⟩ (.map (some k))) := by
  have h1 := h.later B
  have lt := h.lt
  have ne : s ≠ sb := fun e => by
    have := h.box
    rw [e, h.sets] at this
    simp only [Option.some.injEq, Obj.cells.injEq] at this
    exact absurd this.2.1 (by decide)
  have nm : ∀ j, j < n → m j ≠ sb := fun j hj e => by obtain ⟨es, c, hb⟩ := (h.map j hj).block; rw [e, h.sets] at hb; cases hb
  have ml : ∀ j, j < n → m j < w.heap.size := fun j hj => (h.map j hj).lt
  have hlo := h.lo
  refine ⟨⟨?_, ?_, fun j hj => ?_, fun j hj => ?_, fun a b ha hb e => ?_, h.le, ⟨hlo.1, hlo.2.1, fun j hj => ?_⟩⟩, ⟨?_, fun k' o hk' hx => ?_⟩⟩
  · rw [Below.heap_setCell _ _ _ _ ne]; exact h1.box
  · rw [Joins.block_setCell h1.sets, maps_set]; simp
  · by_cases e : j = i
    · subst e; rw [upd_at, upd_at]; exact M.of_block (Below.heap_setCell _ _ _ _ (show k ≠ sb from by have := lt.2; omega))
    · rw [upd_far _ _ e, upd_far _ _ e]
      exact (h1.map j hj).of_block (Below.heap_setCell _ _ _ _ (nm j hj))
  · by_cases e : j = i
    · subst e; rw [upd_at]; exact gd_nil
    · rw [upd_far _ _ e]; exact h.gd j hj
  · have la := ml a ha
    have lb := ml b hb
    unfold upd at e
    split at e <;> split at e
    · omega
    · omega
    · omega
    · exact h.inj a b ha hb e
  · unfold upd
    split
    · omega
    · exact hlo.2.2 j hj
  · exact (B.mono (by omega)).setCell hlo.2.1 _
  · have q1 := (B.block k' (Array.getElem?_eq_some_iff.1 hk').1).trans hk'
    by_cases e : k' = sb
    · subst e
      rw [h.sets] at hk'
      cases hk'
      exact absurd (.inr ⟨_, _, rfl⟩) hx
    · rw [Below.heap_setCell _ _ _ _ e]; exact q1

end Go.Proofs.YtbdoekffadmejaaGreatDoor.Rm
