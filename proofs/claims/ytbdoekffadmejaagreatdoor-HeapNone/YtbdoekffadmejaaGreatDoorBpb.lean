/- A space in memory: its box, the list of what was laid, the map of bits; what turns and what stays. -/
import Derived.Test.YtbdoekffadmejaaGreatDoorBpa
import Derived.Test.YtbdoekffadmejaaGreatDoorAre
import Derived.Test.YtbdoekffadmejaaGreatDoorAlloc
import Derived.Maps.OwnSet
import Derived.DeepKeys4
import Derived.KernelRfl
import Derived.Laws.BitsAllLaws
namespace Go.Proofs.YtbdoekffadmejaaGreatDoor.Bp
open Go.RowKit
open Go.Maps (Keyed string_keyed int_keyed)
set_option linter.unusedVariables false
set_option linter.unusedSimpArgs false

/-- A fact that the walk does not look at. -/
structure Hid (P : Prop) : Prop where
  out : P

/-! ### Maps -/
def isI (n : Int) : Prop := -9223372036854775808 ≤ n ∧ n ≤ 9223372036854775807
def vEl : Value → Option (DataW Value × List MemPlace) := fun v => some (.held v, [])
/-- a map whose values are the ones of f -/
def VM (k : TypeId) (w : World) (m n : Nat) (f : Lit → Option Value) : Prop :=
  ∃ D : DataW Value, w.ownsMap Tryz.prog k vEl m n D ∧ ∀ kl, Maps.has D kl = (f kl).isSome ∧ ∀ z, D.atKey kl z = (match f kl with | some v => .held v | none => z)
section
variable {k : TypeId} {w w' : World} {m n : Nat} {f : Lit → Option Value}
theorem VM.lt (h : VM k w m n f) : m < w.heap.size := by obtain ⟨D, h, _⟩ := h; exact h.lt
theorem VM.of_block (h : VM k w m n f) (e : w'.heap[m]? = w.heap[m]?) : VM k w' m n f := by
  obtain ⟨D, ⟨es, clock, hb, r⟩, q⟩ := h
  exact ⟨D, ⟨es, clock, e.trans hb, r⟩, q⟩
theorem VM.mono (h : VM k w m n f) {n' : Nat} (e : n ≤ n') : VM k w m n' f := by
  obtain ⟨D, h, q⟩ := h
  exact ⟨D, h.mono e, q⟩
theorem VM.made (k : TypeId) (w : World) : VM k (w.alloc (.map #[] 0)) w.heap.size 0 (fun _ => none) :=
  ⟨.map [], World.ownsMap_made w _ _ _, fun s => ⟨rfl, fun z => rfl⟩⟩
def updV (f : Lit → Option Value) (x : Lit) (v : Value) : Lit → Option Value := fun y => if y.sameKey x = true then some v else f y
def delV (f : Lit → Option Value) (x : Lit) : Lit → Option Value := fun y => if y.sameKey x = true then none else f y
end
section
variable {P : Program} (w : World) {ops : Array Oper} {rest : List Oper} {o : Oper} {a : Act} {Q : Exit → Act → World → Prop}
/-- 'm[k] = v' -/
theorem wpList_vm_put (hg : o.guard = none) (m x v : Operand) (t : TypeId) (hop : o.op = Op.mapUpdate t m x v) (k e : TypeId) (K : Keyed Tryz.prog k) (ht : Tryz.prog.underlying t = some (.map k e)) (b n : Nat) (f : Lit → Option Value)
    (hm : a.eval m = .map (some b)) (hown : VM k w b n f) (hn : n < maxLen) (key val : Value) (kl : Lit) (hx : a.eval x = key) (hv : a.eval v = val) (hkey : keyOf Tryz.prog k key = some kl)
    (hK : ∀ w', VM k w' b (n + 1) (updV f kl val) → w.grownBy w' (some b) → wpList Tryz.prog ops Q rest (a.put o.dst undef) w') :
    wpList Tryz.prog ops Q (o :: rest) a w := by
  obtain ⟨D, hD, q⟩ := hown
  refine wpList_mapUpdate_in w hg m x v t hop k e K ht vEl b n D hm hD hn key val kl hx hv hkey (.held val) [] rfl (fun w' r1 r2 => hK w' ⟨_, r1, fun y => ?_⟩ r2.grown)
  unfold updV
  by_cases ey : y = kl
  · subst ey
    rw [if_pos (WideAt.sameKey_self (K.key hkey))]
    exact ⟨Maps.has_put_same hD.isMap (K.key hkey) _, fun z => Maps.atKey_put_same hD.isMap (K.key hkey) _ z⟩
  · rw [if_neg (by rw [Maps.sameKey_ne ey]; simp)]
    exact ⟨(Maps.has_put_other ey _).trans (q y).1, fun z => (Maps.atKey_put_other ey _ z).trans ((q y).2 z)⟩
/-- 'm[k]' -/
theorem VM.look {w : World} {k : TypeId} {b n : Nat} {f : Lit → Option Value} (h : VM k w b n f) (K : Keyed Tryz.prog k) {t e : TypeId} (ht : Tryz.prog.underlying t = some (.map k e)) {z : Value} (hz : (zeroValue e).run Tryz.prog w = .ok z w) {key : Value} {kl : Lit} (hkey : keyOf Tryz.prog k key = some kl) :
    (Instr.lookup t (.map (some b)) key false).run Tryz.prog w = .ok ((f kl).getD z) w := by
  obtain ⟨D, hD, q⟩ := h
  obtain ⟨v, ps, hr, hv⟩ := hD.lookup K ht hz (zd := .held z) (zp := []) rfl hkey
  rw [(q kl).2] at hv
  simp only [vEl, Option.some.injEq, Prod.mk.injEq] at hv
  cases hf : f kl with
  | none => rw [hf] at hv; obtain ⟨hv, _⟩ := hv; cases hv; rw [hr]; rfl
  | some u => rw [hf] at hv; obtain ⟨hv, _⟩ := hv; cases hv; rw [hr]; rfl
theorem VM.look_ok {w : World} {k : TypeId} {b n : Nat} {f : Lit → Option Value} (h : VM k w b n f) (K : Keyed Tryz.prog k) {t e : TypeId} (ht : Tryz.prog.underlying t = some (.map k e)) {z : Value} (hz : (zeroValue e).run Tryz.prog w = .ok z w) {key : Value} {kl : Lit} (hkey : keyOf Tryz.prog k key = some kl) :
    (Instr.lookup t (.map (some b)) key true).run Tryz.prog w = .ok (.tuple #[(f kl).getD z, .bool (f kl).isSome]) w := by
  obtain ⟨D, hD, q⟩ := h
  obtain ⟨v, ps, hr, hv⟩ := hD.look_ok K ht hz (zd := .held z) (zp := []) rfl hkey
  rw [(q kl).2] at hv
  rw [(q kl).1] at hr
  simp only [vEl, Option.some.injEq, Prod.mk.injEq] at hv
  cases hf : f kl with
  | none => rw [hf] at hv hr; obtain ⟨hv, _⟩ := hv; cases hv; rw [hr]; rfl
  | some u => rw [hf] at hv hr; obtain ⟨hv, _⟩ := hv; cases hv; rw [hr]; rfl
theorem wpList_vm_look (hg : o.guard = none) (m x : Operand) (t : TypeId) (hop : o.op = Op.lookup t m x false) (k e : TypeId) (K : Keyed Tryz.prog k) (ht : Tryz.prog.underlying t = some (.map k e)) {z : Value} (hz : (zeroValue e).run Tryz.prog w = .ok z w) (b n : Nat) (f : Lit → Option Value)
    (hm : a.eval m = .map (some b)) (hown : VM k w b n f) (key : Value) (kl : Lit) (hx : a.eval x = key) (hkey : keyOf Tryz.prog k key = some kl)
    (hK : wpList Tryz.prog ops Q rest (a.put o.dst ((f kl).getD z)) w) :
    wpList Tryz.prog ops Q (o :: rest) a w := by
  refine wpList_plain hg fun K' hK' => ?_
  have hrun := hown.look K ht hz hkey
  unfold Oper.wp
  simp [execOp, hop, hm, hx, hrun, Result.andThen]
  exact hK' _ _ hK
theorem wpList_vm_look_ok (hg : o.guard = none) (m x : Operand) (t : TypeId) (hop : o.op = Op.lookup t m x true) (k e : TypeId) (K : Keyed Tryz.prog k) (ht : Tryz.prog.underlying t = some (.map k e)) {z : Value} (hz : (zeroValue e).run Tryz.prog w = .ok z w) (b n : Nat) (f : Lit → Option Value)
    (hm : a.eval m = .map (some b)) (hown : VM k w b n f) (key : Value) (kl : Lit) (hx : a.eval x = key) (hkey : keyOf Tryz.prog k key = some kl)
    (hK : wpList Tryz.prog ops Q rest (a.put o.dst (.tuple #[(f kl).getD z, .bool (f kl).isSome])) w) :
    wpList Tryz.prog ops Q (o :: rest) a w := by
  refine wpList_plain hg fun K' hK' => ?_
  have hrun := hown.look_ok K ht hz hkey
  unfold Oper.wp
  simp [execOp, hop, hm, hx, hrun, Result.andThen]
  exact hK' _ _ hK
end
theorem lawI : Keyed Tryz.prog 3 := int_keyed Tryz.underlying3
theorem wf_isI {n : Int} (h : isI n) : (Lit.int .i64 n).wf = true := by
  obtain ⟨h1, h2⟩ := h
  simp only [Lit.wf, IntKind.min, IntKind.max, IntKind.signed, IntKind.bits, Bool.and_eq_true, decide_eq_true_eq, if_true]
  omega
theorem keyI {n : Int} (h : isI n) : keyOf Tryz.prog 3 (.int .i64 n) = some (.int .i64 n) := Maps.keyOf_int_mk Tryz.underlying3 (wf_isI h)
theorem upd_same (f : Lit → Option Value) {x : Lit} (h : WideAt.IsKeyLit x) (v : Value) : updV f x v x = some v := by unfold updV; rw [if_pos (WideAt.sameKey_self h)]
theorem upd_other (f : Lit → Option Value) {x y : Lit} (h : y ≠ x) (v : Value) : updV f x v y = f y := by unfold updV; rw [if_neg (by rw [Maps.sameKey_ne h]; simp)]
theorem VM.store {w : World} {k : TypeId} {b n : Nat} {f : Lit → Option Value} (h : VM k w b n f) (K : Keyed Tryz.prog k) {t e : TypeId} (ht : Tryz.prog.underlying t = some (.map k e)) (hn : n < maxLen) {key val : Value} {kl : Lit} (hkey : keyOf Tryz.prog k key = some kl) :
    ∃ w', (Instr.mapUpdate t (.map (some b)) key val).run Tryz.prog w = .ok () w' ∧ VM k w' b (n + 1) (updV f kl val) ∧ w.grownBy w' (some b) := by
  obtain ⟨D, hD, q⟩ := h
  obtain ⟨w', hrun, r1, r2⟩ := hD.store K ht hn hkey (val := val) (d := .held val) (ps := []) rfl
  refine ⟨w', hrun, ⟨_, r1, fun y => ?_⟩, r2.grown⟩
  unfold updV
  by_cases ey : y = kl
  · subst ey
    rw [if_pos (WideAt.sameKey_self (K.key hkey))]
    exact ⟨Maps.has_put_same hD.isMap (K.key hkey) _, fun z => Maps.atKey_put_same hD.isMap (K.key hkey) _ z⟩
  · rw [if_neg (by rw [Maps.sameKey_ne ey]; simp)]
    exact ⟨(Maps.has_put_other ey _).trans (q y).1, fun z => (Maps.atKey_put_other ey _ z).trans ((q y).2 z)⟩
theorem zero41 (w : World) : (zeroValue 59).run Tryz.prog w = .ok (.int .u64 0) w := by kernel_rfl

/-! ### What turns -/
/-- All old blocks but these stay. -/
structure Chg (X : Nat → Prop) (w w' : World) : Prop where
  os : w'.os = w.os
  tape : w'.tape = w.tape
  output : w'.output = w.output
  size : w.heap.size ≤ w'.heap.size
  block : ∀ k, k < w.heap.size → ¬ X k → w'.heap[k]? = w.heap[k]?
theorem Chg.refl (X : Nat → Prop) (w : World) : Chg X w w := ⟨rfl, rfl, rfl, Nat.le_refl _, fun _ _ _ => rfl⟩
theorem Chg.trans {X : Nat → Prop} {a b c : World} (h : Chg X a b) (k : Chg X b c) : Chg X a c :=
  ⟨k.os.trans h.os, k.tape.trans h.tape, k.output.trans h.output, Nat.le_trans h.size k.size, fun i hi hx => (k.block i (Nat.lt_of_lt_of_le hi h.size) hx).trans (h.block i hi hx)⟩
theorem Chg.mono {X Y : Nat → Prop} {a b : World} (h : Chg X a b) (k : ∀ i, i < a.heap.size → X i → Y i) : Chg Y a b :=
  ⟨h.os, h.tape, h.output, h.size, fun i hi hx => h.block i hi (fun q => hx (k i hi q))⟩
theorem Chg.one {X : Nat → Prop} {a b : World} {i : Nat} (h : a.grownBy b (some i)) (hi : X i) : Chg X a b := ⟨h.os, h.tape, h.output, h.size, fun k hk hx => h.block k hk (fun e => hx (by cases e; exact hi))⟩
theorem Chg.later {X : Nat → Prop} {a b : World} (h : Below a.heap.size a b) : Chg X a b := ⟨h.os, h.tape, h.output, h.size, fun k hk _ => h.block k hk⟩
theorem Chg.below {X : Nat → Prop} {m : Nat} {w a b : World} (B : Below m w a) (h : Chg X a b) (hm : m ≤ a.heap.size) (hx : ∀ k, X k → m ≤ k) : Below m w b :=
  ⟨h.os.trans B.os, h.tape.trans B.tape, h.output.trans B.output, Nat.le_trans B.size h.size, fun k hk => (h.block k (by omega) (fun q => by have := hx k q; omega)).trans (B.block k hk)⟩
theorem Has.chg {T : TypeId} {X : Nat → Prop} {w w' : World} {p b N : Nat} {f : Nat → Int} (h : Has T w p b f N) (c : Chg X w w') (hp : ¬ X p) (hb : ¬ X b) : Has T w' p b f N :=
  ⟨(c.block p h.lt.1 hp).trans h.box, (c.block b h.lt.2 hb).trans h.nums, h.ne, h.pos, h.len⟩
theorem Ar.Has.chg {T : TypeId} {X : Nat → Prop} {w w' : World} {p b : Nat} {xs : List Int} (h : Ar.Has T w p b xs) (c : Chg X w w') (hp : ¬ X p) (hb : ¬ X b) : Ar.Has T w' p b xs :=
  ⟨(c.block p h.lt.1 hp).trans h.box, (c.block b h.lt.2 hb).trans h.words, h.ne, h.len⟩

/-! ### A space -/
def pcs (l : List (Nat × Nat)) : List Value := l.flatMap (fun x => [.int .i64 (x.1 : Int), .int .i64 (x.2 : Int)])
theorem pcs_snoc (l : List (Nat × Nat)) (i n : Nat) : pcs (l ++ [(i, n)]) = pcs l ++ [.int .i64 (i : Int), .int .i64 (n : Int)] := by simp [pcs]
theorem pcs_length (l : List (Nat × Nat)) : (pcs l).length = l.length * 2 := by induction l with
  | nil => rfl
  | cons x l ih => simp only [pcs, List.flatMap_cons, List.length_append, List.length_cons, List.length_nil] at ih ⊢; omega
/-- The blocks of a space: its box, its map, its list. -/
def ft (s m : Nat) (v : Value) (k : Nat) : Prop := k = s ∨ k = m ∨ v.ownBlock = some k
structure Sp (w : World) (s p a m : Nat) (v : Value) (S : S0) : Prop where
  box : w.heap[s]? = some (.cells #[.pointer (some ⟨p, 0, none⟩), .pointer (some ⟨a, 0, none⟩), v, .map (some m), .int .i64 (S.nx : Int), .int .i64 (S.us : Int), .int .i64 (S.bl : Int)] 165 (0, 0))
  row : w.ownsRow 0 179 2 v S.l.length (pcs S.l)
  map : ∃ n g, n ≤ S.l.length ∧ VM 3 w m n g ∧ ∀ b : Nat, b < 288230376151711744 → (g (.int .i64 (b : Int))).getD (.int .u64 0) = .int .u64 (mask S.l b : Int)
  sm : s ≠ m
  sv : v.ownBlock ≠ some s
  mv : v.ownBlock ≠ some m
section
variable {w w' : World} {s p a m : Nat} {v : Value} {S : S0}
theorem Sp.lt (h : Sp w s p a m v S) : ∀ k, ft s m v k → k < w.heap.size := by
  rintro k (rfl | rfl | e)
  · exact (Array.getElem?_eq_some_iff.1 h.box).1
  · obtain ⟨n, g, _, q, _⟩ := h.map; exact q.lt
  · exact (h.row.lt k e).2
theorem ownsRow_same {w w' : World} {base size n : Nat} {e : TypeId} {v : Value} {xs : List Value} (h : w.ownsRow base e size v n xs) (k : ∀ b, v.ownBlock = some b → w'.heap[b]? = w.heap[b]?) : w'.ownsRow base e size v n xs := by
  refine ⟨h.1, ?_⟩
  rcases h.2 with hn | ⟨g, cap, cur, rfl, hg, hgg, rest⟩
  · exact .inl hn
  · exact .inr ⟨g, cap, cur, rfl, hg, (k g rfl).trans hgg, rest⟩
theorem Sp.same (h : Sp w s p a m v S) (k : ∀ b, ft s m v b → w'.heap[b]? = w.heap[b]?) : Sp w' s p a m v S := by
  refine ⟨(k s (.inl rfl)).trans h.box, ownsRow_same h.row (fun b e => k b (.inr (.inr e))), ?_, h.sm, h.sv, h.mv⟩
  obtain ⟨n, g, q1, q2, q3⟩ := h.map
  exact ⟨n, g, q1, q2.of_block (k m (.inr (.inl rfl))), q3⟩
theorem Sp.chg {X : Nat → Prop} (h : Sp w s p a m v S) (c : Chg X w w') (hx : ∀ k, ft s m v k → ¬ X k) : Sp w' s p a m v S := h.same fun b hb => c.block b (h.lt b hb) (hx b hb)
theorem Sp.later (h : Sp w s p a m v S) (c : Below w.heap.size w w') : Sp w' s p a m v S := h.same fun b hb => c.block b (h.lt b hb)
theorem Sp.c0 (h : Sp w s p a m v S) : w.cell? ⟨s, 0, none⟩ = some (.pointer (some ⟨p, 0, none⟩)) := by rw [Joins.cell_of_block h.box]; rfl
theorem Sp.c1 (h : Sp w s p a m v S) : w.cell? ⟨s, 1, none⟩ = some (.pointer (some ⟨a, 0, none⟩)) := by rw [Joins.cell_of_block h.box]; rfl
theorem Sp.c2 (h : Sp w s p a m v S) : w.cell? ⟨s, 2, none⟩ = some v := by rw [Joins.cell_of_block h.box]; rfl
theorem Sp.c3 (h : Sp w s p a m v S) : w.cell? ⟨s, 3, none⟩ = some (.map (some m)) := by rw [Joins.cell_of_block h.box]; rfl
theorem Sp.c4 (h : Sp w s p a m v S) : w.cell? ⟨s, 4, none⟩ = some (.int .i64 (S.nx : Int)) := by rw [Joins.cell_of_block h.box]; rfl
theorem Sp.c5 (h : Sp w s p a m v S) : w.cell? ⟨s, 5, none⟩ = some (.int .i64 (S.us : Int)) := by rw [Joins.cell_of_block h.box]; rfl
theorem Sp.c6 (h : Sp w s p a m v S) : w.cell? ⟨s, 6, none⟩ = some (.int .i64 (S.bl : Int)) := by rw [Joins.cell_of_block h.box]; rfl
theorem Sp.z (h : Sp w s p a m v S) (i : Nat) : w.frozen? ⟨s, i, none⟩ = false := Joins.unfrozen_of_block h.box i
theorem Sp.form (h : Sp w s p a m v S) : ∃ ga cap, v = .slice ga S.l.length cap ∧ S.l.length ≤ cap := by
  rcases h.row.2 with ⟨rfl, h0⟩ | ⟨g, cap, cur, rfl, hb, hg, X⟩
  · exact ⟨none, 0, by rw [h0], by omega⟩
  · exact ⟨_, cap, rfl, X.1⟩
end

/-! ### The small ones -/
theorem blocksOf_any (w : World) (n : Nat) (hn : n ≤ 1099511627776) : Calls Tryz.prog 183 #[.int .i64 (n : Int)] w fun e w' => e = .returned (.int .i64 (blk n : Int)) ∧ w' = w := by
  have e1 : ((n : Int) + 64 - 1).tdiv 64 = (blk n : Int) := by unfold blk; rw [Int.tdiv_eq_ediv_of_nonneg (by omega)]; omega
  have b1 : (blk n : Int) ≤ 2000000000000 := by unfold blk; omega
  go_enter Tryz.func183, Tryz.ntmps183
  go_wp2
  go_ret
  exact ⟨rfl, rfl⟩
theorem begins_any (w : World) (n : Nat) (hn : n ≤ 1099511627776) : Calls Tryz.prog 135 #[.int .i64 (n : Int)] w fun e w' => e = .returned (.bool (decide (n % 64 = 0))) ∧ w' = w := by
  have e1 : (n : Int).tmod 64 = ((n % 64 : Nat) : Int) := by rw [Int.tmod_eq_emod_of_nonneg (by omega)]; omega
  go_enter Tryz.func135, Tryz.ntmps135
  go_wp2
  go_ret
  refine ⟨?_, rfl⟩
  by_cases h : n % 64 = 0
  · have h2 : (n : Int) % 64 = 0 := by omega
    simp [h, h2]
  · have h2 : ¬ (n : Int) % 64 = 0 := by omega
    simp [h, h2]
theorem used_any {w : World} {s p a m : Nat} {v : Value} {S : S0} (h : Sp w s p a m v S) : Calls Tryz.prog 56 #[.pointer (some ⟨s, 0, none⟩)] w fun e w' => e = .returned (.int .i64 (S.us : Int)) ∧ w' = w := by
  have c := h.c5
  go_enter Tryz.func56, Tryz.ntmps56
  go_wp2
  go_ret
  exact ⟨rfl, rfl⟩
theorem blocks_any {w : World} {s p a m : Nat} {v : Value} {S : S0} (h : Sp w s p a m v S) : Calls Tryz.prog 86 #[.pointer (some ⟨s, 0, none⟩)] w fun e w' => e = .returned (.int .i64 (S.bl : Int)) ∧ w' = w := by
  have c := h.c6
  go_enter Tryz.func86, Tryz.ntmps86
  go_wp2
  go_ret
  exact ⟨rfl, rfl⟩
theorem used_nil (w : World) : Calls Tryz.prog 56 #[.pointer none] w fun e w' => e = .returned (.int .i64 0) ∧ w' = w := by
  go_enter Tryz.func56, Tryz.ntmps56
  go_wp2
  go_ret
  exact ⟨rfl, rfl⟩
theorem blocks_nil (w : World) : Calls Tryz.prog 86 #[.pointer none] w fun e w' => e = .returned (.int .i64 0) ∧ w' = w := by
  go_enter Tryz.func86, Tryz.ntmps86
  go_wp2
  go_ret
  exact ⟨rfl, rfl⟩
theorem lay_nil (w : World) (n : Int) : Calls Tryz.prog 119 #[.pointer none, .int .i64 n] w fun e w' => e = .returned (.tuple #[.int .i64 0, .int .i64 1]) ∧ w' = w := by
  go_enter Tryz.func119, Tryz.ntmps119
  go_wp2
  go_ret2
  exact ⟨rfl, rfl⟩
theorem told_nil (w : World) : Calls Tryz.prog 140 #[.pointer none] w fun e w' => e = .returned (.slice none 0 0) ∧ w' = w := by
  go_enter Tryz.func140, Tryz.ntmps140
  go_wp2
  go_ret
  exact ⟨rfl, rfl⟩
theorem newS_nilP (w : World) (y : Option Addr) : Calls Tryz.prog 146 #[.pointer none, .pointer y] w fun e w' => e = .returned (.tuple #[.pointer none, .int .i64 1]) ∧ w' = w := by
  go_enter Tryz.func146, Tryz.ntmps146
  go_wp2
  go_ret2
  exact ⟨rfl, rfl⟩
theorem newS_nilA (w : World) (y : Addr) : Calls Tryz.prog 146 #[.pointer (some y), .pointer none] w fun e w' => e = .returned (.tuple #[.pointer none, .int .i64 1]) ∧ w' = w := by
  go_enter Tryz.func146, Tryz.ntmps146
  go_wp2
  go_ret2
  exact ⟨rfl, rfl⟩
end Go.Proofs.YtbdoekffadmejaaGreatDoor.Bp
