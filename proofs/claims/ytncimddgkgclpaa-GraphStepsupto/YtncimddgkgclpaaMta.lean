/- Maps; append of any number; what stays; rows of one's own. -/
import Derived.Test.YtncimddgkgclpaaWyh
import Derived.Laws.AppendOwnNone
import Derived.Maps.OwnSet
import Derived.DeepKeys4
import Derived.Deep.AppendLies
namespace Go.Proofs.Ytncimddgkgclpaa
open Go.RowKit
open Go.Maps (Keyed string_keyed int_keyed)
set_option linter.unusedVariables false
set_option linter.unusedSimpArgs false

/-! ### Maps -/
def isI (n : Int) : Prop := -9223372036854775808 ≤ n ∧ n ≤ 9223372036854775807
def vEl : Value → Option (DataW Value × List MemPlace) := fun v => some (.held v, [])
/-- a map whose values are the ones of f -/
def VM (k : TypeId) (w : World) (m n : Nat) (f : Lit → Option Value) : Prop :=
  ∃ D : DataW Value, w.ownsMap Try.prog k vEl m n D ∧ ∀ kl, Maps.has D kl = (f kl).isSome ∧ ∀ z, D.atKey kl z = (match f kl with | some v => .held v | none => z)
section
variable {k : TypeId} {w w' : World} {m n : Nat} {f : Lit → Option Value}
theorem VM.lt (h : VM k w m n f) : m < w.heap.size := by obtain ⟨D, h, _⟩ := h; exact h.lt
theorem VM.of_block (h : VM k w m n f) (e : w'.heap[m]? = w.heap[m]?) : VM k w' m n f := by
  obtain ⟨D, ⟨es, clock, hb, r⟩, q⟩ := h
  exact ⟨D, ⟨es, clock, e.trans hb, r⟩, q⟩
theorem VM.mono (h : VM k w m n f) {n' : Nat} (e : n ≤ n') : VM k w m n' f := by
  obtain ⟨D, h, q⟩ := h
  exact ⟨D, h.mono e, q⟩
theorem VM.made (k : TypeId) (w : World) : VM k (w.alloc (.map #[] 0)) w.heap.size 0 (fun _ => none) :=
  ⟨.map [], World.ownsMap_made w _ _ _, fun s => ⟨rfl, fun z => rfl⟩⟩
def updV (f : Lit → Option Value) (x : Lit) (v : Value) : Lit → Option Value := fun y => if y.sameKey x = true then some v else f y
def delV (f : Lit → Option Value) (x : Lit) : Lit → Option Value := fun y => if y.sameKey x = true then none else f y
end
section
variable {P : Program} (w : World) {ops : Array Oper} {rest : List Oper} {o : Oper} {a : Act} {Q : Exit → Act → World → Prop}
/-- 'm[k] = v' -/
theorem wpList_vm_put (hg : o.guard = none) (m x v : Operand) (t : TypeId) (hop : o.op = Op.mapUpdate t m x v) (k e : TypeId) (K : Keyed Try.prog k) (ht : Try.prog.underlying t = some (.map k e)) (b n : Nat) (f : Lit → Option Value)
    (hm : a.eval m = .map (some b)) (hown : VM k w b n f) (hn : n < Go.maxLen) (key val : Value) (kl : Lit) (hx : a.eval x = key) (hv : a.eval v = val) (hkey : keyOf Try.prog k key = some kl)
    (hK : ∀ w', VM k w' b (n + 1) (updV f kl val) → w.grownBy w' (some b) → wpList Try.prog ops Q rest (a.put o.dst undef) w') :
    wpList Try.prog ops Q (o :: rest) a w := by
  obtain ⟨D, hD, q⟩ := hown
  refine wpList_mapUpdate_in w hg m x v t hop k e K ht vEl b n D hm hD hn key val kl hx hv hkey (.held val) [] rfl (fun w' r1 r2 => hK w' ⟨_, r1, fun y => ?_⟩ r2.grown)
  unfold updV
  by_cases ey : y = kl
  · subst ey
    rw [if_pos (WideAt.sameKey_self (K.key hkey))]
    exact ⟨Maps.has_put_same hD.isMap (K.key hkey) _, fun z => Maps.atKey_put_same hD.isMap (K.key hkey) _ z⟩
  · rw [if_neg (by rw [Maps.sameKey_ne ey]; simp)]
    exact ⟨(Maps.has_put_other ey _).trans (q y).1, fun z => (Maps.atKey_put_other ey _ z).trans ((q y).2 z)⟩
/-- 'm[k]' -/
theorem VM.look {w : World} {k : TypeId} {b n : Nat} {f : Lit → Option Value} (h : VM k w b n f) (K : Keyed Try.prog k) {t e : TypeId} (ht : Try.prog.underlying t = some (.map k e)) {z : Value} (hz : (zeroValue e).run Try.prog w = .ok z w) {key : Value} {kl : Lit} (hkey : keyOf Try.prog k key = some kl) :
    (Instr.lookup t (.map (some b)) key false).run Try.prog w = .ok ((f kl).getD z) w := by
  obtain ⟨D, hD, q⟩ := h
  obtain ⟨v, ps, hr, hv⟩ := hD.lookup K ht hz (zd := .held z) (zp := []) rfl hkey
  rw [(q kl).2] at hv
  simp only [vEl, Option.some.injEq, Prod.mk.injEq] at hv
  cases hf : f kl with
  | none => rw [hf] at hv; obtain ⟨hv, _⟩ := hv; cases hv; rw [hr]; rfl
  | some u => rw [hf] at hv; obtain ⟨hv, _⟩ := hv; cases hv; rw [hr]; rfl
theorem VM.look_ok {w : World} {k : TypeId} {b n : Nat} {f : Lit → Option Value} (h : VM k w b n f) (K : Keyed Try.prog k) {t e : TypeId} (ht : Try.prog.underlying t = some (.map k e)) {z : Value} (hz : (zeroValue e).run Try.prog w = .ok z w) {key : Value} {kl : Lit} (hkey : keyOf Try.prog k key = some kl) :
    (Instr.lookup t (.map (some b)) key true).run Try.prog w = .ok (.tuple #[(f kl).getD z, .bool (f kl).isSome]) w := by
  obtain ⟨D, hD, q⟩ := h
  obtain ⟨v, ps, hr, hv⟩ := hD.look_ok K ht hz (zd := .held z) (zp := []) rfl hkey
  rw [(q kl).2] at hv
  rw [(q kl).1] at hr
  simp only [vEl, Option.some.injEq, Prod.mk.injEq] at hv
  cases hf : f kl with
  | none => rw [hf] at hv hr; obtain ⟨hv, _⟩ := hv; cases hv; rw [hr]; rfl
  | some u => rw [hf] at hv hr; obtain ⟨hv, _⟩ := hv; cases hv; rw [hr]; rfl
theorem wpList_vm_look (hg : o.guard = none) (m x : Operand) (t : TypeId) (hop : o.op = Op.lookup t m x false) (k e : TypeId) (K : Keyed Try.prog k) (ht : Try.prog.underlying t = some (.map k e)) {z : Value} (hz : (zeroValue e).run Try.prog w = .ok z w) (b n : Nat) (f : Lit → Option Value)
    (hm : a.eval m = .map (some b)) (hown : VM k w b n f) (key : Value) (kl : Lit) (hx : a.eval x = key) (hkey : keyOf Try.prog k key = some kl)
    (hK : wpList Try.prog ops Q rest (a.put o.dst ((f kl).getD z)) w) :
    wpList Try.prog ops Q (o :: rest) a w := by
  refine wpList_plain hg fun K' hK' => ?_
  have hrun := hown.look K ht hz hkey
  unfold Oper.wp
  simp [execOp, hop, hm, hx, hrun, Result.andThen]
  exact hK' _ _ hK
theorem wpList_vm_look_ok (hg : o.guard = none) (m x : Operand) (t : TypeId) (hop : o.op = Op.lookup t m x true) (k e : TypeId) (K : Keyed Try.prog k) (ht : Try.prog.underlying t = some (.map k e)) {z : Value} (hz : (zeroValue e).run Try.prog w = .ok z w) (b n : Nat) (f : Lit → Option Value)
    (hm : a.eval m = .map (some b)) (hown : VM k w b n f) (key : Value) (kl : Lit) (hx : a.eval x = key) (hkey : keyOf Try.prog k key = some kl)
    (hK : wpList Try.prog ops Q rest (a.put o.dst (.tuple #[(f kl).getD z, .bool (f kl).isSome])) w) :
    wpList Try.prog ops Q (o :: rest) a w := by
  refine wpList_plain hg fun K' hK' => ?_
  have hrun := hown.look_ok K ht hz hkey
  unfold Oper.wp
  simp [execOp, hop, hm, hx, hrun, Result.andThen]
  exact hK' _ _ hK
end
theorem lawI : Keyed Try.prog 3 := int_keyed Try.underlying3
theorem wf_isI {n : Int} (h : isI n) : (Lit.int .i64 n).wf = true := by
  obtain ⟨h1, h2⟩ := h
  simp only [Lit.wf, IntKind.min, IntKind.max, IntKind.signed, IntKind.bits, Bool.and_eq_true, decide_eq_true_eq, if_true]
  omega
theorem keyI {n : Int} (h : isI n) : keyOf Try.prog 3 (.int .i64 n) = some (.int .i64 n) := Maps.keyOf_int_mk Try.underlying3 (wf_isI h)
theorem upd_same (f : Lit → Option Value) {x : Lit} (h : WideAt.IsKeyLit x) (v : Value) : updV f x v x = some v := by unfold updV; rw [if_pos (WideAt.sameKey_self h)]
theorem upd_other (f : Lit → Option Value) {x y : Lit} (h : y ≠ x) (v : Value) : updV f x v y = f y := by unfold updV; rw [if_neg (by rw [Maps.sameKey_ne h]; simp)]
theorem VM.store {w : World} {k : TypeId} {b n : Nat} {f : Lit → Option Value} (h : VM k w b n f) (K : Keyed Try.prog k) {t e : TypeId} (ht : Try.prog.underlying t = some (.map k e)) (hn : n < Go.maxLen) {key val : Value} {kl : Lit} (hkey : keyOf Try.prog k key = some kl) :
    ∃ w', (Instr.mapUpdate t (.map (some b)) key val).run Try.prog w = .ok () w' ∧ VM k w' b (n + 1) (updV f kl val) ∧ w.grownBy w' (some b) := by
  obtain ⟨D, hD, q⟩ := h
  obtain ⟨w', hrun, r1, r2⟩ := hD.store K ht hn hkey (val := val) (d := .held val) (ps := []) rfl
  refine ⟨w', hrun, ⟨_, r1, fun y => ?_⟩, r2.grown⟩
  unfold updV
  by_cases ey : y = kl
  · subst ey
    rw [if_pos (WideAt.sameKey_self (K.key hkey))]
    exact ⟨Maps.has_put_same hD.isMap (K.key hkey) _, fun z => Maps.atKey_put_same hD.isMap (K.key hkey) _ z⟩
  · rw [if_neg (by rw [Maps.sameKey_ne ey]; simp)]
    exact ⟨(Maps.has_put_other ey _).trans (q y).1, fun z => (Maps.atKey_put_other ey _ z).trans ((q y).2 z)⟩
theorem run_append_zero {P : Program} (w : World) (t ty e : TypeId) (i : TypeInfo) (ht : P.underlying t = some (.slice e)) (hi : P.info? e = some i) (base : Option Addr) (sLen sCap : Nat) (hle : sLen ≤ sCap) (ga : Option Addr) (cap : Nat) :
    (Builtin.append_ #[t, t] ty #[.slice base sLen sCap, .slice ga 0 cap]).run P w = .ok (.slice base sLen sCap) w := by
  cases ga <;> cases base <;> simp [Builtin.append_, run_underlying ht, sizeOf, typeInfo, hi, hle, storeCells, Builtin.lenOf, Builtin.firstCells, loadCells, go_sem]
/-- a row of the call's own; or an empty slice without room -/
def RowS (w : World) (base : Nat) (e : TypeId) (size : Nat) (v : Value) (n : Nat) (xs : List Value) : Prop :=
  (n = 0 ∧ xs = [] ∧ ∃ ga, v = .slice ga 0 0) ∨ (0 < n ∧ w.ownsRow base e size v n xs)
theorem RowS.le {w : World} {base size n : Nat} {e : TypeId} {v : Value} {xs : List Value} (h : RowS w base e size v n xs) : ∃ ga cap, v = .slice ga n cap ∧ n ≤ cap := by
  rcases h with ⟨rfl, rfl, ga, rfl⟩ | ⟨_, h⟩
  · exact ⟨ga, 0, rfl, Nat.le_refl _⟩
  · rcases h.2 with ⟨rfl, h0⟩ | ⟨g, cap, cur, rfl, _, _, hc, _⟩
    · exact ⟨none, 0, by rw [h0], by omega⟩
    · exact ⟨_, _, rfl, hc⟩
theorem RowS.lt {w : World} {base size n : Nat} {e : TypeId} {v : Value} {xs : List Value} (h : RowS w base e size v n xs) (hn : 0 < n) : ∀ k, v.ownBlock = some k → base ≤ k ∧ k < w.heap.size := by
  rcases h with ⟨rfl, _⟩ | ⟨_, h⟩
  · exact absurd hn (by omega)
  · exact fun k hk => h.lt k hk
theorem RowS.below {w w' : World} {base size n : Nat} {e : TypeId} {v : Value} {xs : List Value} (h : RowS w base e size v n xs) (hb : Below w.heap.size w w') : RowS w' base e size v n xs := by
  rcases h with h | ⟨h0, h⟩
  · exact Or.inl h
  · exact Or.inr ⟨h0, own_later h hb⟩
theorem run_append_S {P : Program} (w : World) (t ty e : TypeId) (base : Nat) (i : TypeInfo) (z : Value) (size bytes : Nat) (ht : P.underlying t = some (.slice e)) (hi : P.info? e = some i) (hz : i.zero = some z)
    (hsize : i.size = size) (hby : i.bytes = bytes) (hzs : z.cells.size = size) (hsz : 0 < size)
    (v : Value) (n : Nat) (xs : List Value) (hown : RowS w base e size v n xs) (ga : Option Addr) (m c : Nat) (news : List Value) (hl : news.length = m * size)
    (hnews : 0 < m → ∃ ad, ga = some ad ∧ ∀ j u, news[j]? = some u → w.cell? (ad.add j) = some u) (h1 : ∀ u ∈ news, u.oneCell' = true)
    (h63 : n + m ≤ Go.maxLen) (hbytes : (n + m) * bytes ≤ 140737488355328) (hbase : base ≤ w.heap.size) :
    ∃ ga' cap' w', (Builtin.append_ #[t, t] ty #[v, .slice ga m c]).run P w = .ok (.slice ga' (n + m) cap') w' ∧ RowS w' base e size (.slice ga' (n + m) cap') (n + m) (xs ++ news) ∧ ∃ row, w.grownBy w' row ∧ ∀ k, row = some k → 0 < n ∧ v.ownBlock = some k := by
  rcases Nat.eq_zero_or_pos m with rfl | hm
  · have hn : news = [] := List.eq_nil_of_length_eq_zero (by simpa using hl)
    subst hn
    obtain ⟨gu, cu, rfl, hle⟩ := hown.le
    exact ⟨gu, cu, w, run_append_zero w t ty e i ht hi gu n cu hle ga c, by simpa using hown, none, ⟨rfl, rfl, rfl, Nat.le_refl _, fun _ _ _ => rfl⟩, fun k hk => by cases hk⟩
  · obtain ⟨ad, rfl, hc⟩ := hnews hm
    rcases hown with ⟨rfl, rfl, g0, rfl⟩ | ⟨hn0, hown⟩
    · obtain ⟨g, cap, w', hr, h2, h3, _, _⟩ := run_append_lies (P := P) w t ty base e i z size bytes ht hi hz hsize hby hzs hsz (.slice none 0 0) 0 [] (World.ownsRow_nil _ _ _ _) ad m c news hl hc h1 hm h63 hbytes hbase _ rfl
      cases g0 with
      | none => exact ⟨_, cap, w', hr, .inr ⟨by omega, h2⟩, none, h3, fun k hk => by cases hk⟩
      | some b =>
        have hsm : m ≤ 9223372036854775807 := by simp only [Go.maxLen] at h63; omega
        have hb2 : m * i.bytes ≤ 140737488355328 := by rw [hby]; simpa using hbytes
        have hn := run_append_nil (P := P) w t ty e i z ht hi hz ad m c news (by rw [hsize]; exact hl) hc hm (by omega) (by omega)
        have hg := run_append_grow (P := P) w t ty e i z ht hi hz b 0 0 [] (by simp) (fun j v h => by simp at h) ad m c news (by rw [hsize]; exact hl) hc (by omega) (by omega) (growslice_fits (by omega) (by simpa using hb2))
        simp only [Nat.zero_add, List.append_nil, List.nil_append, Array.empty_append] at hg
        rw [← hn, hr] at hg
        exact ⟨_, cap, w', hg, .inr ⟨by omega, h2⟩, none, h3, fun k hk => by cases hk⟩
    · obtain ⟨g, cap, w', hr, h2, h3, _, _⟩ := run_append_lies (P := P) w t ty base e i z size bytes ht hi hz hsize hby hzs hsz v n xs hown ad m c news hl hc h1 hm h63 hbytes hbase _ rfl
      exact ⟨_, cap, w', hr, .inr ⟨by omega, h2⟩, _, h3, fun k hk => ⟨hn0, hk⟩⟩
theorem wpList_append_T {P : Program} {w : World} {ops : Array Oper} {rest : List Oper} {o : Oper} {a : Act} {Q : Exit → Act → World → Prop} (hgd : o.guard = none) (s x : Operand) (t : TypeId)
    (ho : o.op = .call { callee := .builtin .append, args := #[s, x], argTypes := #[t, t] })
    (base : Nat) (e : TypeId) (i : TypeInfo) (z : Value) (size bytes : Nat) (ht : P.underlying t = some (.slice e)) (hi : P.info? e = some i) (hz : i.zero = some z)
    (hsize : i.size = size) (hby : i.bytes = bytes) (hzs : z.cells.size = size) (hsz : 0 < size)
    (v : Value) (n : Nat) (xs : List Value) (hs : a.eval s = v) (hown : RowS w base e size v n xs)
    (ga : Option Addr) (m c : Nat) (news : List Value) (hx : a.eval x = .slice ga m c) (hl : news.length = m * size) (hnews : 0 < m → ∃ ad, ga = some ad ∧ ∀ j u, news[j]? = some u → w.cell? (ad.add j) = some u) (h1 : ∀ u ∈ news, u.oneCell' = true)
    (k : Nat) (hk : n + m = k) (ys : List Value) (hy : xs ++ news = ys)
    (h63 : k ≤ Go.maxLen) (hbytes : k * bytes ≤ 140737488355328) (hbase : base ≤ w.heap.size)
    (h : ∀ ga' cap' w', RowS w' base e size (.slice ga' k cap') k ys → (∃ row, w.grownBy w' row ∧ ∀ k, row = some k → 0 < n ∧ v.ownBlock = some k) → wpList P ops Q rest (a.put o.dst (.slice ga' k cap')) w') : wpList P ops Q (o :: rest) a w := by
  subst hk hy
  refine wpList_plain hgd fun K hK => ?_
  obtain ⟨ga', cap', w', hr, h2, h3⟩ := run_append_S (P := P) w t o.type e base i z size bytes ht hi hz hsize hby hzs hsz v n xs hown ga m c news hl hnews h1 h63 hbytes hbase
  unfold Oper.wp
  simp [execOp, ho, resolve, invoke, builtin, hs, hx, hr, Result.andThen]
  exact hK _ _ (h ga' cap' w' h2 h3)
/-- what an append leaves as it was: all that stood at or below B, but the row's own block -/
theorem app_below {w w' : World} {B n : Nat} {v : Value} (h : ∃ row, w.grownBy w' row ∧ ∀ k, row = some k → 0 < n ∧ v.ownBlock = some k) (hB : B ≤ w.heap.size) (hv : 0 < n → ∀ k, v.ownBlock = some k → B ≤ k) : Below B w w' := by
  obtain ⟨row, g, hr⟩ := h
  exact ⟨g.os, g.tape, g.output, g.size, fun k hk => g.block k (by omega) (fun q => by obtain ⟨a, b⟩ := hr k q.symm; have := hv a k b; omega)⟩
theorem app_block {w w' : World} {k n : Nat} {v : Value} (h : ∃ row, w.grownBy w' row ∧ ∀ k, row = some k → 0 < n ∧ v.ownBlock = some k) (hk : k < w.heap.size) (hv : 0 < n → ¬ v.ownBlock = some k) : w'.heap[k]? = w.heap[k]? := by
  obtain ⟨row, g, hr⟩ := h
  exact g.block k hk (fun q => by obtain ⟨a, b⟩ := hr k q.symm; exact hv a b)


theorem zero3 (w : World) : (zeroValue 3).run Try.prog w = .ok (.int .i64 0) w := by kernel_rfl

/-! ### What stays -/
/-- all stays below base; blocks of cells stay, but for those of X, and for rows of some types -/
structure Ky (base : Nat) (X : Nat → Prop) (T : List Nat) (w w' : World) : Prop where
  bel : Below base w w'
  keep : ∀ k c t f, w.heap[k]? = some (.cells c t f) → t ∉ T → ¬ X k → w'.heap[k]? = some (.cells c t f)
section
variable {base lo : Nat} {X : Nat → Prop} {T : List Nat} {w w' a b c : World}
theorem Ky.refl (base : Nat) (X : Nat → Prop) (T : List Nat) (w : World) : Ky base X T w w := ⟨Below.refl _ _, fun _ _ _ _ h _ _ => h⟩
theorem Ky.trans (h : Ky base X T a b) (k : Ky base X T b c) : Ky base X T a c := ⟨h.bel.trans k.bel, fun i o t f h1 h2 h3 => k.keep i o t f (h.keep i o t f h1 h2 h3) h2 h3⟩
theorem Ky.later (hb : base ≤ a.heap.size) (h : Below a.heap.size a b) : Ky base X T a b :=
  ⟨h.mono hb, fun k o t f h1 _ _ => (h.block k (Array.getElem?_eq_some_iff.1 h1).1).trans h1⟩
theorem Kx.ky (h : Kx base X w w') (hT : 67 ∈ T) : Ky base X T w w' := ⟨h.bel, fun k o t f h1 h2 h3 => h.keep k _ h1 h3 fun c f' e => by cases e; exact h2 hT⟩
theorem Ky.set {g i : Nat} {v : Value} {cs : Array Value} {t : Nat} {f : Nat × Nat} (h : w.heap[g]? = some (.cells cs t f)) (ht : t ∈ T) (hg : base ≤ g) : Ky base X T w (w.setCell ⟨g, i, none⟩ v) :=
  ⟨Below.setCell (Below.refl _ _) hg _, fun k o t' f' h1 h2 _ => (Below.heap_setCell _ _ _ _ (fun e => by
    have e' : k = g := e
    subst e'
    rw [h] at h1
    cases h1
    exact h2 ht)).trans h1⟩
theorem Ky.grown {g : Nat} {o : Obj} (hg : w.grownBy w' (some g)) (h : w.heap[g]? = some o) (ho : ∀ c t f, o = .cells c t f → t ∈ T) (hb : base ≤ g) (hw : base ≤ w.heap.size) : Ky base X T w w' :=
  ⟨⟨hg.os, hg.tape, hg.output, hg.size, fun k hk => hg.block k (by omega) (fun e => by cases e; omega)⟩, fun k o' t f h1 h2 _ => (hg.block k (Array.getElem?_eq_some_iff.1 h1).1 (fun e => by
    cases e
    rw [h] at h1
    exact h2 (ho _ _ _ (Option.some.inj h1)))).trans h1⟩
theorem Ky.own {e size n : Nat} {v : Value} {xs : List Value} (hg : w.grownBy w' v.ownBlock) (r : w.ownsRow base e size v n xs) (he : e ∈ T) (hw : base ≤ w.heap.size) : Ky base X T w w' := by
  rcases r.2 with ⟨rfl, _⟩ | ⟨g, cap, cur, rfl, hb, hh, _⟩
  · exact ⟨⟨hg.os, hg.tape, hg.output, hg.size, fun k hk => hg.block k (by omega) (by simp [Value.ownBlock])⟩, fun k o' t f h1 h2 _ => (hg.block k (Array.getElem?_eq_some_iff.1 h1).1 (by simp [Value.ownBlock])).trans h1⟩
  · exact Ky.grown hg hh (fun c t f q => by cases q; exact he) hb hw
/-- a row of numbers that nobody turns -/
def Fs (lo : Nat) (X : Nat → Prop) (W : World) (kd : IntKind) (t : Nat) (o : Option Addr) (cap : Nat) (ps : List Int) : Prop :=
  ps.length ≤ cap ∧ ps.length ≤ 9223372036854775807 ∧ (0 < ps.length → ∃ q off c, o = some ⟨q, off, none⟩ ∧ lo ≤ q ∧ ¬ X q ∧ W.heap[q]? = some (.cells c t (0, 0)) ∧ ∀ i (h : i < ps.length), c[off + i]? = some (.int kd ps[i]))
theorem Fs.ps {kd : IntKind} {t cap : Nat} {o : Option Addr} {ps : List Int} (h : Fs lo X w kd t o cap ps) : PS kd w o cap ps := by
  refine ⟨h.1, h.2.1, fun hn => ?_⟩
  obtain ⟨q, off, c, rfl, _, _, h1, h2⟩ := h.2.2 hn
  exact ⟨q, off, rfl, fun i hi => by rw [Joins.cell_of_block h1]; exact h2 i hi⟩
theorem Fs.ky {kd : IntKind} {t cap : Nat} {o : Option Addr} {ps : List Int} (h : Fs lo X w kd t o cap ps) (K : Ky base X T w w') (ht : t ∉ T) : Fs lo X w' kd t o cap ps := by
  refine ⟨h.1, h.2.1, fun hn => ?_⟩
  obtain ⟨q, off, c, rfl, h0, hx, h1, h2⟩ := h.2.2 hn
  exact ⟨q, off, c, rfl, h0, hx, K.keep q c t _ h1 ht hx, h2⟩
theorem Fs.kx {kd : IntKind} {t cap : Nat} {o : Option Addr} {ps : List Int} (h : Fs lo X w kd t o cap ps) (K : Kx base X w w') (ht : t ≠ 67) : Fs lo X w' kd t o cap ps := by
  refine ⟨h.1, h.2.1, fun hn => ?_⟩
  obtain ⟨q, off, c, rfl, h0, hx, h1, h2⟩ := h.2.2 hn
  exact ⟨q, off, c, rfl, h0, hx, K.keep q _ h1 hx (fun c f e => by cases e; exact ht rfl), h2⟩
theorem Fs.later {kd : IntKind} {t cap : Nat} {o : Option Addr} {ps : List Int} (h : Fs lo X w kd t o cap ps) (B : Below w.heap.size w w') : Fs lo X w' kd t o cap ps := by
  refine ⟨h.1, h.2.1, fun hn => ?_⟩
  obtain ⟨q, off, c, rfl, h0, hx, h1, h2⟩ := h.2.2 hn
  exact ⟨q, off, c, rfl, h0, hx, (B.block q (Array.getElem?_eq_some_iff.1 h1).1).trans h1, h2⟩
/-- what is left of a row behind its first n numbers -/
theorem Fs.drop {kd : IntKind} {t cap q off : Nat} {ps : List Int} (h : Fs lo X w kd t (some ⟨q, off, none⟩) cap ps) (n : Nat) (hn : n ≤ ps.length) : Fs lo X w kd t (some ⟨q, off + n, none⟩) (cap - n) (ps.drop n) := by
  refine ⟨by have := h.1; simp; omega, by have := h.2.1; simp; omega, fun hp => ?_⟩
  obtain ⟨q', off', c, e, h0, hx, h1, h2⟩ := h.2.2 (by simp at hp; omega)
  have e1 : q' = q ∧ off' = off := by simp at e; exact ⟨e.1.symm, e.2.symm⟩
  obtain ⟨rfl, rfl⟩ := e1
  refine ⟨q', off' + n, c, rfl, h0, hx, h1, fun i hi => ?_⟩
  rw [List.length_drop] at hi
  have := h2 (n + i) (by omega)
  rw [show off' + n + i = off' + (n + i) by omega, this]
  simp
end
end Go.Proofs.Ytncimddgkgclpaa
