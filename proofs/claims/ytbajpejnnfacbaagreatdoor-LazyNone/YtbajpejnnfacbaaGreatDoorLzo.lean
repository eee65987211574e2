/- Maps from keys to whatever values, as they lie in memory. -/
import Derived.Test.YtbajpejnnfacbaaGreatDoorLzb
import Derived.Maps.OwnSet
import Derived.DeepKeys4
import Derived.KernelRfl
import Derived.Laws.Tables
import Derived.Deep.MidRow
namespace Go.Proofs.YtbajpejnnfacbaaGreatDoor.Lz
open Go.RowKit
open Go.Maps (Keyed string_keyed int_keyed)
set_option linter.unusedVariables false
set_option linter.unusedSimpArgs false

def vEl : Value → Option (DataW Value × List MemPlace) := fun v => some (.held v, [])
/-- a map whose values are the ones of f -/
def VM (k : TypeId) (w : World) (m n : Nat) (f : Lit → Option Value) : Prop :=
  ∃ D : DataW Value, w.ownsMap Tryz.prog k vEl m n D ∧ ∀ kl, Maps.has D kl = (f kl).isSome ∧ ∀ z, D.atKey kl z = (match f kl with | some v => .held v | none => z)
section
variable {k : TypeId} {w w' : World} {m n : Nat} {f : Lit → Option Value}
theorem VM.lt (h : VM k w m n f) : m < w.heap.size := by obtain ⟨D, h, _⟩ := h; exact h.lt
theorem VM.of_block (h : VM k w m n f) (e : w'.heap[m]? = w.heap[m]?) : VM k w' m n f := by
  obtain ⟨D, ⟨es, clock, hb, r⟩, q⟩ := h
  exact ⟨D, ⟨es, clock, e.trans hb, r⟩, q⟩
theorem VM.mono (h : VM k w m n f) {n' : Nat} (e : n ≤ n') : VM k w m n' f := by
  obtain ⟨D, h, q⟩ := h
  exact ⟨D, h.mono e, q⟩
theorem VM.made (k : TypeId) (w : World) : VM k (w.alloc (.map #[] 0)) w.heap.size 0 (fun _ => none) :=
  ⟨.map [], World.ownsMap_made w _ _ _, fun s => ⟨rfl, fun z => rfl⟩⟩
def updV (f : Lit → Option Value) (x : Lit) (v : Value) : Lit → Option Value := fun y => if y.sameKey x = true then some v else f y
def delV (f : Lit → Option Value) (x : Lit) : Lit → Option Value := fun y => if y.sameKey x = true then none else f y
end
section
variable {P : Program} (w : World) {ops : Array Oper} {rest : List Oper} {o : Oper} {a : Act} {Q : Exit → Act → World → Prop}
/-- 'm[k] = v' -/
theorem wpList_vm_put (hg : o.guard = none) (m x v : Operand) (t : TypeId) (hop : o.op = Op.mapUpdate t m x v) (k e : TypeId) (K : Keyed Tryz.prog k) (ht : Tryz.prog.underlying t = some (.map k e)) (b n : Nat) (f : Lit → Option Value)
    (hm : a.eval m = .map (some b)) (hown : VM k w b n f) (hn : n < maxLen) (key val : Value) (kl : Lit) (hx : a.eval x = key) (hv : a.eval v = val) (hkey : keyOf Tryz.prog k key = some kl)
    (hK : ∀ w', VM k w' b (n + 1) (updV f kl val) → w.grownBy w' (some b) → wpList Tryz.prog ops Q rest (a.put o.dst undef) w') :
    wpList Tryz.prog ops Q (o :: rest) a w := by
  obtain ⟨D, hD, q⟩ := hown
  refine wpList_mapUpdate_in w hg m x v t hop k e K ht vEl b n D hm hD hn key val kl hx hv hkey (.held val) [] rfl (fun w' r1 r2 => hK w' ⟨_, r1, fun y => ?_⟩ r2.grown)
  unfold updV
  by_cases ey : y = kl
  · subst ey
    rw [if_pos (WideAt.sameKey_self (K.key hkey))]
    exact ⟨Maps.has_put_same hD.isMap (K.key hkey) _, fun z => Maps.atKey_put_same hD.isMap (K.key hkey) _ z⟩
  · rw [if_neg (by rw [Maps.sameKey_ne ey]; simp)]
    exact ⟨(Maps.has_put_other ey _).trans (q y).1, fun z => (Maps.atKey_put_other ey _ z).trans ((q y).2 z)⟩
/-- 'm[k]' -/
theorem VM.look {w : World} {k : TypeId} {b n : Nat} {f : Lit → Option Value} (h : VM k w b n f) (K : Keyed Tryz.prog k) {t e : TypeId} (ht : Tryz.prog.underlying t = some (.map k e)) {z : Value} (hz : (zeroValue e).run Tryz.prog w = .ok z w) {key : Value} {kl : Lit} (hkey : keyOf Tryz.prog k key = some kl) :
    (Instr.lookup t (.map (some b)) key false).run Tryz.prog w = .ok ((f kl).getD z) w := by
  obtain ⟨D, hD, q⟩ := h
  obtain ⟨v, ps, hr, hv⟩ := hD.lookup K ht hz (zd := .held z) (zp := []) rfl hkey
  rw [(q kl).2] at hv
  simp only [vEl, Option.some.injEq, Prod.mk.injEq] at hv
  cases hf : f kl with
  | none => rw [hf] at hv; obtain ⟨hv, _⟩ := hv; cases hv; rw [hr]; rfl
  | some u => rw [hf] at hv; obtain ⟨hv, _⟩ := hv; cases hv; rw [hr]; rfl
theorem VM.look_ok {w : World} {k : TypeId} {b n : Nat} {f : Lit → Option Value} (h : VM k w b n f) (K : Keyed Tryz.prog k) {t e : TypeId} (ht : Tryz.prog.underlying t = some (.map k e)) {z : Value} (hz : (zeroValue e).run Tryz.prog w = .ok z w) {key : Value} {kl : Lit} (hkey : keyOf Tryz.prog k key = some kl) :
    (Instr.lookup t (.map (some b)) key true).run Tryz.prog w = .ok (.tuple #[(f kl).getD z, .bool (f kl).isSome]) w := by
  obtain ⟨D, hD, q⟩ := h
  obtain ⟨v, ps, hr, hv⟩ := hD.look_ok K ht hz (zd := .held z) (zp := []) rfl hkey
  rw [(q kl).2] at hv
  rw [(q kl).1] at hr
  simp only [vEl, Option.some.injEq, Prod.mk.injEq] at hv
  cases hf : f kl with
  | none => rw [hf] at hv hr; obtain ⟨hv, _⟩ := hv; cases hv; rw [hr]; rfl
  | some u => rw [hf] at hv hr; obtain ⟨hv, _⟩ := hv; cases hv; rw [hr]; rfl
theorem wpList_vm_look (hg : o.guard = none) (m x : Operand) (t : TypeId) (hop : o.op = Op.lookup t m x false) (k e : TypeId) (K : Keyed Tryz.prog k) (ht : Tryz.prog.underlying t = some (.map k e)) {z : Value} (hz : (zeroValue e).run Tryz.prog w = .ok z w) (b n : Nat) (f : Lit → Option Value)
    (hm : a.eval m = .map (some b)) (hown : VM k w b n f) (key : Value) (kl : Lit) (hx : a.eval x = key) (hkey : keyOf Tryz.prog k key = some kl)
    (hK : wpList Tryz.prog ops Q rest (a.put o.dst ((f kl).getD z)) w) :
    wpList Tryz.prog ops Q (o :: rest) a w := by
  refine wpList_plain hg fun K' hK' => ?_
  have hrun := hown.look K ht hz hkey
  unfold Oper.wp
  simp [execOp, hop, hm, hx, hrun, Result.andThen]
  exact hK' _ _ hK
theorem wpList_vm_look_ok (hg : o.guard = none) (m x : Operand) (t : TypeId) (hop : o.op = Op.lookup t m x true) (k e : TypeId) (K : Keyed Tryz.prog k) (ht : Tryz.prog.underlying t = some (.map k e)) {z : Value} (hz : (zeroValue e).run Tryz.prog w = .ok z w) (b n : Nat) (f : Lit → Option Value)
    (hm : a.eval m = .map (some b)) (hown : VM k w b n f) (key : Value) (kl : Lit) (hx : a.eval x = key) (hkey : keyOf Tryz.prog k key = some kl)
    (hK : wpList Tryz.prog ops Q rest (a.put o.dst (.tuple #[(f kl).getD z, .bool (f kl).isSome])) w) :
    wpList Tryz.prog ops Q (o :: rest) a w := by
  refine wpList_plain hg fun K' hK' => ?_
  have hrun := hown.look_ok K ht hz hkey
  unfold Oper.wp
  simp [execOp, hop, hm, hx, hrun, Result.andThen]
  exact hK' _ _ hK
/-- 'delete(m, k)' -/
theorem wpList_vm_del (hg : o.guard = none) (m x : Operand) (t k : TypeId) (hop : o.op = Op.call { callee := Callee.builtin Builtin.delete, args := #[m, x], argTypes := #[t, k] }) (e : TypeId) (K : Keyed Tryz.prog k) (ht : Tryz.prog.underlying t = some (.map k e)) (b n : Nat) (f : Lit → Option Value)
    (hm : a.eval m = .map (some b)) (hown : VM k w b n f) (key : Value) (kl : Lit) (hx : a.eval x = key) (hkey : keyOf Tryz.prog k key = some kl)
    (hK : ∀ w', VM k w' b n (delV f kl) → w.grownBy w' (some b) → wpList Tryz.prog ops Q rest (a.put o.dst (.tuple #[])) w') :
    wpList Tryz.prog ops Q (o :: rest) a w := by
  obtain ⟨D, hD, q⟩ := hown
  refine wpList_delete_own w hg m x t k hop e K ht vEl b n D hm hD key kl hx hkey (fun w' r1 r2 => hK w' ⟨_, r1, fun y => ?_⟩ r2.grown)
  unfold delV
  by_cases ey : y = kl
  · subst ey
    rw [if_pos (WideAt.sameKey_self (K.key hkey))]
    exact ⟨Maps.has_del_same, fun z => Maps.atKey_del_same z⟩
  · rw [if_neg (by rw [Maps.sameKey_ne ey]; simp)]
    exact ⟨(Maps.has_del_other ey).trans (q y).1, fun z => (Maps.atKey_del_other ey z).trans ((q y).2 z)⟩
end
/- the keys -/
theorem lawS : Keyed Tryz.prog 9 := string_keyed Tryz.underlying9
theorem lawI : Keyed Tryz.prog 3 := int_keyed Tryz.underlying3
theorem lawJ : Keyed Tryz.prog 2 := int_keyed Tryz.underlying2
theorem wf_isI {n : Int} (h : isI n) : (Lit.int .i64 n).wf = true := by
  obtain ⟨h1, h2⟩ := h
  simp only [Lit.wf, IntKind.min, IntKind.max, IntKind.signed, IntKind.bits, Bool.and_eq_true, decide_eq_true_eq, if_true]
  omega
theorem keyI {n : Int} (h : isI n) : keyOf Tryz.prog 3 (.int .i64 n) = some (.int .i64 n) := Maps.keyOf_int_mk Tryz.underlying3 (wf_isI h)
theorem keyJ {n : Int} (h : isI n) : keyOf Tryz.prog 2 (.int .i64 n) = some (.int .i64 n) := Maps.keyOf_int_mk Tryz.underlying2 (wf_isI h)
abbrev valV (i n : Int) : Value := .agg #[.int .i64 i, .int .i64 n]
def litV (i n : Int) : Lit := .string (keyBytes [.int .i64 i, .int .i64 n])
theorem rowV' : (182 : TypeId) < Tryz.prog.types.size := of_decide_eq_true (by kernel_rfl)
theorem ktV : Tryz.prog.keyTypeAt 2 182 = true := by kernel_rfl
theorem klawV : WideMaps.KeyLaw Tryz.prog 182 := deep_law_laid laidOut (m := 2) (by omega) rowV' ktV (by rw [Tryz.underlying182])
theorem lawV : Keyed Tryz.prog 182 := Keyed.of_law klawV
theorem keyV {i n : Int} (hi : isI i) (hn : isI n) : keyOf Tryz.prog 182 (valV i n) = some (litV i n) := by
  have h1 := wf_isI hi
  have h3 := wf_isI hn
  have hm : ∃ m, Tryz.prog.types.size = m + 1 := ⟨226, by kernel_rfl⟩
  obtain ⟨m, hm⟩ := hm
  have kt : Tryz.prog.keyType 182 = true := by kernel_rfl
  have c123 : Tryz.prog.cellsOf 182 = 2 := by kernel_rfl
  have c3 : Tryz.prog.cellsOf 3 = 1 := by kernel_rfl
  have c2 : Tryz.prog.cellsOf 2 = 1 := by kernel_rfl
  have fm : (valV i n).formed Tryz.prog 182 = true := by simp [Value.formed, Tryz.underlying182, c123]
  have kl : Tryz.prog.keyLits (Tryz.prog.types.size + 1) 182 (valV i n).cells.toList = some [.int .i64 i, .int .i64 n] := by
    rw [hm]
    simp [Program.keyLits, Tryz.underlying182, Tryz.underlying3, Tryz.underlying2, Value.cells, c123, c3, c2, h1, h3]
  unfold keyOf
  rw [Tryz.underlying182]
  simp only
  rw [kt, fm, kl]
  rfl
theorem litV_inj {i n i' n' : Int} (hi : isI i) (hn : isI n) (hi' : isI i') (hn' : isI n') (e : litV i n = litV i' n') : i = i' ∧ n = n' := by
  have a := keyV hi hn
  rw [e] at a
  have := klawV.inj a (keyV hi' hn')
  simp only [valV, Value.agg.injEq, Array.mk.injEq, List.cons.injEq, Value.int.injEq, true_and, and_true] at this
  exact this
theorem keyS {s : Nm} (hs : s.length ≤ maxLen) : keyOf Tryz.prog 9 (.string (str s)) = some (.string s) := key_str hs
theorem upd_same (f : Lit → Option Value) {x : Lit} (h : WideAt.IsKeyLit x) (v : Value) : updV f x v x = some v := by unfold updV; rw [if_pos (WideAt.sameKey_self h)]
theorem upd_other (f : Lit → Option Value) {x y : Lit} (h : y ≠ x) (v : Value) : updV f x v y = f y := by unfold updV; rw [if_neg (by rw [Maps.sameKey_ne h]; simp)]
theorem del_same (f : Lit → Option Value) {x : Lit} (h : WideAt.IsKeyLit x) : delV f x x = none := by unfold delV; rw [if_pos (WideAt.sameKey_self h)]
theorem del_other (f : Lit → Option Value) {x y : Lit} (h : y ≠ x) : delV f x y = f y := by unfold delV; rw [if_neg (by rw [Maps.sameKey_ne h]; simp)]
theorem zero78 (w : World) : (zeroValue 78).run Tryz.prog w = .ok (.pointer none) w := by kernel_rfl
theorem zero96 (w : World) : (zeroValue 96).run Tryz.prog w = .ok (.pointer none) w := by kernel_rfl
theorem zero2 (w : World) : (zeroValue 2).run Tryz.prog w = .ok (.int .i64 0) w := by kernel_rfl
theorem zero115 (w : World) : (zeroValue 115).run Tryz.prog w = .ok (.slice none 0 0) w := by kernel_rfl
end Go.Proofs.YtbajpejnnfacbaaGreatDoor.Lz

/- Package lazy's things, scopes, expressions and lists as they lie in memory: each block has a tag that says what it holds. -/
namespace Go.Proofs.YtbajpejnnfacbaaGreatDoor.Lz
open Go.RowKit
set_option linter.unusedVariables false
set_option linter.unusedSimpArgs false

inductive Ty where
  | thing (i : Nat)
  | row (l : List Nat)
  | prow (j : Nat)
  | env (e : Env)
  | exp (x : X)
  | form (a : Nat) (x : X)
  | atoms (l : List Am)
  | binds (l : List Bd)
  | arms (l : List Ar)
  | items (i : Nat)
  | nbox (k : Nat)
  | tbox (k : Nat)
  | own (k : Nat)
/-- which block is what -/
abbrev Gm := Nat → Option Ty
abbrev nilp : Value := .pointer none
abbrev nils : Value := .slice none 0 0
abbrev nilm : Value := .map none
def pT (G : Gm) (i : Nat) (v : Value) : Prop := ∃ b, v = ptr b ∧ G b = some (.thing i)
def pEnv (G : Gm) (e : Env) (v : Value) : Prop := ∃ b, v = ptr b ∧ G b = some (.env e)
def pExp (G : Gm) (x : X) (v : Value) : Prop := ∃ b, v = ptr b ∧ G b = some (.exp x)
def pForm (G : Gm) (a : Nat) (x : X) (v : Value) : Prop := ∃ b, v = ptr b ∧ G b = some (.form a x)
def pRow (G : Gm) (l : List Nat) (v : Value) : Prop :=
  ∃ ga cap, v = .slice ga l.length cap ∧ l.length ≤ cap ∧ (l.length ≠ 0 → ∃ g off L, ga = some ⟨g, off, none⟩ ∧ G g = some (.row L) ∧ ∀ j, j < l.length → L[off + j]? = l[j]?)
def pAtoms (G : Gm) (l : List Am) (v : Value) : Prop := ∃ ga cap, v = .slice ga l.length cap ∧ l.length ≤ cap ∧ l.length ≤ 1000000000 ∧ (l.length ≠ 0 → ∃ g, ga = some ⟨g, 0, none⟩ ∧ G g = some (.atoms l))
def pBinds (G : Gm) (l : List Bd) (v : Value) : Prop := ∃ ga cap, v = .slice ga l.length cap ∧ l.length ≤ cap ∧ l.length ≤ 1000000000 ∧ (l.length ≠ 0 → ∃ g, ga = some ⟨g, 0, none⟩ ∧ G g = some (.binds l))
def pArms (G : Gm) (l : List Ar) (v : Value) : Prop := ∃ m, v = .map (some m) ∧ G m = some (.arms l)
def pOther (G : Gm) : List X → Value → Prop
  | [], v => v = nilp
  | x :: _, v => pExp G x v
def pTell (G : Gm) (k : Nat) (v : Value) : Prop :=
  (1 ≤ k ∧ k ≤ 7 ∧ ∃ g, v = .func (.func 113) #[] #[ptr g] ∧ G g = some (.nbox k)) ∨ (k = 8 ∧ v = .func (.func 84) #[] #[]) ∨ (k = 9 ∧ v = .func (.func 85) #[] #[]) ∨ (k = 10 ∧ v = .func (.func 86) #[] #[]) ∨
  (k = 11 ∧ v = .func (.func 87) #[] #[]) ∨ (k = 12 ∧ v = .func (.func 88) #[] #[]) ∨ (k = 13 ∧ v = .func (.func 89) #[] #[]) ∨ (k = 14 ∧ ∃ g, v = .func (.func 111) #[] #[ptr g] ∧ G g = some (.tbox 91)) ∨
  (k = 15 ∧ ∃ g, v = .func (.func 111) #[] #[ptr g] ∧ G g = some (.tbox 92)) ∨ (k = 16 ∧ v = .func (.func 94) #[] #[])
def am4 : Am → List Value
  | .name p => [.bool true, .int .i64 p.lev, .int .i64 p.idx, .int .i64 0]
  | .num n => [.bool false, .int .i64 0, .int .i64 0, .int .i64 n]
def amC : List Am → List Value
  | [] => []
  | a :: r => am4 a ++ amC r
def bdC (G : Gm) : List Bd → List Value → Prop
  | [], c => c = []
  | .mk cl a x :: r, c => ∃ v c2, c = .int .i64 cl :: v :: c2 ∧ pForm G a x v ∧ bdC G r c2
abbrev thC (is n : Int) (f nm o wi it : Value) (wr : Int) : Array Value := #[.int .i64 is, .int .i64 n, f, nm, o, wi, it, .int .i64 wr]
def isT (w : World) (G : Gm) (i : Nat) : T → Array Value → Prop
  | .num n, c => c = thC 0 n nilp nilp nilp nils nilm 0
  | .con n l, c => ∃ r, pRow G l r ∧ c = thC 1 n nilp nilp nilp r nilm 0
  | .fn a x e, c => ∃ f nm, pForm G a x f ∧ pEnv G e nm ∧ c = thC 2 0 f nm nilp nils nilm 0
  | .part g l, c => ∃ o r, pT G g o ∧ pRow G l r ∧ c = thC 3 0 nilp nilp o r nilm 0
  | .var t, c => ∃ o, pT G t o ∧ c = thC 4 0 nilp nilp o nils nilm 0
  | .arr l, c => ∃ o t it, pT G t o ∧ c = thC 5 l.length nilp nilp o nils it 0 ∧
      ((it = nilm ∧ l = List.replicate l.length t) ∨ (∃ m n f, it = .map (some m) ∧ G m = some (.items i) ∧ VM 2 w m n f ∧ n ≤ 1000000000 ∧ (∀ kl, (f kl).isSome = true → ∃ i : Nat, i < l.length ∧ kl = .int .i64 i) ∧ ∀ (k : Nat) u, l[k]? = some u → pT G u ((f (.int .i64 k)).getD o)))
  | .need x e, c => ∃ f nm a, pForm G a x f ∧ pEnv G e nm ∧ c = thC 6 0 f nm nilp nils nilm 0
  | .call g l, c => ∃ o r, pT G g o ∧ pRow G l r ∧ c = thC 7 0 nilp nilp o r nilm 0
  | .work, c => c = thC 8 0 nilp nilp nilp nils nilm 0
  | .failed e, c => c = thC 9 0 nilp nilp nilp nils nilm e
  | .same t, c => ∃ o, pT G t o ∧ c = thC 10 0 nilp nilp o nils nilm 0
abbrev xC (k n p : Int) (tl : Value) (lv ix : Int) (at' bs kid arms oth : Value) : Array Value := #[.int .i64 k, .int .i64 n, .int .i64 p, tl, .int .i64 lv, .int .i64 ix, at', bs, kid, arms, oth]
def isX (G : Gm) : X → Array Value → Prop
  | .int n, c => c = xC 4 n 0 .nilFunc 0 0 nils nils nilp nilm nilp
  | .con n l, c => ∃ a, pAtoms G l a ∧ c = xC 2 n 0 .nilFunc 0 0 a nils nilp nilm nilp
  | .app p l, c => ∃ a, pAtoms G l a ∧ c = xC 1 0 0 .nilFunc p.lev p.idx a nils nilp nilm nilp
  | .prim k l, c => ∃ a t, pAtoms G l a ∧ pTell G k t ∧ c = xC 3 0 k t 0 0 a nils nilp nilm nilp
  | .lt bs kid, c => ∃ b x, pBinds G bs b ∧ pExp G kid x ∧ c = xC 5 0 0 .nilFunc 0 0 nils b x nilm nilp
  | .cs kid al o, c => ∃ x m y, pExp G kid x ∧ pArms G al m ∧ pOther G o y ∧ c = xC 6 0 0 .nilFunc 0 0 nils nils x m y
def Cont (w : World) (G : Gm) (th : List T) (rows : List (List Nat)) (b : Nat) : Ty → Prop
  | .thing i => ∃ t c, th[i]? = some t ∧ w.heap[b]? = some (.cells c 91 (0, 0)) ∧ isT w G i t c
  | .row l => b < w.heap.size ∧ ∀ (j : Nat) i, l[j]? = some i → ∃ v, w.cell? ⟨b, j, none⟩ = some v ∧ pT G i v
  | .prow j => ∃ l c, rows[j]? = some l ∧ w.heap[b]? = some (.cells c 78 (0, 0)) ∧ c.size = l.length ∧ ∀ (k : Nat) i, l[k]? = some i → ∃ v, c[k]? = some v ∧ pT G i v
  | .env e => ∃ t u f eu ef, w.heap[b]? = some (.cells #[t, .int .i64 ((e.length : Int) - 1), u, f] 86 (0, 0)) ∧ pRow G (e.headD []) t ∧ pEnv G eu u ∧ pEnv G ef f ∧ e ≠ [] ∧ (e.length = 1 → eu = e ∧ ef = e) ∧ (1 < e.length → eu = e.tail ∧ ef <:+ e.tail ∧ ef ≠ [])
  | .exp x => ∃ c, w.heap[b]? = some (.cells c 147 (0, 0)) ∧ isX G x c
  | .form a x => ∃ v, w.heap[b]? = some (.cells #[.int .i64 a, v] 119 (0, 0)) ∧ pExp G x v
  | .atoms l => b < w.heap.size ∧ ∀ (j : Nat) u, (amC l)[j]? = some u → w.cell? ⟨b, j, none⟩ = some u
  | .binds l => b < w.heap.size ∧ ∃ vs, bdC G l vs ∧ ∀ (j : Nat) u, vs[j]? = some u → w.cell? ⟨b, j, none⟩ = some u
  | .arms l => ∃ n f, VM 182 w b n f ∧ n ≤ 1000000000 ∧ ∀ (is : Nat) (m : Int), isI is → isI m → (match armOf l is m with | some x => ∃ v, f (litV is m) = some v ∧ pExp G x v | none => f (litV is m) = none)
  | .items _ => b < w.heap.size
  | .nbox k => w.cell? ⟨b, 0, none⟩ = some (.int .i64 k)
  | .tbox k => w.cell? ⟨b, 0, none⟩ = some (.func (.func k) #[] #[])
  | .own _ => b < w.heap.size
def Le (G G' : Gm) : Prop := ∀ b ty, G b = some ty → G' b = some ty
theorem Le.refl (G : Gm) : Le G G := fun _ _ h => h
theorem Le.trans {A B C : Gm} (h : Le A B) (k : Le B C) : Le A C := fun b ty e => k b ty (h b ty e)
section
variable {G G' : Gm}
theorem pT.le (h : Le G G') {i : Nat} {v : Value} (k : pT G i v) : pT G' i v := by obtain ⟨b, e, k⟩ := k; exact ⟨b, e, h _ _ k⟩
theorem pEnv.le (h : Le G G') {i : Env} {v : Value} (k : pEnv G i v) : pEnv G' i v := by obtain ⟨b, e, k⟩ := k; exact ⟨b, e, h _ _ k⟩
theorem pExp.le (h : Le G G') {i : X} {v : Value} (k : pExp G i v) : pExp G' i v := by obtain ⟨b, e, k⟩ := k; exact ⟨b, e, h _ _ k⟩
theorem pForm.le (h : Le G G') {a : Nat} {i : X} {v : Value} (k : pForm G a i v) : pForm G' a i v := by obtain ⟨b, e, k⟩ := k; exact ⟨b, e, h _ _ k⟩
theorem pRow.le (h : Le G G') {l : List Nat} {v : Value} (k : pRow G l v) : pRow G' l v := by
  obtain ⟨ga, cap, e, c, k⟩ := k
  exact ⟨ga, cap, e, c, fun z => by obtain ⟨g, off, L, a, b, d⟩ := k z; exact ⟨g, off, L, a, h _ _ b, d⟩⟩
theorem pAtoms.le (h : Le G G') {l : List Am} {v : Value} (k : pAtoms G l v) : pAtoms G' l v := by
  obtain ⟨ga, cap, e, c, d, k⟩ := k
  exact ⟨ga, cap, e, c, d, fun z => by obtain ⟨g, a, b⟩ := k z; exact ⟨g, a, h _ _ b⟩⟩
theorem pBinds.le (h : Le G G') {l : List Bd} {v : Value} (k : pBinds G l v) : pBinds G' l v := by
  obtain ⟨ga, cap, e, c, d, k⟩ := k
  exact ⟨ga, cap, e, c, d, fun z => by obtain ⟨g, a, b⟩ := k z; exact ⟨g, a, h _ _ b⟩⟩
theorem pArms.le (h : Le G G') {l : List Ar} {v : Value} (k : pArms G l v) : pArms G' l v := by obtain ⟨b, e, k⟩ := k; exact ⟨b, e, h _ _ k⟩
theorem pOther.le (h : Le G G') {l : List X} {v : Value} (k : pOther G l v) : pOther G' l v := by
  cases l with
  | nil => exact k
  | cons x r => exact pExp.le h k
theorem pTell.le (h : Le G G') {k : Nat} {v : Value} (q : pTell G k v) : pTell G' k v := by
  rcases q with ⟨a, b, g, c, d⟩ | q | q | q | q | q | q | ⟨a, g, c, d⟩ | ⟨a, g, c, d⟩ | q
  · exact .inl ⟨a, b, g, c, h _ _ d⟩
  · exact .inr (.inl q)
  · exact .inr (.inr (.inl q))
  · exact .inr (.inr (.inr (.inl q)))
  · exact .inr (.inr (.inr (.inr (.inl q))))
  · exact .inr (.inr (.inr (.inr (.inr (.inl q)))))
  · exact .inr (.inr (.inr (.inr (.inr (.inr (.inl q))))))
  · exact .inr (.inr (.inr (.inr (.inr (.inr (.inr (.inl ⟨a, g, c, h _ _ d⟩)))))))
  · exact .inr (.inr (.inr (.inr (.inr (.inr (.inr (.inr (.inl ⟨a, g, c, h _ _ d⟩))))))))
  · exact .inr (.inr (.inr (.inr (.inr (.inr (.inr (.inr (.inr q))))))))
theorem bdC.le (h : Le G G') : ∀ (l : List Bd) (c : List Value), bdC G l c → bdC G' l c
  | [], c, k => k
  | .mk cl a x :: r, c, k => by
    obtain ⟨v, c2, e, k1, k2⟩ := k
    exact ⟨v, c2, e, pForm.le h k1, bdC.le h r c2 k2⟩
theorem isT.le (h : Le G G') {w w' : World} {i : Nat} (hm : ∀ m, G m = some (.items i) → w'.heap[m]? = w.heap[m]?) : ∀ (t : T) (c : Array Value), isT w G i t c → isT w' G' i t c
  | .num n, c, k => k
  | .con n l, c, ⟨r, a, b⟩ => ⟨r, pRow.le h a, b⟩
  | .fn a x e, c, ⟨f, nm, k1, k2, k3⟩ => ⟨f, nm, pForm.le h k1, pEnv.le h k2, k3⟩
  | .part g l, c, ⟨o, r, k1, k2, k3⟩ => ⟨o, r, pT.le h k1, pRow.le h k2, k3⟩
  | .var t, c, ⟨o, k1, k2⟩ => ⟨o, pT.le h k1, k2⟩
  | .arr l, c, ⟨o, t, it, k1, k2, k3⟩ => ⟨o, t, it, pT.le h k1, k2, by
      rcases k3 with k3 | ⟨m, n, f, e1, e2, e3, e4, e6, e5⟩
      · exact .inl k3
      · exact .inr ⟨m, n, f, e1, h _ _ e2, e3.of_block (hm m e2), e4, e6, fun k u hu => pT.le h (e5 k u hu)⟩⟩
  | .need x e, c, ⟨f, nm, a, k1, k2, k3⟩ => ⟨f, nm, a, pForm.le h k1, pEnv.le h k2, k3⟩
  | .call g l, c, ⟨o, r, k1, k2, k3⟩ => ⟨o, r, pT.le h k1, pRow.le h k2, k3⟩
  | .work, c, k => k
  | .failed e, c, k => k
  | .same t, c, ⟨o, k1, k2⟩ => ⟨o, pT.le h k1, k2⟩
theorem isX.le (h : Le G G') : ∀ (x : X) (c : Array Value), isX G x c → isX G' x c
  | .int n, c, k => k
  | .con n l, c, ⟨a, k1, k2⟩ => ⟨a, pAtoms.le h k1, k2⟩
  | .app p l, c, ⟨a, k1, k2⟩ => ⟨a, pAtoms.le h k1, k2⟩
  | .prim k l, c, ⟨a, t, k1, k2, k3⟩ => ⟨a, t, pAtoms.le h k1, pTell.le h k2, k3⟩
  | .lt bs kid, c, ⟨b, x, k1, k2, k3⟩ => ⟨b, x, pBinds.le h k1, pExp.le h k2, k3⟩
  | .cs kid al o, c, ⟨x, m, y, k1, k2, k3, k4⟩ => ⟨x, m, y, pExp.le h k1, pArms.le h k2, pOther.le h k3, k4⟩
end
theorem lt_of_block {w : World} {b : Nat} {o : Obj} (h : w.heap[b]? = some o) : b < w.heap.size := (Array.getElem?_eq_some_iff.1 h).1
theorem Cont.lt {w : World} {G : Gm} {th : List T} {rows : List (List Nat)} {b : Nat} : ∀ {ty : Ty}, Cont w G th rows b ty → b < w.heap.size
  | .thing i, ⟨t, c, _, h, _⟩ => lt_of_block h
  | .row l, h => h.1
  | .prow j, ⟨l, c, _, h, _⟩ => lt_of_block h
  | .env e, ⟨t, u, f, eu, ef, h, _⟩ => lt_of_block h
  | .exp x, ⟨c, h, _⟩ => lt_of_block h
  | .form a x, ⟨c, h, _⟩ => lt_of_block h
  | .atoms l, h => h.1
  | .binds l, h => h.1
  | .arms l, ⟨n, f, h, _⟩ => h.lt
  | .items _, h => h
  | .nbox k, h => World.block_lt_of_cell? _ _ h
  | .tbox k, h => World.block_lt_of_cell? _ _ h
  | .own _, h => h
/-- what lies there has not turned -/
def Kept (w w' : World) (G : Gm) (th th' : List T) (rows rows' : List (List Nat)) (b : Nat) (ty : Ty) : Prop :=
  w'.heap[b]? = w.heap[b]? ∧ (∀ i, ty = .thing i → th'[i]? = th[i]? ∧ ∀ m, G m = some (.items i) → w'.heap[m]? = w.heap[m]?) ∧ (∀ j, ty = .prow j → rows'[j]? = rows[j]?)
theorem Cont.kept {w w' : World} {G G' : Gm} {th th' : List T} {rows rows' : List (List Nat)} {b : Nat} (hs : w.heap.size ≤ w'.heap.size) (h : Le G G') : ∀ {ty : Ty}, Kept w w' G th th' rows rows' b ty → Cont w G th rows b ty → Cont w' G' th' rows' b ty
  | .thing i, k, ⟨t, c, e, hb, q⟩ => ⟨t, c, (k.2.1 i rfl).1.trans e, k.1.trans hb, isT.le h (k.2.1 i rfl).2 t c q⟩
  | .row l, k, ⟨a, q⟩ => ⟨Nat.lt_of_lt_of_le a hs, fun j i hj => by obtain ⟨v, h1, h2⟩ := q j i hj; exact ⟨v, (World.cell?_of_block k.1).trans h1, pT.le h h2⟩⟩
  | .prow j, k, ⟨l, c, e, hb, z, q⟩ => ⟨l, c, (k.2.2 j rfl).trans e, k.1.trans hb, z, fun m i hm => by obtain ⟨v, h1, h2⟩ := q m i hm; exact ⟨v, h1, pT.le h h2⟩⟩
  | .env e, k, ⟨t, u, f, eu, ef, hb, k1, k2, k3, k4⟩ => ⟨t, u, f, eu, ef, k.1.trans hb, pRow.le h k1, pEnv.le h k2, pEnv.le h k3, k4⟩
  | .exp x, k, ⟨c, hb, q⟩ => ⟨c, k.1.trans hb, isX.le h x c q⟩
  | .form a x, k, ⟨c, hb, q⟩ => ⟨c, k.1.trans hb, pExp.le h q⟩
  | .atoms l, k, ⟨a, q⟩ => ⟨Nat.lt_of_lt_of_le a hs, fun j u hj => (World.cell?_of_block k.1).trans (q j u hj)⟩
  | .binds l, k, ⟨a, vs, q1, q2⟩ => ⟨Nat.lt_of_lt_of_le a hs, vs, bdC.le h l vs q1, fun j u hj => (World.cell?_of_block k.1).trans (q2 j u hj)⟩
  | .arms l, k, ⟨n, f, q1, q2, q3⟩ => ⟨n, f, q1.of_block k.1, q2, fun is m hi hm => by
      have := q3 is m hi hm
      split at this
      · obtain ⟨v, a, b⟩ := this; exact ⟨v, a, pExp.le h b⟩
      · exact this⟩
  | .items _, k, q => Nat.lt_of_lt_of_le q hs
  | .nbox n, k, q => (World.cell?_of_block k.1).trans q
  | .tbox n, k, q => (World.cell?_of_block k.1).trans q
  | .own _, k, q => Nat.lt_of_lt_of_le q hs
structure Rep (w : World) (G : Gm) (th : List T) (rows : List (List Nat)) : Prop where
  cont : ∀ b ty, G b = some ty → Cont w G th rows b ty
  has : ∀ i, i < th.length → ∃ b, G b = some (.thing i)
  one : ∀ i b b', G b = some (.thing i) → G b' = some (.thing i) → b = b'
  oner : ∀ j b b', G b = some (.prow j) → G b' = some (.prow j) → b = b'
section
variable {w w' : World} {G G' : Gm} {th th' : List T} {rows rows' : List (List Nat)}
theorem Rep.lt (h : Rep w G th rows) {b : Nat} {ty : Ty} (k : G b = some ty) : b < w.heap.size := (h.cont b ty k).lt
theorem Rep.thlt (h : Rep w G th rows) {b i : Nat} (k : G b = some (.thing i)) : i < th.length := by
  obtain ⟨t, c, e, _⟩ := h.cont b _ k
  exact (List.getElem?_eq_some_iff.1 e).1
theorem Rep.rowlt (h : Rep w G th rows) {b i : Nat} (k : G b = some (.prow i)) : i < rows.length := by
  obtain ⟨t, c, e, _⟩ := h.cont b _ k
  exact (List.getElem?_eq_some_iff.1 e).1
theorem Rep.free (h : Rep w G th rows) {b : Nat} (k : w.heap.size ≤ b) : G b = none := by
  cases e : G b with
  | none => rfl
  | some ty => have := h.lt e; omega
/-- nothing that is tagged has turned -/
theorem Rep.later (h : Rep w G th rows) (hs : w.heap.size ≤ w'.heap.size) (hb : ∀ b ty, G b = some ty → w'.heap[b]? = w.heap[b]?) : Rep w' G th rows :=
  ⟨fun b ty k => (h.cont b ty k).kept hs (Le.refl G) ⟨hb b ty k, fun i _ => ⟨rfl, fun m hm => hb m _ hm⟩, fun j _ => rfl⟩, h.has, h.one, h.oner⟩
theorem Rep.below (h : Rep w G th rows) (k : Below w.heap.size w w') : Rep w' G th rows := h.later k.size (fun b ty e => k.block b (h.lt e))
def tag (G : Gm) (b : Nat) (ty : Ty) : Gm := fun x => if x = b then some ty else G x
theorem tag_self (G : Gm) (b : Nat) (ty : Ty) : tag G b ty b = some ty := if_pos rfl
theorem tag_ne (G : Gm) {b x : Nat} (ty : Ty) (h : x ≠ b) : tag G b ty x = G x := if_neg h
theorem le_tag {b : Nat} (h : G b = none) (ty : Ty) : Le G (tag G b ty) := fun x t e => by
  rw [tag_ne]
  · exact e
  · intro z; subst z; rw [h] at e; cases e
/-- a block more is tagged -/
theorem Rep.tag (h : Rep w G th rows) {b : Nat} (hb : G b = none) {ty : Ty} (hc : Cont w (tag G b ty) th rows b ty) (h1 : ∀ i, ty ≠ .thing i) (h2 : ∀ j, ty ≠ .prow j) : Rep w (tag G b ty) th rows := by
  refine ⟨fun x t e => ?_, fun i hi => ?_, fun i x y e1 e2 => ?_, fun i x y e1 e2 => ?_⟩
  · by_cases z : x = b
    · subst z; rw [tag_self] at e; cases e; exact hc
    · rw [tag_ne G ty z] at e
      exact (h.cont x t e).kept (Nat.le_refl _) (le_tag hb ty) ⟨rfl, fun i _ => ⟨rfl, fun m hm => rfl⟩, fun j _ => rfl⟩
  · obtain ⟨x, hx⟩ := h.has i hi
    exact ⟨x, le_tag hb ty _ _ hx⟩
  · have q : ∀ x, Lz.tag G b ty x = some (.thing i) → G x = some (.thing i) := fun x e => by
      by_cases z : x = b
      · subst z; rw [tag_self] at e; cases e; exact absurd rfl (h1 i)
      · rwa [tag_ne G ty z] at e
    exact h.one i x y (q x e1) (q y e2)
  · have q : ∀ x, Lz.tag G b ty x = some (.prow i) → G x = some (.prow i) := fun x e => by
      by_cases z : x = b
      · subst z; rw [tag_self] at e; cases e; exact absurd rfl (h2 i)
      · rwa [tag_ne G ty z] at e
    exact h.oner i x y (q x e1) (q y e2)
/-- a thing more -/
theorem Rep.thing (h : Rep w G th rows) {b : Nat} (hb : G b = none) {t : T} {c : Array Value} (hc : w.heap[b]? = some (.cells c 91 (0, 0))) (ht : isT w (Lz.tag G b (.thing th.length)) th.length t c) : Rep w (Lz.tag G b (.thing th.length)) (th ++ [t]) rows := by
  refine ⟨fun x ty e => ?_, fun i hi => ?_, fun i x y e1 e2 => ?_, fun i x y e1 e2 => ?_⟩
  · by_cases z : x = b
    · subst z; rw [tag_self] at e; cases e; exact ⟨t, c, by simp, hc, ht⟩
    · rw [tag_ne G _ z] at e
      refine (h.cont x ty e).kept (Nat.le_refl _) (le_tag hb _) ⟨rfl, fun i hi => ⟨?_, fun m hm => rfl⟩, fun j _ => rfl⟩
      subst hi
      exact List.getElem?_append_left (h.thlt e)
  · rw [List.length_append, List.length_singleton] at hi
    by_cases z : i = th.length
    · exact ⟨b, by rw [z, tag_self]⟩
    · obtain ⟨x, hx⟩ := h.has i (by omega)
      exact ⟨x, le_tag hb _ _ _ hx⟩
  · by_cases z1 : x = b
    · by_cases z2 : y = b
      · rw [z1, z2]
      · subst z1
        rw [tag_self] at e1
        cases e1
        rw [tag_ne G _ z2] at e2
        have := h.thlt e2
        omega
    · by_cases z2 : y = b
      · subst z2
        rw [tag_self] at e2
        cases e2
        rw [tag_ne G _ z1] at e1
        have := h.thlt e1
        omega
      · rw [tag_ne G _ z1] at e1
        rw [tag_ne G _ z2] at e2
        exact h.one i x y e1 e2
  · have q : ∀ x, Lz.tag G b (.thing th.length) x = some (.prow i) → G x = some (.prow i) := fun x e => by
      by_cases z : x = b
      · subst z; rw [tag_self] at e; cases e
      · rwa [tag_ne G _ z] at e
    exact h.oner i x y (q x e1) (q y e2)
/-- a primitive's list more -/
theorem Rep.prow (h : Rep w G th rows) {b : Nat} (hb : G b = none) {l : List Nat} (hc : Cont w (Lz.tag G b (.prow rows.length)) th (rows ++ [l]) b (.prow rows.length)) : Rep w (Lz.tag G b (.prow rows.length)) th (rows ++ [l]) := by
  refine ⟨fun x ty e => ?_, fun i hi => ?_, fun i x y e1 e2 => ?_, fun i x y e1 e2 => ?_⟩
  · by_cases z : x = b
    · subst z; rw [tag_self] at e; cases e; exact hc
    · rw [tag_ne G _ z] at e
      refine (h.cont x ty e).kept (Nat.le_refl _) (le_tag hb _) ⟨rfl, fun i hi => ⟨rfl, fun m hm => rfl⟩, fun j hj => ?_⟩
      subst hj
      exact List.getElem?_append_left (h.rowlt e)
  · obtain ⟨x, hx⟩ := h.has i hi
    exact ⟨x, le_tag hb _ _ _ hx⟩
  · have q : ∀ x, Lz.tag G b (.prow rows.length) x = some (.thing i) → G x = some (.thing i) := fun x e => by
      by_cases z : x = b
      · subst z; rw [tag_self] at e; cases e
      · rwa [tag_ne G _ z] at e
    exact h.one i x y (q x e1) (q y e2)
  · by_cases z1 : x = b
    · by_cases z2 : y = b
      · rw [z1, z2]
      · subst z1
        rw [tag_self] at e1
        cases e1
        rw [tag_ne G _ z2] at e2
        have := h.rowlt e2
        omega
    · by_cases z2 : y = b
      · subst z2
        rw [tag_self] at e2
        cases e2
        rw [tag_ne G _ z1] at e1
        have := h.rowlt e1
        omega
      · rw [tag_ne G _ z1] at e1
        rw [tag_ne G _ z2] at e2
        exact h.oner i x y e1 e2
/-- a thing has become another one -/
theorem Rep.put (h : Rep w G th rows) {b i : Nat} (hb : G b = some (.thing i)) {t : T} {c : Array Value} (hs : w.heap.size ≤ w'.heap.size) (hc : w'.heap[b]? = some (.cells c 91 (0, 0))) (ht : isT w' G i t c)
    (ho : ∀ x ty, G x = some ty → x ≠ b → ty ≠ .items i → w'.heap[x]? = w.heap[x]?) : Rep w' G (th.set i t) rows := by
  refine ⟨fun x ty e => ?_, fun j hj => h.has j (by simpa using hj), h.one, h.oner⟩
  by_cases z : x = b
  · subst z
    rw [hb] at e
    cases e
    exact ⟨t, c, List.getElem?_set_self (h.thlt hb), hc, ht⟩
  · by_cases q : ty = .items i
    · subst q
      exact Nat.lt_of_lt_of_le (h.lt e) hs
    · refine (h.cont x ty e).kept hs (Le.refl G) ⟨ho x ty e z q, fun j hj => ?_, fun j hj => rfl⟩
      subst hj
      have ne : i ≠ j := fun k => by subst k; exact z (h.one i x b e hb)
      refine ⟨List.getElem?_set_ne ne, fun m hm => ho m _ hm (fun k => ?_) (fun k => ?_)⟩
      · subst k; rw [hb] at hm; cases hm
      · cases k; exact ne rfl
/-- a primitive's list has another item -/
theorem Rep.putrow (h : Rep w G th rows) {b j : Nat} (hb : G b = some (.prow j)) {l : List Nat} (hs : w.heap.size ≤ w'.heap.size) (hc : Cont w' G th (rows.set j l) b (.prow j))
    (ho : ∀ x ty, G x = some ty → x ≠ b → w'.heap[x]? = w.heap[x]?) : Rep w' G th (rows.set j l) := by
  refine ⟨fun x ty e => ?_, h.has, h.one, h.oner⟩
  by_cases z : x = b
  · subst z
    rw [hb] at e
    cases e
    exact hc
  · refine (h.cont x ty e).kept hs (Le.refl G) ⟨ho x ty e z, fun i hi => ⟨rfl, fun m hm => ho m _ hm (fun k => ?_)⟩, fun i hi => ?_⟩
    · subst k; rw [hb] at hm; cases hm
    · subst hi
      exact List.getElem?_set_ne (fun k => by subst k; exact z (h.oner j x b e hb))
end
/-- what never turns -/
def fixd : Option Ty → Prop
  | none => True
  | some (.thing _) => False
  | some (.prow _) => False
  | some (.items _) => False
  | some (.own k) => 4 ≤ k
  | some _ => True
/-- what is not tagged has not turned, nor has what is tagged as kept; tags stay -/
structure Fx (G G' : Gm) (w w' : World) : Prop where
  os : w'.os = w.os
  tape : w'.tape = w.tape
  output : w'.output = w.output
  size : w.heap.size ≤ w'.heap.size
  block : ∀ i, i < w.heap.size → fixd (G i) → w'.heap[i]? = w.heap[i]?
  le : Le G G'
  new : ∀ i, i < w.heap.size → G i = none → G' i = none
section
variable {G G' G'' : Gm} {w w' w'' : World}
theorem Fx.refl (G : Gm) (w : World) : Fx G G w w := ⟨rfl, rfl, rfl, Nat.le_refl _, fun _ _ _ => rfl, Le.refl G, fun _ _ h => h⟩
theorem Fx.trans (h : Fx G G' w w') (k : Fx G' G'' w' w'') : Fx G G'' w w'' :=
  ⟨k.os.trans h.os, k.tape.trans h.tape, k.output.trans h.output, Nat.le_trans h.size k.size, fun i hi q => by
    refine (k.block i (Nat.lt_of_lt_of_le hi h.size) ?_).trans (h.block i hi q)
    cases e : G i with
    | none => rw [h.new i hi e]; trivial
    | some ty => rw [h.le _ _ e]; rw [e] at q; exact q, h.le.trans k.le, fun i hi q => k.new i (Nat.lt_of_lt_of_le hi h.size) (h.new i hi q)⟩
theorem Fx.of_below (h : Below w.heap.size w w') : Fx G G w w' := ⟨h.os, h.tape, h.output, h.size, fun i hi _ => h.block i hi, Le.refl G, fun _ _ h => h⟩
theorem Fx.more (h : Fx G G' w w') (os : w''.os = w'.os) (tape : w''.tape = w'.tape) (output : w''.output = w'.output) (size : w'.heap.size ≤ w''.heap.size) (blk : ∀ i, i < w.heap.size → w''.heap[i]? = w'.heap[i]?) (le : Le G' G'') (new : ∀ i, i < w.heap.size → G' i = none → G'' i = none) : Fx G G'' w w'' :=
  ⟨os.trans h.os, tape.trans h.tape, output.trans h.output, Nat.le_trans h.size size, fun i hi q => (blk i hi).trans (h.block i hi q), h.le.trans le, fun i hi q => new i hi (h.new i hi q)⟩
theorem Fx.of_tag {b : Nat} (hb : w.heap.size ≤ b) (hn : G b = none) (ty : Ty) : Fx G (tag G b ty) w w := ⟨rfl, rfl, rfl, Nat.le_refl _, fun _ _ _ => rfl, le_tag hn ty, fun i hi q => by rw [tag_ne G ty (by omega)]; exact q⟩
theorem Fx.of_own {b : Nat} {ty : Ty} (hb : G b = some ty) (hk : ¬ fixd (some ty)) (os : w'.os = w.os) (tape : w'.tape = w.tape) (output : w'.output = w.output) (size : w.heap.size ≤ w'.heap.size) (ho : ∀ i, i < w.heap.size → i ≠ b → w'.heap[i]? = w.heap[i]?) : Fx G G w w' :=
  ⟨os, tape, output, size, fun i hi q => ho i hi (fun e => by
    subst e
    rw [hb] at q
    exact hk q), Le.refl G, fun _ _ h => h⟩
end
end Go.Proofs.YtbajpejnnfacbaaGreatDoor.Lz

/- Package lazy: a number's thing; where a name stands. -/
namespace Go.Proofs.YtbajpejnnfacbaaGreatDoor.Lz
open Go.RowKit
set_option linter.unusedVariables false
set_option linter.unusedSimpArgs false

abbrev numC (n : Int) : Array Value := thC 0 n nilp nilp nilp nils nilm 0
theorem numbered_any (w : World) (n : Int) : Calls Tryz.prog 35 #[.int .i64 n] w fun e w' => e = .returned (ptr w.heap.size) ∧ w' = w.alloc (.cells (numC n) 91) := by
  go_enter Tryz.func35, Tryz.ntmps35
  go_wp2
  go_ret
  exact ⟨rfl, rfl⟩
theorem later' {w w' : World} {b : Nat} {o : Obj} (h : w.heap[b]? = some o) (k : Below w.heap.size w w') : w'.heap[b]? = some o := (k.block b (lt_of_block h)).trans h
section
variable {w w' : World} {G : Gm} {th : List T} {rows : List (List Nat)}
theorem Rep.envB (h : Rep w G th rows) {b : Nat} {e : Env} (k : G b = some (.env e)) : ∃ t bu bf eu ef, Bx w b #[t, .int .i64 ((e.length : Int) - 1), ptr bu, ptr bf] 86 ∧ pRow G (e.headD []) t ∧ G bu = some (.env eu) ∧ G bf = some (.env ef) ∧ e ≠ [] ∧ (e.length = 1 → eu = e ∧ ef = e) ∧ (1 < e.length → eu = e.tail ∧ ef <:+ e.tail ∧ ef ≠ []) := by
  obtain ⟨t, u, f, eu, ef, hb, k1, ⟨bu, rfl, k2⟩, ⟨bf, rfl, k3⟩, k4⟩ := h.cont b _ k
  exact ⟨t, bu, bf, eu, ef, hb, k1, k2, k3, k4⟩
theorem envAt_suffix {e e' : Env} {p : Pl} (h : e' <:+ e) (k : p.lev < e'.length) : envAt e' p = envAt e p := by
  obtain ⟨pre, rfl⟩ := h
  unfold envAt
  have : (pre ++ e').reverse.getD p.lev [] = e'.reverse.getD p.lev [] := by
    rw [List.reverse_append, List.getD_eq_getElem?_getD, List.getElem?_append_left (by simpa using k), ← List.getD_eq_getElem?_getD]
  rw [this]
theorem envAt_top {e : Env} {p : Pl} (h : p.lev + 1 = e.length) : envAt e p = (e.headD []).getD p.idx 0 := by
  unfold envAt
  cases e with
  | nil => simp at h
  | cons a r =>
    have : p.lev = r.length := by simpa using h
    rw [this]
    simp [List.getD_eq_getElem?_getD]
theorem pRow.get {l : List Nat} {ga : Option Addr} {n cap : Nat} (h : Rep w G th rows) (k : pRow G l (.slice ga n cap)) {i : Nat} (hi : i < l.length) : ∃ g off b, ga = some ⟨g, off, none⟩ ∧ w.cell? ⟨g, off + i, none⟩ = some (ptr b) ∧ G b = some (.thing (l.getD i 0)) := by
  obtain ⟨ga', cap', e, _, k⟩ := k
  cases e
  obtain ⟨g, off, L, rfl, hg, hL⟩ := k (by omega)
  obtain ⟨_, hc⟩ := h.cont g _ hg
  have e1 : L[off + i]? = some (l.getD i 0) := by rw [hL i hi, List.getD_eq_getElem?_getD, List.getElem?_eq_getElem hi]; rfl
  obtain ⟨v, hv, b, rfl, hb⟩ := hc _ _ e1
  exact ⟨g, off, b, rfl, hv, hb⟩
set_option maxHeartbeats 1000000 in
theorem at_any (h : Rep w G th rows) {b : Nat} {e : Env} (hb : G b = some (.env e)) (p : Pl) (hp : okP (shE e) p) (hl : e.length ≤ 1000000000) :
    Calls Tryz.prog 69 #[ptr b, .agg #[.int .i64 p.lev, .int .i64 p.idx]] w fun r w' => (∃ v, r = .returned v ∧ pT G (envAt e p) v) ∧ Below w.heap.size w w' := by
  have K1 := Joins.below_alloc1 w (.cells #[.int .i64 p.lev, .int .i64 p.idx] 114)
  have X1 : Bx (w.alloc (.cells #[.int .i64 p.lev, .int .i64 p.idx] 114)) w.heap.size #[.int .i64 p.lev, .int .i64 p.idx] 114 := heap_alloc_new w _
  have H := Hid.mk h
  have HX := Hid.mk X1
  obtain ⟨pl, pi⟩ := p
  obtain ⟨hp1, hp2⟩ := hp
  simp only at *
  have hp1' : pl < e.length := by simpa [shE] using hp1
  have HP := Hid.mk hp2
  have HB := Hid.mk hb
  have HK := Hid.mk K1
  obtain ⟨W, hW⟩ : ∃ W, W = w.alloc (.cells #[.int .i64 pl, .int .i64 pi] 114) := ⟨_, rfl⟩
  rw [← hW] at HX HK
  have HS : Hid (w.heap.size < W.heap.size) := ⟨by rw [hW]; simp⟩
  clear h X1 K1 hp1 hp2 hb
  go_enter Tryz.func69, Tryz.ntmps69
  go_wp2
  rw [← hW]
  clear hW
  go_loopw [0] (fun c wr => ∃ b' e', c = ptr b' ∧ Hid (G b' = some (.env e') ∧ e' <:+ e ∧ pl < e'.length) ∧ Hid (Below W.heap.size W wr)) (fun c wr => match c with | .pointer (some a) => (match G a.block with | some (.env e') => e'.length | _ => 0) | _ => 0)
  case atStart => exact ⟨b, e, rfl, ⟨HB.out, List.suffix_refl e, hp1'⟩, ⟨Below.refl _ _⟩⟩
  case round =>
    obtain ⟨b', e', rfl, HE, BW⟩ := hrel
    have R0 := (H.out.below HK.out).below BW.out
    obtain ⟨t, bu, bf, eu, ef, XB, PR, hu, hf, ne, c1, c2⟩ := R0.envB HE.out.1
    have XP := HX.out.later BW.out
    have p0 := XP.cell 0
    have p1 := XP.cell 1
    have y0 := XB.cell 0
    have y1 := XB.cell 1
    have y2 := XB.cell 2
    have y3 := XB.cell 3
    have hlen : e'.length ≤ e.length := HE.out.2.1.length_le
    by_cases gt : pl + 1 < e'.length
    · obtain ⟨rfl, sf, nf⟩ := c2 (by omega)
      obtain ⟨t2, bu2, bf2, eu2, ef2, XB2, _⟩ := R0.envB hf
      have z1 := XB2.cell 1
      have lf : ef.length ≤ e'.tail.length := sf.length_le
      have lt : e'.tail.length = e'.length - 1 := List.length_tail
      have nf' : 0 < ef.length := List.length_pos_iff.2 nf
      have g1 : decide ((pl : Int) < (e'.length : Int) - 1) = true := decide_eq_true (by omega)
      have su : e'.tail <:+ e := (List.tail_suffix e').trans HE.out.2.1
      have sF : ef <:+ e := sf.trans su
      have HU := Hid.mk (And.intro hu (And.intro hf (And.intro HE.out.1 (And.intro su (And.intro sF (And.intro lf lt))))))
      have XX := Hid.mk (And.intro XB (And.intro XB2 XP))
      by_cases ge : pl + 1 ≤ ef.length
      · have g2 : decide ((pl : Int) ≤ (ef.length : Int) - 1) = true := decide_eq_true (by omega)
        clear XB XB2 XP R0 PR c1 c2 hu hf sf su sF lf lt HE
        go_wp2
        go_quiet (fail)
        all_goals go_wp2
        obtain ⟨w1, hw1⟩ : ∃ x, x = wr.drewN nq := ⟨_, rfl⟩
        rw [← hw1]
        have HD : Hid (Below wr.heap.size wr w1) := ⟨by rw [hw1]; exact below_drewN (Below.refl _ _) _⟩
        clear hw1
        have q0 := (XX.out.2.2.later HD.out).cell 0
        have q1 := (XX.out.2.2.later HD.out).cell 1
        have x0 := (XX.out.1.later HD.out).cell 0
        have x1 := (XX.out.1.later HD.out).cell 1
        have x2 := (XX.out.1.later HD.out).cell 2
        have x3 := (XX.out.1.later HD.out).cell 3
        have v1 := (XX.out.2.1.later HD.out).cell 1
        clear p0 p1 y0 y1 y2 y3 z1
        go_quiet (fail)
        all_goals go_wp2
        refine ⟨⟨bf, ef, rfl, ⟨HU.out.2.1, HU.out.2.2.2.2.1, by omega⟩, ⟨(BW.out.trans (Joins.below_le (below_drewN HD.out _) BW.out.size))⟩⟩, ?_⟩
        obtain ⟨q1, q2, q3, q4, q5, q6, q7⟩ := HU.out
        simp only [q2, q3]
        omega
      · have g2 : decide ((pl : Int) ≤ (ef.length : Int) - 1) = false := decide_eq_false (by omega)
        clear XB XB2 XP R0 PR c1 c2 hu hf sf su sF lf lt HE
        go_wp2
        go_quiet (fail)
        all_goals go_wp2
        obtain ⟨w1, hw1⟩ : ∃ x, x = wr.drewN nq := ⟨_, rfl⟩
        rw [← hw1]
        have HD : Hid (Below wr.heap.size wr w1) := ⟨by rw [hw1]; exact below_drewN (Below.refl _ _) _⟩
        clear hw1
        have q0 := (XX.out.2.2.later HD.out).cell 0
        have q1 := (XX.out.2.2.later HD.out).cell 1
        have x0 := (XX.out.1.later HD.out).cell 0
        have x1 := (XX.out.1.later HD.out).cell 1
        have x2 := (XX.out.1.later HD.out).cell 2
        have x3 := (XX.out.1.later HD.out).cell 3
        have v1 := (XX.out.2.1.later HD.out).cell 1
        clear p0 p1 y0 y1 y2 y3 z1
        go_quiet (fail)
        all_goals go_wp2
        refine ⟨⟨bu, e'.tail, rfl, ⟨HU.out.1, HU.out.2.2.2.1, by rw [List.length_tail]; omega⟩, ⟨(BW.out.trans (Joins.below_le (below_drewN HD.out _) BW.out.size))⟩⟩, ?_⟩
        obtain ⟨q1, q2, q3, q4, q5, q6, q7⟩ := HU.out
        simp only [q1, q3]
        rw [List.length_tail]
        omega
    · have g1 : decide ((pl : Int) < (e'.length : Int) - 1) = false := decide_eq_false (by have := HE.out.2.2; omega)
      have el : pl + 1 = e'.length := by have := HE.out.2.2; omega
      have ev : envAt e ⟨pl, pi⟩ = (e'.headD []).getD pi 0 := by rw [← envAt_suffix HE.out.2.1 (by show pl < _; omega)]; exact envAt_top (by show pl + 1 = _; exact el)
      have hi : pi < (e'.headD []).length := by
        have h1 := HP.out
        obtain ⟨pre, rfl⟩ := HE.out.2.1
        unfold shE at h1
        rw [List.map_append, List.reverse_append, List.getD_eq_getElem?_getD, List.getElem?_append_left (by simp; omega), ← List.map_reverse, List.getElem?_map] at h1
        cases e' with
        | nil => simp at el
        | cons a r =>
          have : pl = r.length := by simpa using el
          rw [this] at h1
          simpa using h1
      have HEV := Hid.mk ev
      obtain ⟨ga, cap, rfl, hcap, PR'⟩ := id PR
      obtain ⟨g, off, bt, rfl, hgc, hbt⟩ := pRow.get R0 PR hi
      have XX := Hid.mk (And.intro XB XP)
      have hlt1 : (pi : Int) < ((e'.headD []).length : Int) := by omega
      have HT := Hid.mk hbt
      have HG := Hid.mk hgc
      have glt := World.block_lt_of_cell? _ _ hgc
      generalize (e'.headD []).getD pi 0 = tid at *
      generalize (e'.headD []).length = nn at *
      clear XB XP R0 PR PR' c1 c2 hu hf HE ev hbt
      go_wp2
      go_quiet (fail)
      all_goals go_wp2
      obtain ⟨w1, hw1⟩ : ∃ x, x = wr.drewN nq := ⟨_, rfl⟩
      rw [← hw1]
      have HD : Hid (Below wr.heap.size wr w1) := ⟨by rw [hw1]; exact below_drewN (Below.refl _ _) _⟩
      clear hw1
      have q0 := (XX.out.2.later HD.out).cell 0
      have q1 := (XX.out.2.later HD.out).cell 1
      have x0 := (XX.out.1.later HD.out).cell 0
      have hg1 := (HD.out.cell (p := ⟨g, off + pi, none⟩) glt).trans HG.out
      clear p0 p1 y0 y1 y2 y3 hgc
      go_quiet (fail)
      all_goals go_wp2
      go_ret
      exact ⟨⟨_, rfl, bt, rfl, by rw [HEV.out]; exact HT.out⟩, HK.out.trans (Joins.below_le (BW.out.trans (Joins.below_le (below_drewN HD.out _) BW.out.size)) HK.out.size)⟩
end
end Go.Proofs.YtbajpejnnfacbaaGreatDoor.Lz
