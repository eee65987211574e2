/- Package tree's Size: what stands next in an expression: the plain side; append of nothing; the first of a list. -/
import Derived.Test.YtoedeedoecdajaaDoorLets
import Derived.Test.YtoedeedoecdajaaDoorCases
import Derived.Test.YtoedeedoecdajaaDoorTreeSame
import Derived.Laws.AppendOwnNone
namespace Go.Proofs.YtoedeedoecdajaaDoor
open Go.RowKit
set_option linter.unusedVariables false
set_option linter.unusedSimpArgs false

def bodyB : B → E
  | .mk _ _ _ x => x
def bodyA : A → E
  | .mk _ _ _ _ _ x => x
def kindA : A → Int
  | .mk k _ _ _ _ _ => k
def goodA (a : A) : Bool := decide (kindA a = 1 ∨ kindA a = 2 ∨ kindA a = 3)
def withinE : E → List E
  | .mk k _ _ _ _ bs ks al => if k = 5 then bs.map bodyB ++ ks.take 1 else if k = 6 then ks.take 1 ++ (al.filter goodA).map bodyA else []
def sumC (l : List E) : Nat := (l.map cntE).sum
theorem sumC_cons (x : E) (l : List E) : sumC (x :: l) = cntE x + sumC l := by simp [sumC]
theorem sumC_app (a b : List E) : sumC (a ++ b) = sumC a + sumC b := by simp [sumC]
theorem cnt_bs : ∀ bs : List B, cntBs bs = sumC (bs.map bodyB)
  | [] => by simp [cntBs, sumC]
  | .mk n a al x :: r => by simp only [cntBs, cntB, List.map_cons, sumC_cons, cnt_bs r, bodyB]
theorem cnt_ks : ∀ ks : List E, cntK ks = sumC (ks.take 1)
  | [] => by simp [cntK, sumC]
  | x :: r => by simp [cntK, sumC]
theorem cnt_as : ∀ al : List A, cntAs al = sumC ((al.filter goodA).map bodyA)
  | [] => by simp [cntAs, sumC]
  | .mk k a n m vs x :: r => by
    simp only [cntAs, cntA, cnt_as r]
    by_cases h : k = 1 ∨ k = 2 ∨ k = 3
    · rw [if_pos h, List.filter_cons_of_pos (by simp [goodA, kindA, h]), List.map_cons, sumC_cons]
      rfl
    · have hg : ¬ goodA (A.mk k a n m vs x) = true := fun z => h (of_decide_eq_true z)
      rw [if_neg h, List.filter_cons_of_neg hg, Nat.zero_add]
theorem cnt_within (x : E) : cntE x = 1 + sumC (withinE x) := by
  obtain ⟨k, a, n, m, ts, bs, ks, al⟩ := x
  simp only [cntE, withinE, cnt_bs, cnt_ks, cnt_as]
  by_cases h5 : k = 5
  · subst h5
    simp [sumC_app, Nat.add_assoc]
  · by_cases h6 : k = 6
    · subst h6
      simp [sumC_app, Nat.add_assoc]
    · simp [h5, h6, sumC]
theorem sumC_mem {x : E} : ∀ {l : List E}, x ∈ l → cntE x ≤ sumC l
  | y :: r, h => by
    rw [sumC_cons]
    rcases List.mem_cons.1 h with rfl | h
    · omega
    · have := sumC_mem h; omega
theorem within_less {x y : E} (h : y ∈ withinE x) : cntE y < cntE x := by
  rw [cnt_within x]
  have := sumC_mem h
  omega

theorem run_append_zero {P : Program} (w : World) (t ty e : TypeId) (i : TypeInfo) (ht : P.underlying t = some (.slice e)) (hi : P.info? e = some i) (base : Option Addr) (sLen sCap : Nat) (hle : sLen ≤ sCap) (ga : Option Addr) (cap : Nat) :
    (Builtin.append_ #[t, t] ty #[.slice base sLen sCap, .slice ga 0 cap]).run P w = .ok (.slice base sLen sCap) w := by
  cases ga <;> cases base <;> simp [Builtin.append_, run_underlying ht, sizeOf, typeInfo, hi, hle, storeCells, Builtin.lenOf, Builtin.firstCells, loadCells, go_sem]
theorem wpList_append_zero {P : Program} {w : World} {ops : Array Oper} {rest : List Oper} {o : Oper} {a : Act} {Q : Exit → Act → World → Prop} (hgd : o.guard = none) (s x : Operand) (t : TypeId)
    (ho : o.op = .call { callee := .builtin .append, args := #[s, x], argTypes := #[t, t] })
    (e : TypeId) (i : TypeInfo) (ht : P.underlying t = some (.slice e)) (hi : P.info? e = some i)
    (base : Option Addr) (sLen sCap : Nat) (hs : a.eval s = .slice base sLen sCap) (hle : sLen ≤ sCap) (ga : Option Addr) (cap : Nat) (hx : a.eval x = .slice ga 0 cap)
    (h : wpList P ops Q rest (a.put o.dst (.slice base sLen sCap)) w) : wpList P ops Q (o :: rest) a w := by
  refine wpList_plain hgd fun K hK => ?_
  have hrun := run_append_zero (P := P) w t o.type e i ht hi base sLen sCap hle ga cap
  unfold Oper.wp
  simp [execOp, ho, resolve, invoke, builtin, hs, hx, hrun, Result.andThen]
  exact hK _ _ h

theorem first_any (w : World) (ga : Option Addr) (n cap : Nat) (hn : n ≤ cap) : Calls Tryd.prog 51 #[.slice ga n cap] w fun e w' => e = .returned (.slice ga (min 1 n) cap) ∧ w' = w := by
  cases n with
  | zero =>
    go_enter Tryd.func51, Tryd.ntmps51
    go_wp2
    go_ret
    exact ⟨rfl, rfl⟩
  | succ n =>
    go_enter Tryd.func51, Tryd.ntmps51
    go_wp2
    go_ret
    refine ⟨?_, rfl⟩
    rw [show (min 1 ((n : Int) + 1)).toNat = min 1 (n + 1) by omega]
    rfl
def szI (n : Nat) : Int := IntKind.i64.wrap n
theorem szI_add (a b : Nat) : IntKind.i64.wrap (szI a + szI b) = szI (a + b) := by
  unfold szI
  simp only [IntKind.wrap_i64]
  omega
theorem szI_small (a : Nat) (h : a ≤ 9223372036854775807) : szI a = a := by
  unfold szI
  simp only [IntKind.wrap_i64]
  omega
def anyB : Nat → Prop := fun _ => True
theorem row_cell {w : World} {ok : Nat → Prop} {xs : List Value} {n : Nat} {ga : Option Addr} {cap : Nat} (h : IsRow w ok xs n (.slice ga n cap)) (hn : 0 < n) :
    ∃ g off, ga = some ⟨g, off, none⟩ ∧ ∀ j u, xs[j]? = some u → w.cell? ⟨g, off + j, none⟩ = some u := by
  obtain ⟨ga', cap', e, _, h⟩ := h
  cases e
  obtain ⟨g, off, rfl, _, hx⟩ := h hn
  exact ⟨g, off, rfl, hx⟩
theorem row_parts {w : World} {ok : Nat → Prop} {xs : List Value} {n : Nat} {v : Value} (h : IsRow w ok xs n v) : ∃ ga cap, v = .slice ga n cap ∧ n ≤ cap ∧ n ≤ 1000000000 := by
  obtain ⟨ga, cap, e, ⟨a, b⟩, _⟩ := h
  exact ⟨ga, cap, e, a, b⟩

end Go.Proofs.YtoedeedoecdajaaDoor
