/- How great a program is: its names and letters; numbers of 64 bits. -/
import Derived.Test.YtcbdolflgpmaoaaDoorTree
namespace Go.Proofs.YtcbdolflgpmaoaaDoor
set_option linter.unusedVariables false

def In64 (a : Int) : Prop := -9223372036854775808 ≤ a ∧ a ≤ 9223372036854775807
def wtN : List (List UInt8) → Nat
  | [] => 0
  | s :: r => 1 + s.length + wtN r
def wtT : List Atm → Nat
  | [] => 0
  | a :: r => 1 + a.name.length + wtT r
mutual
def wtE : E → Nat
  | .mk _ _ n _ ts bs ks az => 4 + n.length + wtT ts + wtBs bs + wtEs ks + wtAs az
def wtB : B → Nat
  | .mk n _ az x => 5 + n.length + wtN az + wtE x
def wtA : A → Nat
  | .mk _ _ n _ vs x => 4 + n.length + wtN vs + wtE x
def wtEs : List E → Nat
  | [] => 0
  | x :: r => wtE x + wtEs r
def wtBs : List B → Nat
  | [] => 0
  | x :: r => wtB x + wtBs r
def wtAs : List A → Nat
  | [] => 0
  | x :: r => wtA x + wtAs r
end
def wtD (d : D) : Nat := 4 + d.name.length
def wtDs : List D → Nat
  | [] => 0
  | d :: r => wtD d + wtDs r
def wtP (p : Pg) : Nat := wtDs p.datas + wtBs p.binds
mutual
def finE : E → Prop
  | .mk _ _ _ m ts bs ks az => In64 m ∧ (∀ a ∈ ts, In64 a.num) ∧ finBs bs ∧ finEs ks ∧ finAs az
def finB : B → Prop
  | .mk _ _ _ x => finE x
def finA : A → Prop
  | .mk k _ _ m _ x => In64 k ∧ In64 m ∧ finE x
def finEs : List E → Prop
  | [] => True
  | x :: r => finE x ∧ finEs r
def finBs : List B → Prop
  | [] => True
  | x :: r => finB x ∧ finBs r
def finAs : List A → Prop
  | [] => True
  | x :: r => finA x ∧ finAs r
end
def finP (p : Pg) : Prop := (∀ d ∈ p.datas, In64 d.arity) ∧ finBs p.binds
end Go.Proofs.YtcbdolflgpmaoaaDoor
