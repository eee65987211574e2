/- A region that draws its order, in a round of a range over a function: by a walk outside of all fences. -/
import Derived.RangeFuncCalls
import Derived.OrdersIn
import Derived.Deep.RegionHeld
namespace Go.Proofs.YtbdoekffadmejaaGreatDoor
open Go.RowKit
set_option linter.unusedVariables false

section
variable {P : Program} {ops : Array Oper} {l n : Nat}
theorem rows_round {row : String} {args : Array Value} {w : World} {R : Value → World → Prop} (h : Rows P row args w R) : RowsIn (Fence.wide.inRound l) n P row args w R :=
  fun c cs _ => let ⟨v, w', r, s⟩ := h c cs; ⟨v, w', r, stepsIn_wide.2 s⟩
theorem op_round {o : Oper} {Q Q' : Exit → Act → World → Prop} {K K' : Act → World → Prop} {a : Act} {w : World} (nd : ∀ c, o.op ≠ .defer c) (hp : ∀ c a w, ¬ Q' (.panic c) a w) (ho : ¬ LetsOut Q')
    (hK : ∀ a w, K a w → K' a w) (h : o.wp P a w K Q') : o.wpIn (Fence.wide.inRound l) n P a w K' Q := by
  unfold Oper.wp at h
  refine ⟨fun f _ => trivial, ?_⟩
  rw [Oper.semAt_eq _ _ _ nd]
  generalize (execOp a.eval o).run P w = r at *
  cases r with
  | ok x w' =>
    cases x with
    | value v => exact hK _ _ h
    | skip => exact hK _ _ h
    | defer d => exact hK _ _ h
    | enter f args =>
      refine ⟨fun e => (by cases e), ?_⟩
      refine CallsIn.inRound l (callsIn_wide.2 (Calls.mono h fun e w'' q => ?_))
      cases e with
      | returned v => exact hK _ _ q
      | panicked c => exact absurd q (hp _ _ _)
      | outgrown => exact absurd q ho
    | row row args => exact ⟨fun e => (by cases e), rows_round (fun c cs => let ⟨v, w', r, s⟩ := h c cs; ⟨v, w', hK _ _ r, s⟩)⟩
    | _ => exact h.elim
  | halt x w' =>
    cases x with
    | panic v => exact absurd h (hp _ _ _)
    | _ => exact h.elim
theorem any_round {md : Region.Mode} {Q Q' : Exit → Act → World → Prop} (nd : ∀ (j : Nat) (o : Oper), ops[j]? = some o → ∀ c, o.op ≠ .defer c) (hn : ∀ a w, Q' .normal a w → Q .normal a w) (hp : ∀ c a w, ¬ Q' (.panic c) a w) (ho : ¬ LetsOut Q') :
    ∀ (fuel : Nat) (listed : Array Bool) (a : Act) (w : World), wpAny P md ops Q' fuel listed a w → wpAnyIn (Fence.wide.inRound l) n P md ops Q fuel listed a w
  | 0, _, _, _, h => ⟨h.1, hn _ _ h.2⟩
  | fuel + 1, _, a, w, h => by
    refine ⟨fun e => hn _ _ (h.1 e), fun i hi => ?_⟩
    have k := h.2 i hi
    unfold wpOp at k
    unfold wpOpIn
    cases e : ops[i]? with
    | none =>
      simp only [e] at k
      exact any_round nd hn hp ho fuel _ _ _ k
    | some o =>
      simp only [e] at k
      by_cases hw : Region.wanted o (yielded ops a.tmps) = true
      · simp only [hw, if_true] at k ⊢
        rcases k with k | k
        · exact op_round (nd i o e) hp ho (fun a w q => any_round nd hn hp ho fuel _ _ _ q) k
        · exact absurd k.2 ho
      · simp only [hw] at k ⊢
        exact ⟨fun f _ => trivial, any_round nd hn hp ho fuel _ _ _ k⟩
/-- the goal behind such a region -/
def OnlyN (Q : Exit → Act → World → Prop) : Exit → Act → World → Prop := fun e a w => e = .normal ∧ Q .normal a w
theorem region_round {id : Nat} {Q : Exit → Act → World → Prop} {a : Act} {w : World} (S : World → Prop) (hm : P.follows .mixedOrders = true) (nd : ∀ (j : Nat) (o : Oper), ops[j]? = some o → ∀ c, o.op ≠ .defer c) (hS : S w.drew)
    (h : S w.drew → wpAnyH P .any ops (OnlyN Q) S ops.size (Array.replicate ops.size false) a w.drew) : (Code.region id ops true).wpIn (Fence.wide.inRound l) n P Q a w :=
  wpIn_region_any hm (any_round (Q' := OnlyN Q) nd (fun _ _ h => h.2) (fun c a w h => by cases h.1) (fun ⟨a, w, h⟩ => by cases h.1) _ _ _ _ (wpAny_of_held _ _ _ _ (h hS)))
end
/-- no operation defers a call -/
def noDefer (ops : Array Oper) : Bool := ops.all fun o => match o.op with | .defer _ => false | _ => true
theorem nd_of {ops : Array Oper} (h : noDefer ops = true) : ∀ (j : Nat) (o : Oper), ops[j]? = some o → ∀ c, o.op ≠ .defer c := by
  intro j o e c q
  have := Array.all_eq_true_iff_forall_mem.1 h o (Array.mem_of_getElem? e)
  rw [q] at this
  cases this
end Go.Proofs.YtbdoekffadmejaaGreatDoor
