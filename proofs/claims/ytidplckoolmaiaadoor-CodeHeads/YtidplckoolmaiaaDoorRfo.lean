/- The document's own check: an instruction, and a code. -/
import Derived.Test.YtidplckoolmaiaaDoorRff
import Derived.Test.YtidplckoolmaiaaDoorRfj
import Derived.Test.YtidplckoolmaiaaDoorRfk
import Derived.Test.YtidplckoolmaiaaDoorRfl
import Derived.Test.YtidplckoolmaiaaDoorRfn
import Derived.Deep.Cut
namespace Go.Proofs.YtidplckoolmaiaaDoor
open Go.RowKit
set_option linter.unusedVariables false
set_option linter.unusedSimpArgs false

section
variable {w : World} {c : Cd} {vc vg vi vn : Value}
theorem rinsn_any (V : Cv w c vc vg vi vn) (z : Nat) (hz : z < c.ins.length) : Calls Tryd.prog 16 #[.agg #[vc, vg, vi, vn], .int .i64 z] w fun e w' => ∃ r, e = .returned (.int .i64 r) ∧ (r = 0 → (c.ins[z]'hz).op = 1 → ∀ m ∈ (c.ins[z]'hz).ms, cloB m.k = true ∧ LetOk c m) ∧ Below w.heap.size w w' := by
  by_cases o1 : (c.ins[z]'hz).op = 1
  · exact (insn_1 V z hz o1).mono fun e w' ⟨r, he, hr, hb⟩ => ⟨r, he, fun h _ => hr h, hb⟩
  have K : Calls Tryd.prog 16 #[.agg #[vc, vg, vi, vn], .int .i64 z] w fun e w' => ∃ r, e = .returned (.int .i64 r) ∧ Below w.heap.size w w' := by
    by_cases o2 : (c.ins[z]'hz).op = 2
    · exact insn_2 V z hz o2
    by_cases o3 : (c.ins[z]'hz).op = 3
    · exact insn_3 V z hz o3
    by_cases o4 : (c.ins[z]'hz).op = 4
    · exact insn_4 V z hz o4
    by_cases o5 : (c.ins[z]'hz).op = 5
    · exact insn_5 V z hz o5
    by_cases o6 : (c.ins[z]'hz).op = 6
    · exact insn_6 V z hz o6
    exact insn_0 V z hz o1 o2 o3 o4 o5 o6
  exact K.mono fun e w' ⟨r, he, hb⟩ => ⟨r, he, fun _ h => absurd h o1, hb⟩
theorem rcheck_any (V : Cv w c vc vg vi vn) : Calls Tryd.prog 8 #[.agg #[vc, vg, vi, vn]] w fun e w' => ∃ z r, e = .returned (.tuple #[.int .i64 z, .int .i64 r]) ∧ (r = 0 → RcOk c) ∧ Below w.heap.size w w' :=
  rcheck_of V fun W hW z hz => rinsn_any (V.later hW) z hz
end
end Go.Proofs.YtidplckoolmaiaaDoor
