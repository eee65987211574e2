/- A list of uint16 that came in. -/
import Derived.Test.YtncimddgkgclpaaOpb
namespace Go.Proofs.Ytncimddgkgclpaa
open Go.RowKit
set_option linter.unusedVariables false
set_option linter.unusedSimpArgs false

theorem cl38 : Try.prog.cellsOf 38 = 1 := by kernel_rfl
def InU16 (a : Int) : Prop := 0 ≤ a ∧ a ≤ 65535
theorem bounds_u16z {a : Int} (h : (Lit.int .u16 a).wf = true) : InU16 a := by simpa [InU16, Lit.wf, IntKind.min, IntKind.max, IntKind.signed, IntKind.bits] using h
section
variable {H : Type} {enc : TypeId × Value → H} {w : World} {spare : Nat → Bool} {held : Bool}
theorem open_u16s {a : Option Addr} {len cap : Nat} {d : DataW H} {p : List MemPlace} (h : DataW.Trod enc Try.prog w 0 spare held 37 (.slice a len cap) d p) : ∃ (l : List Int) (o : Option Addr) (c : Nat), Value.slice a len cap = .slice o l.length c ∧ PS .u16 w o c l ∧ ∀ n, n ∈ l → 0 ≤ n ∧ n ≤ 65535 := by
  obtain ⟨fuel, hf⟩ := h
  obtain ⟨l, v, e, L⟩ := open_lst 0 Try.underlying37 cl38 (by decide) (isInt .u16 InU16) (fun _ _ _ h => by obtain ⟨n, rfl, _, q⟩ := DataW.trod_int Try.underlying38 h; exact ⟨n, rfl, bounds_u16z q⟩) hf
  obtain ⟨o, c, rfl, P, q⟩ := ps_of_lst L
  have e' : Value.slice a len cap = .slice o l.length c := by simpa [Value.cells] using e
  exact ⟨l, o, c, e', P, q⟩
end
end Go.Proofs.Ytncimddgkgclpaa
