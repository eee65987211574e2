/- A record of a call (five numbers) and a slice of such records, opened. -/
import Derived.Test.YtldcjbdhcciieaaFrame
import Derived.Deep.Slices
namespace Go.Proofs.Ytldcjbdhcciieaa
open Go.ChangeShapes Go.WideShapes Go.ChangeAt Go.RowKit
set_option linter.unusedVariables false

/-- A record's five cells. -/
def actCells (k0 k1 k2 k3 k4 : Int) : List Value := [.int .i64 k0, .int .i64 k1, .int .i64 k2, .int .i64 k3, .int .u64 k4]
def In64 (a : Int) : Prop := -9223372036854775808 ≤ a ∧ a ≤ 9223372036854775807
def InU64 (a : Int) : Prop := 0 ≤ a ∧ a ≤ 18446744073709551615

section
variable {H : Type} {enc : TypeId × Value → H} {w : World} {base : Nat} {spare : Nat → Bool} {held : Bool}
theorem act_fields {fuel : Nat} {cs : List Value} {x : DataW H × List MemPlace} (h : DataW.trod enc Try.prog w base spare held fuel 34 cs = some x) :
    ∃ k0 k1 k2 k3 k4 : Int, cs = actCells k0 k1 k2 k3 k4 ∧ In64 k0 ∧ In64 k1 ∧ In64 k2 ∧ In64 k3 ∧ InU64 k4 := by
  obtain ⟨xs, n, _, rfl, hl, hlen, hf⟩ := DataW.trod_struct Try.underlying34 h
  have c34 : Try.prog.cellsOf 34 = 5 := by kernel_rfl
  have c3 : Try.prog.cellsOf 3 = 1 := by kernel_rfl
  have c32 : Try.prog.cellsOf 32 = 1 := by kernel_rfl
  rw [c34] at hl
  match cs, hl, xs, hlen with
  | [v0, v1, v2, v3, v4], _, [x0, x1, x2, x3, x4], _ =>
    have f0 := hf 0 _ rfl
    have f1 := hf 1 _ rfl
    have f2 := hf 2 _ rfl
    have f3 := hf 3 _ rfl
    have f4 := hf 4 _ rfl
    simp [c3, c32] at f0 f1 f2 f3 f4
    obtain ⟨k0, e0, _, w0⟩ := DataW.trod_int Try.underlying3 f0
    obtain ⟨k1, e1, _, w1⟩ := DataW.trod_int Try.underlying3 f1
    obtain ⟨k2, e2, _, w2⟩ := DataW.trod_int Try.underlying3 f2
    obtain ⟨k3, e3, _, w3⟩ := DataW.trod_int Try.underlying3 f3
    obtain ⟨k4, e4, _, w4⟩ := DataW.trod_int Try.underlying32 f4
    simp only [List.cons.injEq, and_true] at e0 e1 e2 e3 e4
    subst e0 e1 e2 e3 e4
    exact ⟨k0, k1, k2, k3, k4, rfl, Ytldcjbdhcciieaa.bounds_i64 w0, Ytldcjbdhcciieaa.bounds_i64 w1, Ytldcjbdhcciieaa.bounds_i64 w2, Ytldcjbdhcciieaa.bounds_i64 w3, Ytldcjbdhcciieaa.bounds_u64 w4⟩
theorem open_act {r : Reach} {b0 : Nat} {v : Value} {d : DataW H} {p : List MemPlace} (hv : Value.okWide Try.prog w r b0 34 v) (h : DataW.Trod enc Try.prog w base spare held 34 v d p) :
    ∃ k0 k1 k2 k3 k4 : Int, v = .agg (actCells k0 k1 k2 k3 k4).toArray ∧ In64 k0 ∧ In64 k1 ∧ In64 k2 ∧ In64 k3 ∧ InU64 k4 := by
  obtain ⟨cs, rfl, hsz⟩ := okWide_struct Try.underlying34 hv
  obtain ⟨fuel, hf⟩ := h
  obtain ⟨k0, k1, k2, k3, k4, e, b0, b1, b2, b3, b4⟩ := act_fields hf
  have c34 : Try.prog.cellsOf 34 = 5 := by kernel_rfl
  have e5 : cs.toList.length = 5 := by rw [Array.length_toList, hsz, c34]
  obtain ⟨l⟩ := cs
  match l, e5 with
  | [v0, v1, v2, v3, v4], _ =>
    simp [Value.cells] at e
    exact ⟨k0, k1, k2, k3, k4, congrArg (fun l => Value.agg ⟨l⟩) e, b0, b1, b2, b3, b4⟩
end
end Go.Proofs.Ytldcjbdhcciieaa
