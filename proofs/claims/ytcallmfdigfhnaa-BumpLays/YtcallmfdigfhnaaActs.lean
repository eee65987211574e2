/- What every statement's frame needs: the integers' bounds, a slice of records of two numbers and a bool opened. -/
import Derived.Test.YtcallmfdigfhnaaRows
import Derived.Test.YtcallmfdigfhnaaBph
import Derived.ProofKit
import Derived.OpenShut
import Derived.ChangeOld
import Derived.Below
import Derived.Deep.Slices
namespace Go.Proofs.Ytcallmfdigfhnaa
open Go.ChangeShapes Go.WideShapes Go.ChangeAt Go.RowKit
set_option linter.unusedVariables false

theorem own : ownKnob Try.prog.godebug = none := by kernel_rfl
theorem laidOut : laidOutB Try.prog = true := by kernel_rfl
theorem bounds_i64 {a : Int} (h : (Lit.int .i64 a).wf = true) : -9223372036854775808 ≤ a ∧ a ≤ 9223372036854775807 := by simpa [Lit.wf, IntKind.min, IntKind.max, IntKind.signed, IntKind.bits] using h
theorem bounds_u8 {a : Int} (h : (Lit.int .u8 a).wf = true) : 0 ≤ a ∧ a ≤ 255 := by simpa [Lit.wf, IntKind.min, IntKind.max, IntKind.signed, IntKind.bits] using h
theorem bounds_u16 {a : Int} (h : (Lit.int .u16 a).wf = true) : 0 ≤ a ∧ a ≤ 65535 := by simpa [Lit.wf, IntKind.min, IntKind.max, IntKind.signed, IntKind.bits] using h
def In64 (a : Int) : Prop := -9223372036854775808 ≤ a ∧ a ≤ 9223372036854775807

/-- What the walk is told of a slice of records that came in: element i's three cells, and that its places fit. -/
def IsActs (w : World) (a : Option Addr) (len : Nat) : Prop :=
  len ≤ maxLen ∧ ∀ i, i < len → ∃ (B O : Nat) (k0 k1 : Int) (b : Bool), a = some ⟨B, O, none⟩ ∧ w.cell? ⟨B, O + i * 3, none⟩ = some (.int .i64 k0) ∧ w.cell? ⟨B, O + i * 3 + 1, none⟩ = some (.int .i64 k1) ∧ w.cell? ⟨B, O + i * 3 + 2, none⟩ = some (.bool b) ∧ In64 k0 ∧ In64 k1
theorem add_add (B O i j : Nat) : ((⟨B, O, none⟩ : Addr).add i).add j = ⟨B, O + i + j, none⟩ := by
  unfold Addr.add
  split <;> split <;> simp_all
section
variable {H : Type} {enc : TypeId × Value → H} {w : World} {base : Nat} {spare : Nat → Bool} {held : Bool}
theorem act_fields {fuel : Nat} {cs : List Value} {x : DataW H × List MemPlace} (h : DataW.trod enc Try.prog w base spare held fuel 29 cs = some x) :
    ∃ (k0 k1 : Int) (b : Bool), cs = [.int .i64 k0, .int .i64 k1, .bool b] ∧ In64 k0 ∧ In64 k1 := by
  obtain ⟨xs, n, _, rfl, hl, hlen, hf⟩ := DataW.trod_struct Try.underlying29 h
  have c29 : Try.prog.cellsOf 29 = 3 := by kernel_rfl
  have c3 : Try.prog.cellsOf 3 = 1 := by kernel_rfl
  have c4 : Try.prog.cellsOf 4 = 1 := by kernel_rfl
  rw [c29] at hl
  match cs, hl, xs, hlen with
  | [v0, v1, v2], _, [x0, x1, x2], _ =>
    have f0 := hf 0 _ rfl
    have f1 := hf 1 _ rfl
    have f2 := hf 2 _ rfl
    simp [c3, c4] at f0 f1 f2
    obtain ⟨k0, e0, _, w0⟩ := DataW.trod_int Try.underlying3 f0
    obtain ⟨k1, e1, _, w1⟩ := DataW.trod_int Try.underlying3 f1
    obtain ⟨b, e2, _⟩ := DataW.trod_bool Try.underlying4 f2
    simp only [List.cons.injEq, and_true] at e0 e1 e2
    subst e0 e1 e2
    exact ⟨k0, k1, b, rfl, bounds_i64 w0, bounds_i64 w1⟩
theorem open_acts {a : Option Addr} {len cap : Nat} {d : DataW H} {p : List MemPlace} (h : DataW.Trod enc Try.prog w base spare held 23 (.slice a len cap) d p) : IsActs w a len := by
  have c29 : Try.prog.cellsOf 29 = 3 := by kernel_rfl
  obtain ⟨fuel, hf⟩ := h
  rcases Deep.open_slice Try.underlying23 hf with ⟨hcs, _⟩ | ⟨x, l, c, m, n, D, Pl, hcs, _, hl, hm, hmm, _, hx⟩
  · simp [Value.cells] at hcs
    obtain ⟨rfl, rfl, rfl⟩ := hcs
    exact ⟨Nat.zero_le _, fun i hi => absurd hi (Nat.not_lt_zero _)⟩
  · simp [Value.cells] at hcs
    obtain ⟨rfl, rfl, rfl⟩ := hcs
    refine ⟨Nat.le_trans hl hm, fun i hi => ?_⟩
    rw [c29] at hx
    have hlm : len ≤ m := by rw [hmm]; split <;> omega
    obtain ⟨B, O, spot⟩ := x
    have hs : spot = none := by
      obtain ⟨cs0, hc0, ht0⟩ := hx 0 (by omega)
      obtain ⟨k0, k1, b, rfl, _⟩ := act_fields ht0
      obtain ⟨_, _, hcell⟩ := World.cells?_some hc0
      have := hcell 0 (by omega)
      simp [Addr.add] at this
      simpa using World.cell?_spot this
    subst hs
    obtain ⟨cs', hc, ht⟩ := hx i (by omega)
    obtain ⟨k0, k1, b, rfl, b0, b1⟩ := act_fields ht
    obtain ⟨_, hlen, hcell⟩ := World.cells?_some hc
    have g0 := hcell 0 (by omega)
    have g1 := hcell 1 (by omega)
    have g2 := hcell 2 (by omega)
    rw [add_add] at g0 g1 g2
    exact ⟨B, O, k0, k1, b, rfl, by simpa using g0, by simpa using g1, by simpa using g2, b0, b1⟩
end
theorem old_cells {w wr : World} {B o : Nat} {v : Value} (h : w.cell? ⟨B, o, none⟩ = some v) (hb : Below w.heap.size w wr) : wr.cell? ⟨B, o, none⟩ = some v :=
  (hb.cell (p := ⟨B, o, none⟩) (World.block_lt_of_cell? _ _ h)).trans h
end Go.Proofs.Ytcallmfdigfhnaa
