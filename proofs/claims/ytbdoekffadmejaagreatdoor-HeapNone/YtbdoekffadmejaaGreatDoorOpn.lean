/- An act that came in, opened. -/
import Derived.Test.YtbdoekffadmejaaGreatDoorLaid
import Derived.OpenShut
import Derived.ChangeOld
import Derived.Deep.Slices
namespace Go.Proofs.YtbdoekffadmejaaGreatDoor
open Go.ChangeShapes Go.WideShapes Go.ChangeAt Go.RowKit
set_option linter.unusedVariables false
set_option linter.unusedSimpArgs false
set_option maxRecDepth 100000

theorem c3 : Tryz.prog.cellsOf 3 = 1 := by kernel_rfl
theorem c30 : Tryz.prog.cellsOf 30 = 4 := by kernel_rfl
theorem c31 : Tryz.prog.cellsOf 31 = 1 := by kernel_rfl
theorem c32 : Tryz.prog.cellsOf 32 = 1 := by kernel_rfl
theorem c34 : Tryz.prog.cellsOf 34 = 10 := by kernel_rfl
section
variable {H : Type} {enc : TypeId × Value → H} {w : World} {spare : Nat → Bool} {held : Bool}
theorem op_hd {fuel : Nat} {cs : List Value} {x : DataW H × List MemPlace} (h : DataW.trod enc Tryz.prog w 0 spare held fuel 30 cs = some x) : ∃ a b c d : Int, cs = [.int .i64 a, .int .i64 b, .int .i64 c, .int .i64 d] := by
  obtain ⟨xs, n, _, rfl, hl, hlen, hf⟩ := DataW.trod_struct Tryz.underlying30 h
  rw [c30] at hl
  match cs, hl, xs, hlen with
  | [v0, v1, v2, v3], _, [x0, x1, x2, x3], _ =>
    have f0 := hf 0 _ rfl
    have f1 := hf 1 _ rfl
    have f2 := hf 2 _ rfl
    have f3 := hf 3 _ rfl
    simp [c3] at f0 f1 f2 f3
    obtain ⟨k0, e0, y0, w0⟩ := DataW.trod_int Tryz.underlying3 f0
    obtain ⟨k1, e1, y1, w1⟩ := DataW.trod_int Tryz.underlying3 f1
    obtain ⟨k2, e2, y2, w2⟩ := DataW.trod_int Tryz.underlying3 f2
    obtain ⟨k3, e3, y3, w3⟩ := DataW.trod_int Tryz.underlying3 f3
    simp only [List.cons.injEq, and_true] at e0 e1 e2 e3
    subst e0 e1 e2 e3
    exact ⟨k0, k1, k2, k3, rfl⟩
theorem op_sl {fuel : Nat} {t e : TypeId} {cs : List Value} {x : DataW H × List MemPlace} (ht : Tryz.prog.underlying t = some (.slice e)) (h : DataW.trod enc Tryz.prog w 0 spare held fuel t cs = some x) : ∃ a n c, cs = [.slice a n c] := by
  rcases DataW.trod_slice ht h with ⟨e, _⟩ | ⟨a, n, c, _, _, _, _, e, _⟩
  · exact ⟨_, _, _, e⟩
  · exact ⟨_, _, _, e⟩
theorem open_act {v : Value} {d : DataW H} {p : List MemPlace} (h : DataW.Trod enc Tryz.prog w 0 spare held 34 v d p) : ∃ (k a i p x1 x2 x3 x4 : Int) (ga : Option Addr) (n1 c1 : Nat) (gb : Option Addr) (n2 c2 : Nat),
    v = .agg #[.int .i64 k, .int .i64 a, .int .i64 i, .int .i64 p, .int .i64 x1, .int .i64 x2, .int .i64 x3, .int .i64 x4, .slice ga n1 c1, .slice gb n2 c2] := by
  obtain ⟨fuel, hf⟩ := h
  have e : ∃ (k a i p x1 x2 x3 x4 : Int) (ga : Option Addr) (n1 c1 : Nat) (gb : Option Addr) (n2 c2 : Nat), v.cells.toList = [.int .i64 k, .int .i64 a, .int .i64 i, .int .i64 p, .int .i64 x1, .int .i64 x2, .int .i64 x3, .int .i64 x4, .slice ga n1 c1, .slice gb n2 c2] := by
    obtain ⟨xs, n, _, _, hl, hlen, hf⟩ := DataW.trod_struct Tryz.underlying34 hf
    rw [c34] at hl
    generalize v.cells.toList = cs at *
    match cs, hl, xs, hlen with
    | [v0, v1, v2, v3, v4, v5, v6, v7, v8, v9], _, [x0, x1, x2, x3, x4, x5, x6], _ =>
      have f0 := hf 0 _ rfl
      have f1 := hf 1 _ rfl
      have f2 := hf 2 _ rfl
      have f3 := hf 3 _ rfl
      have f4 := hf 4 _ rfl
      have f5 := hf 5 _ rfl
      have f6 := hf 6 _ rfl
      simp [c3, c30, c31, c32] at f0 f1 f2 f3 f4 f5 f6
      obtain ⟨k0, e0, y0, w0⟩ := DataW.trod_int Tryz.underlying3 f0
      obtain ⟨k1, e1, y1, w1⟩ := DataW.trod_int Tryz.underlying3 f1
      obtain ⟨k2, e2, y2, w2⟩ := DataW.trod_int Tryz.underlying3 f2
      obtain ⟨k3, e3, y3, w3⟩ := DataW.trod_int Tryz.underlying3 f3
      obtain ⟨a, b, c, d, e4⟩ := op_hd f4
      obtain ⟨ga, n1, c1, e5⟩ := op_sl Tryz.underlying31 f5
      obtain ⟨gb, n2, c2, e6⟩ := op_sl Tryz.underlying32 f6
      simp only [List.cons.injEq, and_true] at e0 e1 e2 e3 e4 e5 e6
      obtain ⟨rfl, rfl, rfl, rfl⟩ := e4
      subst e0 e1 e2 e3 e5 e6
      exact ⟨_, _, _, _, _, _, _, _, _, _, _, _, _, _, rfl⟩
  obtain ⟨k, a, i, p, x1, x2, x3, x4, ga, n1, c1, gb, n2, c2, e⟩ := e
  refine ⟨k, a, i, p, x1, x2, x3, x4, ga, n1, c1, gb, n2, c2, ?_⟩
  cases v with
  | agg cs =>
    obtain ⟨l⟩ := cs
    simp only [Value.cells] at e
    rw [e]
  | _ => simp [Value.cells] at e
end
end Go.Proofs.YtbdoekffadmejaaGreatDoor
