/- A nil machine does nothing: the law's walk; a call that came in, opened. -/
import Derived.Test.YtbajpejnnfacbaaGreatDoorLxa
import Derived.Test.YtbajpejnnfacbaaGreatDoorLaid
import Derived.OpenShut
import Derived.ChangeOld
import Derived.Deep.Slices
namespace Go.Proofs.YtbajpejnnfacbaaGreatDoor.Lz
open Go.ChangeShapes Go.WideShapes Go.ChangeAt Go.RowKit
set_option linter.unusedVariables false
set_option linter.unusedSimpArgs false

abbrev nil6 : Array Value := #[.int .i64 0, .int .i64 0, .int .i64 0, .string ⟨#[]⟩, .int .i64 0, .slice none 0 0]
set_option maxRecDepth 100000 in
set_option maxHeartbeats 4000000 in
theorem none_any (w : World) (T : Table w) (a0 a1 a2 a3 : Int) (s : ByteArray) (ga : Option Addr) (m cap : Nat) :
    Calls Tryz.prog 6 #[.agg #[.int .i64 a0, .int .i64 a1, .int .i64 a2, .int .i64 a3, .string s, .slice ga m cap]] w fun e w' => e = .returned (.bool true) ∧ Below w.heap.size w w' := by
  obtain ⟨W1, hW1⟩ : ∃ W1, W1 = w.alloc (.cells #[.int .i64 a0, .int .i64 a1, .int .i64 a2, .int .i64 a3, .string s, .slice ga m cap] 28) := ⟨_, rfl⟩
  have B1 : Below w.heap.size w W1 := by subst hW1; exact Joins.below_alloc1 _ _
  have c1 : W1.cell? ⟨w.heap.size, 1, none⟩ = some (.int .i64 a1) := by subst hW1; exact cellN _ _ _ _ _ rfl
  have c2 : W1.cell? ⟨w.heap.size, 2, none⟩ = some (.int .i64 a2) := by subst hW1; exact cellN _ _ _ _ _ rfl
  have c3 : W1.cell? ⟨w.heap.size, 3, none⟩ = some (.int .i64 a3) := by subst hW1; exact cellN _ _ _ _ _ rfl
  have c4 : W1.cell? ⟨w.heap.size, 4, none⟩ = some (.string s) := by subst hW1; exact cellN _ _ _ _ _ rfl
  have c5 : W1.cell? ⟨w.heap.size, 5, none⟩ = some (.slice ga m cap) := by subst hW1; exact cellN _ _ _ _ _ rfl
  have HT : Hid (∀ W, Below W1.heap.size W1 W → Table W) := ⟨fun W hW => T.later (lOn B1 hW)⟩
  have HB1 := Hid.mk B1
  clear T B1
  go_enter Tryz.func6, Tryz.ntmps6
  go_upto_region 1 with fail
  rw [← hW1]
  clear hW1
  go_wp2_with (first
    | (go_at_call 18; refine (make_none _ _ _ _ _).mono ?_; rintro r w9 ⟨rfl, rfl⟩)
    | (go_at_call 16; refine (show_none _ _ _ _).mono ?_; rintro r w3 ⟨rfl, G3⟩; have A3 := Joins.below_alloc1 w3 (.cells nil6 35); have d1 := cellL A3 (cellL G3 c1); have k0 := cellN w3 nil6 35 0 _ rfl; have k1 := cellN w3 nil6 35 1 _ rfl; have k2 := cellN w3 nil6 35 2 _ rfl; have k3 := cellN w3 nil6 35 3 _ rfl; have k4 := cellN w3 nil6 35 4 _ rfl; have k5 := cellN w3 nil6 35 5 _ rfl; have K3 := Hid.mk (lOn G3 A3); clear G3 A3 c1 c2 c3 c4 c5)
    | (go_at_call 8; refine (awake_any _ (HT.out _ K3.out)).mono ?_; rintro r w5 ⟨rfl, G5⟩; replace d1 := cellL G5 d1; replace k0 := cellL G5 k0; replace k1 := cellL G5 k1; replace k2 := cellL G5 k2; replace k3 := cellL G5 k3; replace k4 := cellL G5 k4; replace k5 := cellL G5 k5; have K5 := Hid.mk (lOn K3.out G5); clear G5)
    | (go_at_call 13; refine (osame_none _).mono ?_; rintro r w6 ⟨rfl, G6⟩; replace d1 := cellL G6 d1; have K6 := Hid.mk (lOn K5.out G6); clear G6)
    | (go_at_call 19; refine (drop_none _ _).mono ?_; rintro r w9 ⟨rfl, rfl⟩)
    | (go_at_call 11; refine (out_none _).mono ?_; rintro r w9 ⟨rfl, rfl⟩)
    | (go_at_call 12; refine (steps_none _).mono ?_; rintro r w9 ⟨rfl, rfl⟩))
  go_ret
  exact ⟨rfl, lOn HB1.out K6.out⟩
theorem c28 : Tryz.prog.cellsOf 28 = 6 := by kernel_rfl
theorem q3 : Tryz.prog.cellsOf 3 = 1 := by kernel_rfl
theorem q9 : Tryz.prog.cellsOf 9 = 1 := by kernel_rfl
theorem q26 : Tryz.prog.cellsOf 26 = 1 := by kernel_rfl
section
variable {H : Type} {enc : TypeId × Value → H} {w : World} {spare : Nat → Bool} {held : Bool}
set_option maxRecDepth 100000 in
theorem op_act {fuel : Nat} {cs : List Value} {x : DataW H × List MemPlace} (h : DataW.trod enc Tryz.prog w 0 spare held fuel 28 cs = some x) : ∃ a0 a1 a2 a3 s ga m c, cs = [.int .i64 a0, .int .i64 a1, .int .i64 a2, .int .i64 a3, .string s, .slice ga m c] := by
  obtain ⟨xs, n, _, rfl, hl, hlen, hf⟩ := DataW.trod_struct Tryz.underlying28 h
  rw [c28] at hl
  match cs, hl, xs, hlen with
  | [v0, v1, v2, v3, v4, v5], _, [x0, x1, x2, x3, x4, x5], _ =>
    have f0 := hf 0 _ rfl
    have f1 := hf 1 _ rfl
    have f2 := hf 2 _ rfl
    have f3 := hf 3 _ rfl
    have f4 := hf 4 _ rfl
    have f5 := hf 5 _ rfl
    simp [q3, q9, q26] at f0 f1 f2 f3 f4 f5
    obtain ⟨k0, e0, y0, w0⟩ := DataW.trod_int Tryz.underlying3 f0
    obtain ⟨k1, e1, y1, w1⟩ := DataW.trod_int Tryz.underlying3 f1
    obtain ⟨k2, e2, y2, w2⟩ := DataW.trod_int Tryz.underlying3 f2
    obtain ⟨k3, e3, y3, w3⟩ := DataW.trod_int Tryz.underlying3 f3
    obtain ⟨k4, e4, y4, w4⟩ := DataW.trod_string Tryz.underlying9 f4
    obtain ⟨ga, m, c, e5⟩ : ∃ ga m c, [v5] = [Value.slice ga m c] := by
      rcases Deep.open_slice Tryz.underlying26 f5 with ⟨e, _⟩ | ⟨a, len, cap, m, n, D, Pl, e, _⟩
      · exact ⟨none, 0, 0, e⟩
      · exact ⟨some a, len, cap, e⟩
    simp only [List.cons.injEq, and_true] at e0 e1 e2 e3 e4 e5
    subst e0 e1 e2 e3 e4 e5
    exact ⟨_, _, _, _, _, _, _, _, rfl⟩
theorem open_act {v : Value} {d : DataW H} {p : List MemPlace} (h : DataW.Trod enc Tryz.prog w 0 spare held 28 v d p) : ∃ a0 a1 a2 a3 s ga m c, v = .agg #[.int .i64 a0, .int .i64 a1, .int .i64 a2, .int .i64 a3, .string s, .slice ga m c] := by
  obtain ⟨fuel, hf⟩ := h
  obtain ⟨a0, a1, a2, a3, s, ga, m, c, e⟩ := op_act hf
  refine ⟨a0, a1, a2, a3, s, ga, m, c, ?_⟩
  cases v with
  | agg cs =>
    obtain ⟨l⟩ := cs
    simp only [Value.cells] at e
    rw [e]
  | _ => simp [Value.cells] at e
end
end Go.Proofs.YtbajpejnnfacbaaGreatDoor.Lz
