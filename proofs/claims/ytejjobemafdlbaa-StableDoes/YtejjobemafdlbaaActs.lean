/- What every statement's frame needs: the integers' bounds, a slice of records of two numbers opened. -/
import Derived.Test.YtejjobemafdlbaaRows
import Derived.Test.YtejjobemafdlbaaSbi
import Derived.ProofKit
import Derived.OpenShut
import Derived.ChangeOld
import Derived.Below
import Derived.Deep.Slices
import Derived.ChangeSlices
namespace Go.Proofs.Ytejjobemafdlbaa
open Go.ChangeShapes Go.WideShapes Go.ChangeAt Go.RowKit
set_option linter.unusedVariables false

theorem own : ownKnob Try.prog.godebug = none := by kernel_rfl
theorem laidOut : laidOutB Try.prog = true := by kernel_rfl
theorem bounds_i64 {a : Int} (h : (Lit.int .i64 a).wf = true) : -9223372036854775808 ≤ a ∧ a ≤ 9223372036854775807 := by simpa [Lit.wf, IntKind.min, IntKind.max, IntKind.signed, IntKind.bits] using h
theorem bounds_u8 {a : Int} (h : (Lit.int .u8 a).wf = true) : 0 ≤ a ∧ a ≤ 255 := by simpa [Lit.wf, IntKind.min, IntKind.max, IntKind.signed, IntKind.bits] using h
theorem bounds_u16 {a : Int} (h : (Lit.int .u16 a).wf = true) : 0 ≤ a ∧ a ≤ 65535 := by simpa [Lit.wf, IntKind.min, IntKind.max, IntKind.signed, IntKind.bits] using h
def In64 (a : Int) : Prop := -9223372036854775808 ≤ a ∧ a ≤ 9223372036854775807

/-- What the walk is told of a slice of records that came in: element i's two cells, and that its places fit. -/
def IsActs (w : World) (a : Option Addr) (len : Nat) : Prop :=
  len ≤ maxLen ∧ ∀ i, i < len → ∃ (B O : Nat) (k0 k1 : Int), a = some ⟨B, O, none⟩ ∧ w.cell? ⟨B, O + i * 2, none⟩ = some (.int .i64 k0) ∧ w.cell? ⟨B, O + i * 2 + 1, none⟩ = some (.int .i64 k1) ∧ In64 k0 ∧ In64 k1
theorem add_add (B O i j : Nat) : ((⟨B, O, none⟩ : Addr).add i).add j = ⟨B, O + i + j, none⟩ := by
  unfold Addr.add
  split <;> split <;> simp_all
section
variable {H : Type} {enc : TypeId × Value → H} {w : World} {base : Nat} {spare : Nat → Bool} {held : Bool}
theorem act_fields {fuel : Nat} {cs : List Value} {x : DataW H × List MemPlace} (h : DataW.trod enc Try.prog w base spare held fuel 33 cs = some x) :
    ∃ (k0 k1 : Int), cs = [.int .i64 k0, .int .i64 k1] ∧ In64 k0 ∧ In64 k1 := by
  obtain ⟨xs, n, _, rfl, hl, hlen, hf⟩ := DataW.trod_struct Try.underlying33 h
  have c33 : Try.prog.cellsOf 33 = 2 := by kernel_rfl
  have c3 : Try.prog.cellsOf 3 = 1 := by kernel_rfl
  rw [c33] at hl
  match cs, hl, xs, hlen with
  | [v0, v1], _, [x0, x1], _ =>
    have f0 := hf 0 _ rfl
    have f1 := hf 1 _ rfl
    simp [c3] at f0 f1
    obtain ⟨k0, e0, _, w0⟩ := DataW.trod_int Try.underlying3 f0
    obtain ⟨k1, e1, _, w1⟩ := DataW.trod_int Try.underlying3 f1
    simp only [List.cons.injEq, and_true] at e0 e1
    subst e0 e1
    exact ⟨k0, k1, rfl, bounds_i64 w0, bounds_i64 w1⟩
theorem open_acts {a : Option Addr} {len cap : Nat} {d : DataW H} {p : List MemPlace} (h : DataW.Trod enc Try.prog w base spare held 22 (.slice a len cap) d p) : IsActs w a len := by
  have c33 : Try.prog.cellsOf 33 = 2 := by kernel_rfl
  obtain ⟨fuel, hf⟩ := h
  rcases Deep.open_slice Try.underlying22 hf with ⟨hcs, _⟩ | ⟨x, l, c, m, n, D, Pl, hcs, _, hl, hm, hmm, _, hx⟩
  · simp [Value.cells] at hcs
    obtain ⟨rfl, rfl, rfl⟩ := hcs
    exact ⟨Nat.zero_le _, fun i hi => absurd hi (Nat.not_lt_zero _)⟩
  · simp [Value.cells] at hcs
    obtain ⟨rfl, rfl, rfl⟩ := hcs
    refine ⟨Nat.le_trans hl hm, fun i hi => ?_⟩
    rw [c33] at hx
    have hlm : len ≤ m := by rw [hmm]; split <;> omega
    obtain ⟨B, O, spot⟩ := x
    have hs : spot = none := by
      obtain ⟨cs0, hc0, ht0⟩ := hx 0 (by omega)
      obtain ⟨k0, k1, rfl, _⟩ := act_fields ht0
      obtain ⟨_, _, hcell⟩ := World.cells?_some hc0
      have := hcell 0 (by omega)
      simp [Addr.add] at this
      simpa using World.cell?_spot this
    subst hs
    obtain ⟨cs', hc, ht⟩ := hx i (by omega)
    obtain ⟨k0, k1, rfl, b0, b1⟩ := act_fields ht
    obtain ⟨_, hlen, hcell⟩ := World.cells?_some hc
    have g0 := hcell 0 (by omega)
    have g1 := hcell 1 (by omega)
    rw [add_add] at g0 g1
    exact ⟨B, O, k0, k1, rfl, by simpa using g0, by simpa using g1, b0, b1⟩
/-- What the walk is told of a slice of numbers that came in. -/
def IsNums (q : IntKind) (w : World) (a : Option Addr) (len : Nat) : Prop :=
  len ≤ maxLen ∧ ∀ i, i < len → ∃ (B O : Nat) (k : Int), a = some ⟨B, O, none⟩ ∧ w.cell? ⟨B, O + i, none⟩ = some (.int q k) ∧ (Lit.int q k).wf = true
theorem open_numbers {q : IntKind} {t e : TypeId} (ht : Try.prog.underlying t = some (.slice e)) (he : Try.prog.underlying e = some (.int q)) (hc : Try.prog.cellsOf e = 1) {a : Option Addr} {len cap : Nat} {d : DataW H} {p : List MemPlace} (h : DataW.Trod enc Try.prog w base spare held t (.slice a len cap) d p) : IsNums q w a len := by
  obtain ⟨fuel, hf⟩ := h
  rcases Go.ChangeShapes.open_ints ht he hc hf with ⟨hcs, _⟩ | ⟨x, l, c, zs, hcs, _, hl, hm, hlen, _, hcell, hwf⟩
  · simp [Value.cells] at hcs
    obtain ⟨rfl, rfl, rfl⟩ := hcs
    exact ⟨Nat.zero_le _, fun i hi => absurd hi (Nat.not_lt_zero _)⟩
  · simp [Value.cells] at hcs
    obtain ⟨rfl, rfl, rfl⟩ := hcs
    have hz : len ≤ zs.length := by rw [hlen]; split <;> omega
    refine ⟨Nat.le_trans hl hm, fun i hi => ?_⟩
    obtain ⟨B, O, spot⟩ := x
    have hs : spot = none := by
      have := hcell 0 (by omega)
      simp [Addr.add] at this
      simpa using World.cell?_spot this
    subst hs
    have c := hcell i (by omega)
    have e : (⟨B, O, none⟩ : Addr).add i = ⟨B, O + i, none⟩ := by unfold Addr.add; split <;> simp_all
    rw [e] at c
    exact ⟨B, O, _, rfl, c, hwf _ (by
      have : zs.getD i 0 = zs[i]'(by omega) := by simp [List.getD_eq_getElem?_getD, List.getElem?_eq_getElem (show i < zs.length by omega)]
      rw [this]; exact List.getElem_mem _)⟩
theorem open_ints31 {a : Option Addr} {len cap : Nat} {d : DataW H} {p : List MemPlace} (h : DataW.Trod enc Try.prog w base spare held 31 (.slice a len cap) d p) : IsNums .i64 w a len := open_numbers Try.underlying31 Try.underlying3 (by kernel_rfl) h
end
theorem old_cells {w wr : World} {B o : Nat} {v : Value} (h : w.cell? ⟨B, o, none⟩ = some v) (hb : Below w.heap.size w wr) : wr.cell? ⟨B, o, none⟩ = some v :=
  (hb.cell (p := ⟨B, o, none⟩) (World.block_lt_of_cell? _ _ h)).trans h

theorem wake1 : mkH 2 (fun _ => 0) (fun _ => 1) 5 = 256 ∧ mkE 2 (fun _ => 0) 5 = 0 := by decide
theorem wake2 : geV 2 (mkA 2 (fun _ => 0) 5) (fun _ => 1) 256 = 5 ∧ geE 2 (mkA 2 (fun _ => 0) 5) (fun _ => 1) 256 = 0 ∧ (allL (mkA 2 (fun _ => 0) 5) 2).length = 1 := by decide
set_option maxHeartbeats 1000000 in
theorem awake_any (w : World) : Calls Try.prog 10 #[] w fun e w' => e = .returned (.bool true) ∧ Below w.heap.size w w' := by
  have NW := new_any w 2 (by omega)
  obtain ⟨k1, k2⟩ := wake1
  obtain ⟨k3, k4, k5⟩ := wake2
  have HW1 := Hid.mk wake1
  have HW2 := Hid.mk wake2
  clear k1 k2 k3 k4 k5
  go_enter Try.func10, Try.ntmps10
  go_wp2_with (first
    | (go_at_call 8; refine NW.mono ?_; clear NW; rintro e w1 ⟨s, sb, rfl, H1, B1⟩; have MK := make_any H1 (by omega) 5; rw [HW1.out.1, HW1.out.2] at MK; have hl := H1.lo; have HB1 := Hid.mk B1; clear H1 B1)
    | (go_at_call 11; refine MK.mono ?_; clear MK; rintro e w2 ⟨rfl, H2, K2⟩; have GT := get_any H2 256 (by omega); rw [HW2.out.1, HW2.out.2.1] at GT; have HH2 := Hid.mk H2; have HB2 := Hid.mk (HB1.out.trans (K2.bel hl.2 hl.2 HB1.out.size)); clear H2 K2)
    | (go_at_call 15; refine GT.mono ?_; clear GT; rintro e w3 ⟨rfl, B3⟩; have LN := len_any (HH2.out.later B3); rw [HW2.out.2.2] at LN; have HB3 := Hid.mk (HB2.out.trans (B3.mono HB2.out.size)); clear B3)
    | (go_at_call 23; refine LN.mono ?_; clear LN; rintro e w4 ⟨rfl, B4⟩; have B5 := HB3.out.trans (B4.mono HB3.out.size); clear B4))
  go_ret
  exact ⟨rfl, B5⟩
end Go.Proofs.Ytejjobemafdlbaa
