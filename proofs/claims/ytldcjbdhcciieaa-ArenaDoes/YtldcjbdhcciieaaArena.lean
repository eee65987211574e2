/- An arena in memory (a box that holds one slice of words), and the contracts of the arena's small functions, for whatever arguments. -/
import Derived.Test.YtldcjbdhcciieaaProg
import Derived.WalkKit
import Derived.Handy
import Derived.BigQuiet
import Derived.Deep.QuietTactic
import Derived.Deep.RegionLaw
import Derived.Laws.CopyOwn
import Derived.Lib.SliceRun
import Derived.Lib.SmallJoins
namespace Go.Proofs.Ytldcjbdhcciieaa
open Go.RowKit
set_option linter.unusedVariables false

/-- Words as cells. -/
def row (xs : List Int) : List Value := xs.map (Value.int .u64)
theorem row_length (xs : List Int) : (row xs).length = xs.length := by simp [row]
theorem row_get (xs : List Int) (i : Nat) (h : i < xs.length) : (row xs)[i]? = some (.int .u64 (xs.getD i 0)) := by simp [row, h]
theorem row_set (xs : List Int) (i : Nat) (v : Int) : row (xs.set i v) = (row xs).set i (.int .u64 v) := by simp [row, List.map_set]

/-! ### Worlds that part from each other in one old block at most -/
theorem grown_refl (w : World) (r : Option Nat) : w.grownBy w r := ⟨rfl, rfl, rfl, Nat.le_refl _, fun _ _ _ => rfl⟩
theorem grown_trans {a b c : World} {r : Option Nat} (h : a.grownBy b r) (k : b.grownBy c r) : a.grownBy c r :=
  ⟨k.os.trans h.os, k.tape.trans h.tape, k.output.trans h.output, Nat.le_trans h.size k.size, fun i hi hr => (k.block i (Nat.lt_of_lt_of_le hi h.size) hr).trans (h.block i hi hr)⟩
theorem grown_set (w : World) (b i : Nat) (v : Value) : w.grownBy (w.setCell ⟨b, i, none⟩ v) (some b) :=
  ⟨rfl, rfl, rfl, by simp, fun k _ hr => Below.heap_setCell _ _ _ _ (fun e => hr (by rw [e]))⟩
theorem grown_row (w : World) (b : Nat) (cs : Array Value) : w.grownBy (w.setRow b cs) (some b) :=
  ⟨rfl, rfl, rfl, by simp, fun k _ hr => setRow_other _ _ _ _ (fun e => hr (by rw [e]))⟩
theorem grown_below {w w' : World} (r : Option Nat) (h : Below w.heap.size w w') : w.grownBy w' r := ⟨h.os, h.tape, h.output, h.size, fun k hk _ => h.block k hk⟩
theorem grown_none {w w' : World} (h : w.grownBy w' none) : Below w.heap.size w w' := ⟨h.os, h.tape, h.output, h.size, fun k hk => h.block k hk (by simp)⟩

/-- The box at block p holds the slice of all words xs, which lie in block b. -/
structure Has (T : TypeId) (w : World) (p b : Nat) (xs : List Int) : Prop where
  box : w.heap[p]? = some (.cells #[.slice (some ⟨b, 0, none⟩) xs.length xs.length] T (0, 0))
  words : w.heap[b]? = some (.cells (row xs).toArray 32 (0, 0))
  ne : p ≠ b
  len : xs.length ≤ 524288

theorem Has.cell {T : TypeId} {w : World} {p b : Nat} {xs : List Int} (h : Has T w p b xs) : w.cell? ⟨p, 0, none⟩ = some (.slice (some ⟨b, 0, none⟩) xs.length xs.length) := by
  rw [Joins.cell_of_block h.box]; rfl
theorem Has.word {T : TypeId} {w : World} {p b : Nat} {xs : List Int} (h : Has T w p b xs) (i : Nat) (hi : i < xs.length) : w.cell? ⟨b, i, none⟩ = some (.int .u64 (xs.getD i 0)) := by
  rw [Joins.cell_of_block h.words, List.getElem?_toArray, row_get xs i hi]
theorem Has.free {T : TypeId} {w : World} {p b : Nat} {xs : List Int} (h : Has T w p b xs) (i : Nat) : w.frozen? ⟨b, i, none⟩ = false := Joins.unfrozen_of_block h.words i
theorem Has.lt {T : TypeId} {w : World} {p b : Nat} {xs : List Int} (h : Has T w p b xs) : p < w.heap.size ∧ b < w.heap.size :=
  ⟨(Array.getElem?_eq_some_iff.1 h.box).1, (Array.getElem?_eq_some_iff.1 h.words).1⟩
theorem Has.kept {T : TypeId} {w w' : World} {p b : Nat} {xs : List Int} {r : Option Nat} (h : Has T w p b xs) (hg : w.grownBy w' r) (hp : some p ≠ r) (hb : some b ≠ r) : Has T w' p b xs :=
  ⟨(hg.block p h.lt.1 hp).trans h.box, (hg.block b h.lt.2 hb).trans h.words, h.ne, h.len⟩
theorem Has.later {T : TypeId} {w w' : World} {p b : Nat} {xs : List Int} (h : Has T w p b xs) (hg : Below w.heap.size w w') : Has T w' p b xs :=
  ⟨(hg.block p h.lt.1).trans h.box, (hg.block b h.lt.2).trans h.words, h.ne, h.len⟩
theorem Has.put {T : TypeId} {w : World} {p b : Nat} {xs : List Int} (h : Has T w p b xs) (i : Nat) (v : Int) : Has T (w.setCell ⟨b, i, none⟩ (.int .u64 v)) p b (xs.set i v) := by
  refine ⟨?_, ?_, h.ne, by simpa using h.len⟩
  · rw [Below.heap_setCell _ _ _ _ (show p ≠ b from h.ne), h.box]; simp
  · rw [Joins.block_setCell h.words, row_set]; simp
theorem Has.lay {T : TypeId} {w : World} {p b : Nat} {xs : List Int} (h : Has T w p b xs) (ys : List Int) (hl : ys.length = xs.length) : Has T (w.setRow b (row ys).toArray) p b ys := by
  refine ⟨?_, ?_, h.ne, by rw [hl]; exact h.len⟩
  · rw [setRow_other _ _ _ _ h.ne, h.box, hl]
  · exact setRow_heap _ _ _ _ _ _ h.words

/-! ### What is answered, by plain numbers -/
def atE (n : Nat) (i : Int) : Int := if 0 ≤ i ∧ i < n then 0 else 4
def readW (xs : List Int) (i : Int) : Int := if 0 ≤ i ∧ i < xs.length then xs.getD i.toNat 0 else 0
def writeL (xs : List Int) (i v : Int) : List Int := if 0 ≤ i ∧ i < xs.length then xs.set i.toNat v else xs
def within (n : Nat) (i k : Int) : Bool := decide (0 ≤ i ∧ k ≤ n - i)
def moveE (n : Nat) (to fr k : Int) : Int := if k < 0 then 7 else if within n to k = true ∧ within n fr k = true then 0 else 4
def moveL (xs : List Int) (to fr k : Int) : List Int := if moveE xs.length to fr k = 0 then splice xs to.toNat ((xs.drop fr.toNat).take k.toNat) else xs
def clearE (n : Nat) (fr k : Int) : Int := if k < 0 then 7 else if within n fr k = true then 0 else 4
def clearL (xs : List Int) (fr k : Int) : List Int := if clearE xs.length fr k = 0 then splice xs fr.toNat (List.replicate k.toNat 0) else xs

/-! ### The looks -/
theorem place_ok {w : World} {p b : Nat} {xs : List Int} (h : Has 52 w p b xs) (i : Int) (hi : 0 ≤ i ∧ i < xs.length) :
    Calls Try.prog 23 #[.pointer (some ⟨p, 0, none⟩), .int .i64 i] w fun e w' => e = .returned (.int .i64 0) ∧ w' = w := by
  have c := h.cell
  have l := h.len
  have h1 := hi.1
  have h2 := hi.2
  go_enter Try.func23, Try.ntmps23
  go_wp2
  go_ret
  exact ⟨rfl, rfl⟩
theorem place_no {w : World} {p b : Nat} {xs : List Int} (h : Has 52 w p b xs) (i : Int) (hi : ¬ (0 ≤ i ∧ i < xs.length)) :
    Calls Try.prog 23 #[.pointer (some ⟨p, 0, none⟩), .int .i64 i] w fun e w' => e = .returned (.int .i64 4) ∧ w' = w := by
  have c := h.cell
  have l := h.len
  by_cases h0 : i < 0
  · go_enter Try.func23, Try.ntmps23
    go_wp2
    go_ret
    exact ⟨rfl, rfl⟩
  · have h1 : (xs.length : Int) ≤ i := by omega
    have h2 : 0 ≤ i := by omega
    go_enter Try.func23, Try.ntmps23
    go_wp2
    go_ret
    exact ⟨rfl, rfl⟩
theorem count_any {w : World} {p : Nat} (k : Int) :
    Calls Try.prog 24 #[.pointer (some ⟨p, 0, none⟩), .int .i64 k] w fun e w' => e = .returned (.int .i64 (if k < 0 then 7 else 0)) ∧ w' = w := by
  by_cases h0 : k < 0
  · rw [if_pos h0]
    go_enter Try.func24, Try.ntmps24
    go_wp2
    go_ret
    exact ⟨rfl, rfl⟩
  · rw [if_neg h0]
    have h1 : 0 ≤ k := by omega
    go_enter Try.func24, Try.ntmps24
    go_wp2
    go_ret
    exact ⟨rfl, rfl⟩
theorem has_any {w : World} {p b : Nat} {xs : List Int} (h : Has 52 w p b xs) (i k : Int) (hi : i ≤ 9223372036854775807) :
    Calls Try.prog 25 #[.pointer (some ⟨p, 0, none⟩), .int .i64 i, .int .i64 k] w fun e w' => e = .returned (.bool (within xs.length i k)) ∧ w' = w := by
  have c := h.cell
  have l := h.len
  by_cases h0 : 0 ≤ i
  · have e : within xs.length i k = decide (k ≤ (xs.length : Int) - i) := by simp [within, h0]
    rw [e]
    go_enter Try.func25, Try.ntmps25
    go_wp2
    go_ret
    exact ⟨rfl, rfl⟩
  · have e : within xs.length i k = false := by simp [within, h0]
    rw [e]
    have h1 : i < 0 := by omega
    go_enter Try.func25, Try.ntmps25
    go_wp2
    go_ret
    exact ⟨rfl, rfl⟩
theorem len_any {w : World} {p b : Nat} {xs : List Int} (h : Has 52 w p b xs) :
    Calls Try.prog 18 #[.pointer (some ⟨p, 0, none⟩)] w fun e w' => e = .returned (.int .i64 xs.length) ∧ w' = w := by
  have c := h.cell
  go_enter Try.func18, Try.ntmps18
  go_wp2
  go_ret
  exact ⟨rfl, rfl⟩
end Go.Proofs.Ytldcjbdhcciieaa
