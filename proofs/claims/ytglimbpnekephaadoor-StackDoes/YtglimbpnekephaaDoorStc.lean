/- An arena in memory, and the contracts of the arena's functions that a stack calls. -/
import Derived.Test.YtglimbpnekephaaDoorStb
import Derived.Deep.OwnRows
import Derived.Laws.CopyOwn
import Derived.Lib.SliceRun
namespace Go.Proofs.YtglimbpnekephaaDoor
open Go.RowKit
set_option linter.unusedVariables false
set_option linter.unusedSimpArgs false

/-- Words as cells. -/
def row (xs : List Int) : List Value := xs.map (Value.int .u64)
theorem row_length (xs : List Int) : (row xs).length = xs.length := by simp [row]
theorem row_get (xs : List Int) (i : Nat) (h : i < xs.length) : (row xs)[i]? = some (.int .u64 (xs.getD i 0)) := by simp [row, h]
theorem row_set (xs : List Int) (i : Nat) (v : Int) : row (xs.set i v) = (row xs).set i (.int .u64 v) := by simp [row, List.map_set]

theorem grown_refl (w : World) (r : Option Nat) : w.grownBy w r := ⟨rfl, rfl, rfl, Nat.le_refl _, fun _ _ _ => rfl⟩
theorem grown_trans {a b c : World} {r : Option Nat} (h : a.grownBy b r) (k : b.grownBy c r) : a.grownBy c r :=
  ⟨k.os.trans h.os, k.tape.trans h.tape, k.output.trans h.output, Nat.le_trans h.size k.size, fun i hi hr => (k.block i (Nat.lt_of_lt_of_le hi h.size) hr).trans (h.block i hi hr)⟩
theorem grown_set (w : World) (b i : Nat) (v : Value) : w.grownBy (w.setCell ⟨b, i, none⟩ v) (some b) :=
  ⟨rfl, rfl, rfl, by simp, fun k _ hr => Below.heap_setCell _ _ _ _ (fun e => hr (by rw [e]))⟩
theorem grown_below {w w' : World} (r : Option Nat) (h : Below w.heap.size w w') : w.grownBy w' r := ⟨h.os, h.tape, h.output, h.size, fun k hk _ => h.block k hk⟩
theorem grown_none {w w' : World} (h : w.grownBy w' none) : Below w.heap.size w w' := ⟨h.os, h.tape, h.output, h.size, fun k hk => h.block k hk (by simp)⟩

/-- All old blocks but these two stay. -/
structure Kp (p b : Nat) (w w' : World) : Prop where
  os : w'.os = w.os
  tape : w'.tape = w.tape
  output : w'.output = w.output
  size : w.heap.size ≤ w'.heap.size
  block : ∀ k, k < w.heap.size → k ≠ p → k ≠ b → w'.heap[k]? = w.heap[k]?
theorem Kp.refl (p b : Nat) (w : World) : Kp p b w w := ⟨rfl, rfl, rfl, Nat.le_refl _, fun _ _ _ _ => rfl⟩
theorem Kp.trans {p b : Nat} {w u v : World} (h : Kp p b w u) (k : Kp p b u v) : Kp p b w v :=
  ⟨k.os.trans h.os, k.tape.trans h.tape, k.output.trans h.output, Nat.le_trans h.size k.size, fun i hi h1 h2 => (k.block i (Nat.lt_of_lt_of_le hi h.size) h1 h2).trans (h.block i hi h1 h2)⟩
theorem Kp.of {p b : Nat} {w u : World} (h : Below w.heap.size w u) : Kp p b w u := ⟨h.os, h.tape, h.output, h.size, fun k hk _ _ => h.block k hk⟩
theorem Kp.words {p b : Nat} {w u : World} (h : w.grownBy u (some b)) : Kp p b w u := ⟨h.os, h.tape, h.output, h.size, fun k hk _ h2 => h.block k hk (by simpa using h2)⟩
theorem Kp.box {p b : Nat} {w u : World} (h : w.grownBy u (some p)) : Kp p b w u := ⟨h.os, h.tape, h.output, h.size, fun k hk h1 _ => h.block k hk (by simpa using h1)⟩
/-- seen from below, nothing turns -/
theorem Kp.below {p b m : Nat} {w u v : World} (B : Below m w u) (h : Kp p b u v) (hm : m ≤ u.heap.size) (hp : m ≤ p) (hb : m ≤ b) : Below m w v :=
  ⟨h.os.trans B.os, h.tape.trans B.tape, h.output.trans B.output, Nat.le_trans B.size h.size, fun k hk => (h.block k (by omega) (by omega) (by omega)).trans (B.block k hk)⟩

/-- The box at block p holds the slice of all words xs, which lie in block b. -/
structure Has (w : World) (p b : Nat) (xs : List Int) : Prop where
  box : w.heap[p]? = some (.cells #[.slice (some ⟨b, 0, none⟩) xs.length xs.length] 74 (0, 0))
  words : w.heap[b]? = some (.cells (row xs).toArray 50 (0, 0))
  ne : p ≠ b
  len : xs.length ≤ 524288
theorem Has.cell {w : World} {p b : Nat} {xs : List Int} (h : Has w p b xs) : w.cell? ⟨p, 0, none⟩ = some (.slice (some ⟨b, 0, none⟩) xs.length xs.length) := by
  rw [Joins.cell_of_block h.box]; rfl
theorem Has.word {w : World} {p b : Nat} {xs : List Int} (h : Has w p b xs) (i : Nat) (hi : i < xs.length) : w.cell? ⟨b, i, none⟩ = some (.int .u64 (xs.getD i 0)) := by
  rw [Joins.cell_of_block h.words, List.getElem?_toArray, row_get xs i hi]
theorem Has.free {w : World} {p b : Nat} {xs : List Int} (h : Has w p b xs) (i : Nat) : w.frozen? ⟨b, i, none⟩ = false := Joins.unfrozen_of_block h.words i
theorem Has.lt {w : World} {p b : Nat} {xs : List Int} (h : Has w p b xs) : p < w.heap.size ∧ b < w.heap.size :=
  ⟨(Array.getElem?_eq_some_iff.1 h.box).1, (Array.getElem?_eq_some_iff.1 h.words).1⟩
theorem Has.same {w w' : World} {p b : Nat} {xs : List Int} (h : Has w p b xs) (h1 : w'.heap[p]? = w.heap[p]?) (h2 : w'.heap[b]? = w.heap[b]?) : Has w' p b xs := ⟨h1.trans h.box, h2.trans h.words, h.ne, h.len⟩
theorem Has.kept {w w' : World} {p b : Nat} {xs : List Int} {r : Option Nat} (h : Has w p b xs) (hg : w.grownBy w' r) (hp : some p ≠ r) (hb : some b ≠ r) : Has w' p b xs :=
  h.same (hg.block p h.lt.1 hp) (hg.block b h.lt.2 hb)
theorem Has.later {w w' : World} {p b : Nat} {xs : List Int} (h : Has w p b xs) (hg : Below w.heap.size w w') : Has w' p b xs :=
  h.same (hg.block p h.lt.1) (hg.block b h.lt.2)
theorem Has.put {w : World} {p b : Nat} {xs : List Int} (h : Has w p b xs) (i : Nat) (v : Int) : Has (w.setCell ⟨b, i, none⟩ (.int .u64 v)) p b (xs.set i v) := by
  refine ⟨?_, ?_, h.ne, by simpa using h.len⟩
  · rw [Below.heap_setCell _ _ _ _ (show p ≠ b from h.ne), h.box]; simp
  · rw [Joins.block_setCell h.words, row_set]; simp

def atE (n : Nat) (i : Int) : Int := if 0 ≤ i ∧ i < n then 0 else 4
def readW (xs : List Int) (i : Int) : Int := if 0 ≤ i ∧ i < xs.length then xs.getD i.toNat 0 else 0
def writeL (xs : List Int) (i v : Int) : List Int := if 0 ≤ i ∧ i < xs.length then xs.set i.toNat v else xs
theorem place_ok {w : World} {p b : Nat} {xs : List Int} (h : Has w p b xs) (i : Int) (hi : 0 ≤ i ∧ i < xs.length) :
    Calls Tryd.prog 41 #[.pointer (some ⟨p, 0, none⟩), .int .i64 i] w fun e w' => e = .returned (.int .i64 0) ∧ w' = w := by
  have c := h.cell
  have l := h.len
  have h1 := hi.1
  have h2 := hi.2
  go_enter Tryd.func41, Tryd.ntmps41
  go_wp2
  go_ret
  exact ⟨rfl, rfl⟩
theorem place_no {w : World} {p b : Nat} {xs : List Int} (h : Has w p b xs) (i : Int) (hi : ¬ (0 ≤ i ∧ i < xs.length)) :
    Calls Tryd.prog 41 #[.pointer (some ⟨p, 0, none⟩), .int .i64 i] w fun e w' => e = .returned (.int .i64 4) ∧ w' = w := by
  have c := h.cell
  have l := h.len
  by_cases h0 : i < 0
  · go_enter Tryd.func41, Tryd.ntmps41
    go_wp2
    go_ret
    exact ⟨rfl, rfl⟩
  · have h1 : (xs.length : Int) ≤ i := by omega
    have h2 : 0 ≤ i := by omega
    go_enter Tryd.func41, Tryd.ntmps41
    go_wp2
    go_ret
    exact ⟨rfl, rfl⟩
theorem len_any {w : World} {p b : Nat} {xs : List Int} (h : Has w p b xs) :
    Calls Tryd.prog 40 #[.pointer (some ⟨p, 0, none⟩)] w fun e w' => e = .returned (.int .i64 xs.length) ∧ w' = w := by
  have c := h.cell
  go_enter Tryd.func40, Tryd.ntmps40
  go_wp2
  go_ret
  exact ⟨rfl, rfl⟩
theorem made_words (n : Nat) : madeCells #[.int .u64 0] n = (row (List.replicate n 0)).toArray := by
  apply Array.ext
  · simp [madeCells, row]
  · intro i h1 h2
    simp [madeCells, row, Nat.mod_one]
theorem info50 : (Tryd.prog.info? 50).map (fun i => (i.zero, i.size, i.bytes)) = some (some (.int .u64 0), 1, 8) := by kernel_rfl
theorem Has.fresh (w : World) (xs : List Int) (hl : xs.length ≤ 524288) : Has ((w.alloc (.cells (row xs).toArray 50)).alloc (.cells #[.slice (some ⟨w.heap.size, 0, none⟩) xs.length xs.length] 74)) (w.heap.size + 1) w.heap.size xs := by
  refine ⟨?_, ?_, by omega, hl⟩
  · have := heap_alloc_new (w.alloc (.cells (row xs).toArray 50)) (.cells #[.slice (some ⟨w.heap.size, 0, none⟩) xs.length xs.length] 74)
    simpa using this
  · rw [Below.heap_alloc _ _ _ (by simp)]
    exact heap_alloc_new _ _
theorem new_ok (n : Nat) (w : World) (h1 : 1 ≤ n) (h2 : n ≤ 524288) :
    Calls Tryd.prog 15 #[.int .i64 n] w fun e w' => e = .returned (.tuple #[.pointer (some ⟨w.heap.size + 1, 0, none⟩), .int .i64 0]) ∧ Has w' (w.heap.size + 1) w.heap.size (List.replicate n 0) ∧ Below w.heap.size w w' := by
  have hmk := Go.run_make_row' (P := Tryd.prog) 72 50 (.int .u64 0) 8 Tryd.underlying72 info50 rfl .i64 .i64 n (by omega) (by omega)
  rw [made_words] at hmk
  have F := Has.fresh w (List.replicate n 0) (by simpa using h2)
  simp only [List.length_replicate] at F
  have HF : Hid (Has _ _ _ _) := ⟨F⟩
  clear F
  go_enter Tryd.func15, Tryd.ntmps15
  go_wp2
  go_ret2
  exact ⟨rfl, HF.out, by go_grown⟩
theorem new_no (n : Int) (w : World) (h : ¬ (1 ≤ n ∧ n ≤ 524288)) :
    Calls Tryd.prog 15 #[.int .i64 n] w fun e w' => e = .returned (.tuple #[.pointer none, .int .i64 7]) ∧ w' = w := by
  by_cases h1 : n < 1
  · go_enter Tryd.func15, Tryd.ntmps15
    go_wp2
    go_ret2
    exact ⟨rfl, rfl⟩
  · have h2 : 524288 < n := by omega
    have h3 : 1 ≤ n := by omega
    go_enter Tryd.func15, Tryd.ntmps15
    go_wp2
    go_ret2
    exact ⟨rfl, rfl⟩
theorem read_any {w : World} {p b : Nat} {xs : List Int} (h : Has w p b xs) (k : Nat) (hk : k < xs.length) :
    Calls Tryd.prog 21 #[.pointer (some ⟨p, 0, none⟩), .int .i64 k] w fun e w' => e = .returned (.tuple #[.int .u64 (xs.getD k 0), .int .i64 0]) ∧ w' = w := by
  have hi : 0 ≤ (k : Int) ∧ (k : Int) < xs.length := by omega
  have c := h.cell
  have cw := h.word k hk
  have l := h.len
  obtain ⟨x, hx⟩ : ∃ x, xs.getD k 0 = x := ⟨_, rfl⟩
  rw [hx] at cw ⊢
  clear hx
  go_enter Tryd.func21, Tryd.ntmps21
  go_wp2_with (go_at_call 41; refine (place_ok h k hi).mono ?_; rintro e w' ⟨rfl, rfl⟩)
  go_ret2
  exact ⟨rfl, rfl⟩
theorem write_any {w : World} {p b : Nat} {xs : List Int} (h : Has w p b xs) (k : Nat) (v : Int) (hk : k < xs.length) :
    Calls Tryd.prog 17 #[.pointer (some ⟨p, 0, none⟩), .int .i64 k, .int .u64 v] w fun e w' => e = .returned (.int .i64 0) ∧ Has w' p b (xs.set k v) ∧ w.grownBy w' (some b) := by
  have hi : 0 ≤ (k : Int) ∧ (k : Int) < xs.length := by omega
  have c := h.cell
  have cw := h.word k hk
  have fz := h.free k
  have l := h.len
  go_enter Tryd.func17, Tryd.ntmps17
  go_wp2_with (go_at_call 41; refine (place_ok h k hi).mono ?_; rintro e w' ⟨rfl, rfl⟩)
  go_ret
  exact ⟨rfl, h.put k v, grown_set _ _ _ _⟩

/-! ## A stack -/
/-- the stack's box at p: its arena (at a, words in b), from, words, used, count, kept -/
structure Stk (w : World) (p a b : Nat) (ws : List Int) (F N u c k : Nat) : Prop where
  box : w.heap[p]? = some (.cells #[.pointer (some ⟨a, 0, none⟩), .int .i64 F, .int .i64 N, .int .i64 u, .int .i64 c, .int .i64 k] 76 (0, 0))
  ar : Has w a b ws
  pa : p ≠ a
  pb : p ≠ b
  fit : F + N ≤ ws.length
  un : u ≤ N
  cn : c ≤ u
  nn : N ≤ 65536
theorem Stk.c0 {w : World} {p a b F N u c k : Nat} {ws : List Int} (h : Stk w p a b ws F N u c k) : w.cell? ⟨p, 0, none⟩ = some (.pointer (some ⟨a, 0, none⟩)) := by rw [Joins.cell_of_block h.box]; rfl
theorem Stk.c1 {w : World} {p a b F N u c k : Nat} {ws : List Int} (h : Stk w p a b ws F N u c k) : w.cell? ⟨p, 1, none⟩ = some (.int .i64 F) := by rw [Joins.cell_of_block h.box]; rfl
theorem Stk.c2 {w : World} {p a b F N u c k : Nat} {ws : List Int} (h : Stk w p a b ws F N u c k) : w.cell? ⟨p, 2, none⟩ = some (.int .i64 N) := by rw [Joins.cell_of_block h.box]; rfl
theorem Stk.c3 {w : World} {p a b F N u c k : Nat} {ws : List Int} (h : Stk w p a b ws F N u c k) : w.cell? ⟨p, 3, none⟩ = some (.int .i64 u) := by rw [Joins.cell_of_block h.box]; rfl
theorem Stk.c4 {w : World} {p a b F N u c k : Nat} {ws : List Int} (h : Stk w p a b ws F N u c k) : w.cell? ⟨p, 4, none⟩ = some (.int .i64 c) := by rw [Joins.cell_of_block h.box]; rfl
theorem Stk.c5 {w : World} {p a b F N u c k : Nat} {ws : List Int} (h : Stk w p a b ws F N u c k) : w.cell? ⟨p, 5, none⟩ = some (.int .i64 k) := by rw [Joins.cell_of_block h.box]; rfl
theorem Stk.z {w : World} {p a b F N u c k : Nat} {ws : List Int} (h : Stk w p a b ws F N u c k) (i : Nat) : w.frozen? ⟨p, i, none⟩ = false := Joins.unfrozen_of_block h.box i
theorem Stk.lt {w : World} {p a b F N u c k : Nat} {ws : List Int} (h : Stk w p a b ws F N u c k) : p < w.heap.size ∧ a < w.heap.size ∧ b < w.heap.size := ⟨(Array.getElem?_eq_some_iff.1 h.box).1, h.ar.lt⟩
theorem Stk.same {w w' : World} {p a b F N u c k : Nat} {ws : List Int} (h : Stk w p a b ws F N u c k) (h1 : w'.heap[p]? = w.heap[p]?) (h2 : w'.heap[a]? = w.heap[a]?) (h3 : w'.heap[b]? = w.heap[b]?) : Stk w' p a b ws F N u c k :=
  ⟨h1.trans h.box, h.ar.same h2 h3, h.pa, h.pb, h.fit, h.un, h.cn, h.nn⟩
theorem Stk.later {w w' : World} {p a b F N u c k : Nat} {ws : List Int} (h : Stk w p a b ws F N u c k) (hb : Below w.heap.size w w') : Stk w' p a b ws F N u c k :=
  h.same (hb.block _ h.lt.1) (hb.block _ h.lt.2.1) (hb.block _ h.lt.2.2)
theorem Stk.used {w : World} {p a b F N u c k : Nat} {ws : List Int} (h : Stk w p a b ws F N u c k) (u' : Nat) (h1 : u' ≤ N) (h2 : c ≤ u') : Stk (w.setCell ⟨p, 3, none⟩ (.int .i64 u')) p a b ws F N u' c k := by
  refine ⟨by rw [Joins.block_setCell h.box]; rfl, h.ar.kept (grown_set _ _ _ _) (by simpa using h.pa.symm) (by simpa using h.pb.symm), h.pa, h.pb, h.fit, h1, h2, h.nn⟩
theorem Stk.count {w : World} {p a b F N u c k : Nat} {ws : List Int} (h : Stk w p a b ws F N u c k) (c' : Nat) (h2 : c' ≤ u) : Stk (w.setCell ⟨p, 4, none⟩ (.int .i64 c')) p a b ws F N u c' k := by
  refine ⟨by rw [Joins.block_setCell h.box]; rfl, h.ar.kept (grown_set _ _ _ _) (by simpa using h.pa.symm) (by simpa using h.pb.symm), h.pa, h.pb, h.fit, h.un, h2, h.nn⟩
theorem Stk.keep {w : World} {p a b F N u c k : Nat} {ws : List Int} (h : Stk w p a b ws F N u c k) (k' : Nat) : Stk (w.setCell ⟨p, 5, none⟩ (.int .i64 k')) p a b ws F N u c k' := by
  refine ⟨by rw [Joins.block_setCell h.box]; rfl, h.ar.kept (grown_set _ _ _ _) (by simpa using h.pa.symm) (by simpa using h.pb.symm), h.pa, h.pb, h.fit, h.un, h.cn, h.nn⟩
theorem Stk.wrote {w w' : World} {p a b F N u c k : Nat} {ws ws' : List Int} (h : Stk w p a b ws F N u c k) (h1 : Has w' a b ws') (h2 : w.grownBy w' (some b)) (hl : ws'.length = ws.length) : Stk w' p a b ws' F N u c k :=
  ⟨(h2.block p h.lt.1 (by simpa using h.pb)).trans h.box, h1, h.pa, h.pb, by rw [hl]; exact h.fit, h.un, h.cn, h.nn⟩
theorem Stk.fresh {w : World} {a b F N : Nat} {ws : List Int} (h : Has w a b ws) (hf : F + N ≤ ws.length) (hn : N ≤ 65536) : Stk (w.alloc (.cells #[.pointer (some ⟨a, 0, none⟩), .int .i64 F, .int .i64 N, .int .i64 0, .int .i64 0, .int .i64 0] 76)) w.heap.size a b ws F N 0 0 0 := by
  have := h.lt
  exact ⟨heap_alloc_new _ _, h.later (by go_grown), by omega, by omega, hf, Nat.zero_le _, Nat.le_refl _, hn⟩
theorem snew_ok {w : World} {a b : Nat} {ws : List Int} (h : Has w a b ws) (F N : Nat) (h1 : 1 ≤ N) (h2 : N ≤ 65536) (h3 : F + N ≤ ws.length) :
    Calls Tryd.prog 16 #[.pointer (some ⟨a, 0, none⟩), .int .i64 F, .int .i64 N] w fun e w' => e = .returned (.tuple #[.pointer (some ⟨w.heap.size, 0, none⟩), .int .i64 0]) ∧ Stk w' w.heap.size a b ws F N 0 0 0 ∧ Below w.heap.size w w' := by
  have l := h.len
  have S := Hid.mk (Stk.fresh h h3 h2)
  have LA := len_any h
  go_enter Tryd.func16, Tryd.ntmps16
  go_wp2_with (go_at_call 40; refine LA.mono ?_; rintro e w' ⟨rfl, rfl⟩)
  go_ret2
  exact ⟨rfl, S.out, by go_grown⟩
theorem used_any {w : World} {p a b F N u c k : Nat} {ws : List Int} (h : Stk w p a b ws F N u c k) : Calls Tryd.prog 23 #[.pointer (some ⟨p, 0, none⟩)] w fun e w' => e = .returned (.int .i64 u) ∧ w' = w := by
  have c3 := h.c3
  go_enter Tryd.func23, Tryd.ntmps23
  go_wp2
  go_ret
  exact ⟨rfl, rfl⟩
theorem count_any {w : World} {p a b F N u c k : Nat} {ws : List Int} (h : Stk w p a b ws F N u c k) : Calls Tryd.prog 22 #[.pointer (some ⟨p, 0, none⟩)] w fun e w' => e = .returned (.int .i64 c) ∧ w' = w := by
  have c4 := h.c4
  go_enter Tryd.func22, Tryd.ntmps22
  go_wp2
  go_ret
  exact ⟨rfl, rfl⟩
theorem used_nil (w : World) : Calls Tryd.prog 23 #[.pointer none] w fun e w' => e = .returned (.int .i64 0) ∧ w' = w := by
  go_enter Tryd.func23, Tryd.ntmps23
  go_wp2
  go_ret
  exact ⟨rfl, rfl⟩
theorem count_nil (w : World) : Calls Tryd.prog 22 #[.pointer none] w fun e w' => e = .returned (.int .i64 0) ∧ w' = w := by
  go_enter Tryd.func22, Tryd.ntmps22
  go_wp2
  go_ret
  exact ⟨rfl, rfl⟩
theorem below_drew (w : World) : Below w.heap.size w w.drew := (Below.refl _ w).drew
end Go.Proofs.YtglimbpnekephaaDoor
