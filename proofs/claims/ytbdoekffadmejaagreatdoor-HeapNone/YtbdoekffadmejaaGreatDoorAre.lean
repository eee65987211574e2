/- An arena in memory (a box that holds one slice of words), and the contracts of the arena's functions that a space calls. -/
import Derived.Test.YtbdoekffadmejaaGreatDoorPool
namespace Go.Proofs.YtbdoekffadmejaaGreatDoor.Bp.Ar
open Go.RowKit
set_option linter.unusedVariables false

/-- Words as cells. -/
def row (xs : List Int) : List Value := xs.map (Value.int .u64)
theorem row_length (xs : List Int) : (row xs).length = xs.length := by simp [row]
theorem row_get (xs : List Int) (i : Nat) (h : i < xs.length) : (row xs)[i]? = some (.int .u64 (xs.getD i 0)) := by simp [row, h]
theorem row_set (xs : List Int) (i : Nat) (v : Int) : row (xs.set i v) = (row xs).set i (.int .u64 v) := by simp [row, List.map_set]

/-! ### Worlds that part from each other in one old block at most -/
theorem grown_row (w : World) (b : Nat) (cs : Array Value) : w.grownBy (w.setRow b cs) (some b) :=
  ⟨rfl, rfl, rfl, by simp, fun k _ hr => setRow_other _ _ _ _ (fun e => hr (by rw [e]))⟩

/-- The box at block p holds the slice of all words xs, which lie in block b. -/
structure Has (T : TypeId) (w : World) (p b : Nat) (xs : List Int) : Prop where
  box : w.heap[p]? = some (.cells #[.slice (some ⟨b, 0, none⟩) xs.length xs.length] T (0, 0))
  words : w.heap[b]? = some (.cells (row xs).toArray 59 (0, 0))
  ne : p ≠ b
  len : xs.length ≤ 524288

theorem Has.cell {T : TypeId} {w : World} {p b : Nat} {xs : List Int} (h : Has T w p b xs) : w.cell? ⟨p, 0, none⟩ = some (.slice (some ⟨b, 0, none⟩) xs.length xs.length) := by
  rw [Joins.cell_of_block h.box]; rfl
theorem Has.word {T : TypeId} {w : World} {p b : Nat} {xs : List Int} (h : Has T w p b xs) (i : Nat) (hi : i < xs.length) : w.cell? ⟨b, i, none⟩ = some (.int .u64 (xs.getD i 0)) := by
  rw [Joins.cell_of_block h.words, List.getElem?_toArray, row_get xs i hi]
theorem Has.free {T : TypeId} {w : World} {p b : Nat} {xs : List Int} (h : Has T w p b xs) (i : Nat) : w.frozen? ⟨b, i, none⟩ = false := Joins.unfrozen_of_block h.words i
theorem Has.lt {T : TypeId} {w : World} {p b : Nat} {xs : List Int} (h : Has T w p b xs) : p < w.heap.size ∧ b < w.heap.size :=
  ⟨(Array.getElem?_eq_some_iff.1 h.box).1, (Array.getElem?_eq_some_iff.1 h.words).1⟩
theorem Has.kept {T : TypeId} {w w' : World} {p b : Nat} {xs : List Int} {r : Option Nat} (h : Has T w p b xs) (hg : w.grownBy w' r) (hp : some p ≠ r) (hb : some b ≠ r) : Has T w' p b xs :=
  ⟨(hg.block p h.lt.1 hp).trans h.box, (hg.block b h.lt.2 hb).trans h.words, h.ne, h.len⟩
theorem Has.later {T : TypeId} {w w' : World} {p b : Nat} {xs : List Int} (h : Has T w p b xs) (hg : Below w.heap.size w w') : Has T w' p b xs :=
  ⟨(hg.block p h.lt.1).trans h.box, (hg.block b h.lt.2).trans h.words, h.ne, h.len⟩
theorem Has.put {T : TypeId} {w : World} {p b : Nat} {xs : List Int} (h : Has T w p b xs) (i : Nat) (v : Int) : Has T (w.setCell ⟨b, i, none⟩ (.int .u64 v)) p b (xs.set i v) := by
  refine ⟨?_, ?_, h.ne, by simpa using h.len⟩
  · rw [Below.heap_setCell _ _ _ _ (show p ≠ b from h.ne), h.box]; simp
  · rw [Joins.block_setCell h.words, row_set]; simp
theorem Has.lay {T : TypeId} {w : World} {p b : Nat} {xs : List Int} (h : Has T w p b xs) (ys : List Int) (hl : ys.length = xs.length) : Has T (w.setRow b (row ys).toArray) p b ys := by
  refine ⟨?_, ?_, h.ne, by rw [hl]; exact h.len⟩
  · rw [setRow_other _ _ _ _ h.ne, h.box, hl]
  · exact setRow_heap _ _ _ _ _ _ h.words

/-! ### What is answered, by plain numbers -/
def atE (n : Nat) (i : Int) : Int := if 0 ≤ i ∧ i < n then 0 else 4
def readW (xs : List Int) (i : Int) : Int := if 0 ≤ i ∧ i < xs.length then xs.getD i.toNat 0 else 0
def writeL (xs : List Int) (i v : Int) : List Int := if 0 ≤ i ∧ i < xs.length then xs.set i.toNat v else xs
def within (n : Nat) (i k : Int) : Bool := decide (0 ≤ i ∧ k ≤ n - i)
def moveE (n : Nat) (to fr k : Int) : Int := if k < 0 then 7 else if within n to k = true ∧ within n fr k = true then 0 else 4
def moveL (xs : List Int) (to fr k : Int) : List Int := if moveE xs.length to fr k = 0 then splice xs to.toNat ((xs.drop fr.toNat).take k.toNat) else xs
def clearE (n : Nat) (fr k : Int) : Int := if k < 0 then 7 else if within n fr k = true then 0 else 4
def clearL (xs : List Int) (fr k : Int) : List Int := if clearE xs.length fr k = 0 then splice xs fr.toNat (List.replicate k.toNat 0) else xs

/-! ### The looks -/
theorem place_ok {w : World} {p b : Nat} {xs : List Int} (h : Has 169 w p b xs) (i : Int) (hi : 0 ≤ i ∧ i < xs.length) :
    Calls Tryz.prog 121 #[.pointer (some ⟨p, 0, none⟩), .int .i64 i] w fun e w' => e = .returned (.int .i64 0) ∧ w' = w := by
  have c := h.cell
  have l := h.len
  have h1 := hi.1
  have h2 := hi.2
  go_enter Tryz.func121, Tryz.ntmps121
  go_wp2
  go_ret
  exact ⟨rfl, rfl⟩
theorem place_no {w : World} {p b : Nat} {xs : List Int} (h : Has 169 w p b xs) (i : Int) (hi : ¬ (0 ≤ i ∧ i < xs.length)) :
    Calls Tryz.prog 121 #[.pointer (some ⟨p, 0, none⟩), .int .i64 i] w fun e w' => e = .returned (.int .i64 4) ∧ w' = w := by
  have c := h.cell
  have l := h.len
  by_cases h0 : i < 0
  · go_enter Tryz.func121, Tryz.ntmps121
    go_wp2
    go_ret
    exact ⟨rfl, rfl⟩
  · have h1 : (xs.length : Int) ≤ i := by omega
    have h2 : 0 ≤ i := by omega
    go_enter Tryz.func121, Tryz.ntmps121
    go_wp2
    go_ret
    exact ⟨rfl, rfl⟩
theorem count_any {w : World} {p : Nat} (k : Int) :
    Calls Tryz.prog 166 #[.pointer (some ⟨p, 0, none⟩), .int .i64 k] w fun e w' => e = .returned (.int .i64 (if k < 0 then 7 else 0)) ∧ w' = w := by
  by_cases h0 : k < 0
  · rw [if_pos h0]
    go_enter Tryz.func166, Tryz.ntmps166
    go_wp2
    go_ret
    exact ⟨rfl, rfl⟩
  · rw [if_neg h0]
    have h1 : 0 ≤ k := by omega
    go_enter Tryz.func166, Tryz.ntmps166
    go_wp2
    go_ret
    exact ⟨rfl, rfl⟩
theorem has_any {w : World} {p b : Nat} {xs : List Int} (h : Has 169 w p b xs) (i k : Int) (hi : i ≤ 9223372036854775807) :
    Calls Tryz.prog 167 #[.pointer (some ⟨p, 0, none⟩), .int .i64 i, .int .i64 k] w fun e w' => e = .returned (.bool (within xs.length i k)) ∧ w' = w := by
  have c := h.cell
  have l := h.len
  by_cases h0 : 0 ≤ i
  · have e : within xs.length i k = decide (k ≤ (xs.length : Int) - i) := by simp [within, h0]
    rw [e]
    go_enter Tryz.func167, Tryz.ntmps167
    go_wp2
    go_ret
    exact ⟨rfl, rfl⟩
  · have e : within xs.length i k = false := by simp [within, h0]
    rw [e]
    have h1 : i < 0 := by omega
    go_enter Tryz.func167, Tryz.ntmps167
    go_wp2
    go_ret
    exact ⟨rfl, rfl⟩
theorem len_any {w : World} {p b : Nat} {xs : List Int} (h : Has 169 w p b xs) :
    Calls Tryz.prog 195 #[.pointer (some ⟨p, 0, none⟩)] w fun e w' => e = .returned (.int .i64 xs.length) ∧ w' = w := by
  have c := h.cell
  go_enter Tryz.func195, Tryz.ntmps195
  go_wp2
  go_ret
  exact ⟨rfl, rfl⟩
theorem splice_cons {α : Type} (cur : List α) (off : Nat) (c : α) (cs : List α) (h : off < cur.length) : splice (cur.set off c) (off + 1) cs = splice cur off (c :: cs) := by
  have e : (cur.set off c).take (off + 1) = cur.take off ++ [c] := by
    rw [← List.take_append_getElem (by simpa using h : off < (cur.set off c).length)]
    simp [List.take_set]
    exact List.set_eq_of_length_le (by simp; omega)
  simp only [splice, List.length_cons, e]
  rw [List.drop_set_of_lt (by omega), show off + 1 + cs.length = off + (cs.length + 1) by omega]
  simp

theorem setCells_row (w : World) (g : Nat) (cs : List Value) : ∀ (off : Nat) (cur : List Value) (t : TypeId) (hg : w.heap[g]? = some (.cells cur.toArray t (0, 0))) (hfit : off + cs.length ≤ cur.length),
    (w.setCells g off cs).heap[g]? = some (.cells (splice cur off cs).toArray t (0, 0)) ∧ w.grownBy (w.setCells g off cs) (some g) := by
  induction cs generalizing w with
  | nil => intro off cur t hg _; exact ⟨by simpa [splice, World.setCells] using hg, grown_refl _ _⟩
  | cons c cs ih =>
    intro off cur t hg hfit
    have hs : (w.setCell ⟨g, off, none⟩ c).heap[g]? = some (.cells (cur.set off c).toArray t (0, 0)) := by rw [Joins.block_setCell hg]; simp
    have := ih (w.setCell ⟨g, off, none⟩ c) (off + 1) (cur.set off c) t hs (by simp at hfit ⊢; omega)
    refine ⟨?_, grown_trans (grown_set _ _ _ _) this.2⟩
    refine (this.1).trans ?_
    rw [splice_cons cur off c cs (by simp at hfit; omega)]

/-! ### What is made -/
theorem made_words (n : Nat) : madeCells #[.int .u64 0] n = (row (List.replicate n 0)).toArray := by
  apply Array.ext
  · simp [madeCells, row]
  · intro i h1 h2
    simp [madeCells, row, Nat.mod_one]
theorem info41 : (Tryz.prog.info? 59).map (fun i => (i.zero, i.size, i.bytes)) = some (some (.int .u64 0), 1, 8) := by kernel_rfl

theorem Has.fresh (T : TypeId) (w : World) (xs : List Int) (hl : xs.length ≤ 524288) : Has T ((w.alloc (.cells (row xs).toArray 59)).alloc (.cells #[.slice (some ⟨w.heap.size, 0, none⟩) xs.length xs.length] T)) (w.heap.size + 1) w.heap.size xs := by
  refine ⟨?_, ?_, by omega, hl⟩
  · have := heap_alloc_new (w.alloc (.cells (row xs).toArray 59)) (.cells #[.slice (some ⟨w.heap.size, 0, none⟩) xs.length xs.length] T)
    simpa using this
  · rw [Below.heap_alloc _ _ _ (by simp)]
    exact heap_alloc_new _ _

def newE (n : Int) : Int := if 1 ≤ n ∧ n ≤ 524288 then 0 else 7
theorem new_ok (n : Nat) (w : World) (h1 : 1 ≤ n) (h2 : n ≤ 524288) :
    Calls Tryz.prog 90 #[.int .i64 n] w fun e w' => e = .returned (.tuple #[.pointer (some ⟨w.heap.size + 1, 0, none⟩), .int .i64 0]) ∧ Has 169 w' (w.heap.size + 1) w.heap.size (List.replicate n 0) ∧ Below w.heap.size w w' := by
  have hmk := Go.run_make_row' (P := Tryz.prog) 32 59 (.int .u64 0) 8 Tryz.underlying32 info41 rfl .i64 .i64 n (by omega) (by omega)
  rw [made_words] at hmk
  have F := Has.fresh 169 w (List.replicate n 0) (by simpa using h2)
  simp only [List.length_replicate] at F
  have HF : Hid (Has 169 _ _ _ _) := F
  clear F
  go_enter Tryz.func90, Tryz.ntmps90
  go_wp2
  go_ret2
  exact ⟨rfl, HF.out, by go_grown⟩
theorem new_no (n : Int) (w : World) (h : ¬ (1 ≤ n ∧ n ≤ 524288)) :
    Calls Tryz.prog 90 #[.int .i64 n] w fun e w' => e = .returned (.tuple #[.pointer none, .int .i64 7]) ∧ w' = w := by
  by_cases h1 : n < 1
  · go_enter Tryz.func90, Tryz.ntmps90
    go_wp2
    go_ret2
    exact ⟨rfl, rfl⟩
  · have h2 : 524288 < n := by omega
    have h3 : 1 ≤ n := by omega
    go_enter Tryz.func90, Tryz.ntmps90
    go_wp2
    go_ret2
    exact ⟨rfl, rfl⟩
/-! ### Read and Write -/
theorem read_any {w : World} {p b : Nat} {xs : List Int} (h : Has 169 w p b xs) (i : Int) :
    Calls Tryz.prog 116 #[.pointer (some ⟨p, 0, none⟩), .int .i64 i] w fun e w' => e = .returned (.tuple #[.int .u64 (readW xs i), .int .i64 (atE xs.length i)]) ∧ w' = w := by
  by_cases hi : 0 ≤ i ∧ i < xs.length
  · obtain ⟨k, rfl⟩ := Int.eq_ofNat_of_zero_le hi.1
    have hk : k < xs.length := by omega
    have c := h.cell
    have cw := h.word k hk
    have l := h.len
    have e1 : readW xs k = xs.getD k 0 := by unfold readW; rw [if_pos hi]; rfl
    have e2 : atE xs.length k = 0 := by unfold atE; rw [if_pos hi]
    rw [e1, e2]
    obtain ⟨x, hx⟩ : ∃ x, xs.getD k 0 = x := ⟨_, rfl⟩
    rw [hx] at cw ⊢
    clear hx e1 e2
    go_enter Tryz.func116, Tryz.ntmps116
    go_wp2_with (go_at_call 121; refine (place_ok h k hi).mono ?_; rintro e w' ⟨rfl, rfl⟩)
    go_ret2
    exact ⟨rfl, rfl⟩
  · have e1 : readW xs i = 0 := by unfold readW; rw [if_neg hi]
    have e2 : atE xs.length i = 4 := by unfold atE; rw [if_neg hi]
    rw [e1, e2]
    go_enter Tryz.func116, Tryz.ntmps116
    go_wp2_with (go_at_call 121; refine (place_no h i hi).mono ?_; rintro e w' ⟨rfl, rfl⟩)
    go_ret2
    exact ⟨rfl, rfl⟩

theorem write_any {w : World} {p b : Nat} {xs : List Int} (h : Has 169 w p b xs) (i v : Int) :
    Calls Tryz.prog 64 #[.pointer (some ⟨p, 0, none⟩), .int .i64 i, .int .u64 v] w fun e w' => e = .returned (.int .i64 (atE xs.length i)) ∧ Has 169 w' p b (writeL xs i v) ∧ w.grownBy w' (some b) := by
  by_cases hi : 0 ≤ i ∧ i < xs.length
  · obtain ⟨k, rfl⟩ := Int.eq_ofNat_of_zero_le hi.1
    have hk : k < xs.length := by omega
    have c := h.cell
    have cw := h.word k hk
    have fz := h.free k
    have l := h.len
    have e1 : writeL xs k v = xs.set k v := by unfold writeL; rw [if_pos hi]; rfl
    have e2 : atE xs.length k = 0 := by unfold atE; rw [if_pos hi]
    rw [e1, e2]
    go_enter Tryz.func64, Tryz.ntmps64
    go_wp2_with (go_at_call 121; refine (place_ok h k hi).mono ?_; rintro e w' ⟨rfl, rfl⟩)
    go_ret
    exact ⟨rfl, h.put k v, grown_set _ _ _ _⟩
  · have e1 : writeL xs i v = xs := by unfold writeL; rw [if_neg hi]
    have e2 : atE xs.length i = 4 := by unfold atE; rw [if_neg hi]
    rw [e1, e2]
    go_enter Tryz.func64, Tryz.ntmps64
    go_wp2_with (go_at_call 121; refine (place_no h i hi).mono ?_; rintro e w' ⟨rfl, rfl⟩)
    go_ret
    exact ⟨rfl, h, grown_refl _ _⟩

/-! ### Move and Clear -/
theorem row_splice (xs ys : List Int) (o : Nat) : row (splice xs o ys) = splice (row xs) o (row ys) := by simp [row, splice, List.map_take, List.map_drop]
theorem row_cut (xs : List Int) (f k : Nat) : row ((xs.drop f).take k) = ((row xs).drop f).take k := by simp [row, List.map_take, List.map_drop]
theorem row_one (xs : List Int) : ∀ v ∈ row xs, v.oneCell' = true := by
  intro v hv
  simp only [row, List.mem_map] at hv
  obtain ⟨x, _, rfl⟩ := hv
  rfl
theorem Has.spliced {T : TypeId} {w w' : World} {p b o : Nat} {xs ys : List Int} (h : Has T w p b xs) (hf : o + ys.length ≤ xs.length) (hw : w'.heap[b]? = some (.cells (splice (row xs) o (row ys)).toArray 59 (0, 0))) (hg : w.grownBy w' (some b)) : Has T w' p b (splice xs o ys) := by
  have e : (splice xs o ys).length = xs.length := length_splice _ _ _ hf
  refine ⟨?_, ?_, h.ne, by rw [e]; exact h.len⟩
  · rw [hg.block p h.lt.1 (by simpa using h.ne), h.box, e]
  · rw [hw, row_splice]
theorem size41 : (Tryz.prog.info? 59).map (·.size) = some 1 := by kernel_rfl

theorem Has.drew {T : TypeId} {w : World} {p b : Nat} {xs : List Int} (h : Has T w p b xs) : Has T w.drew p b xs := ⟨h.box, h.words, h.ne, h.len⟩
theorem grown_drew (w : World) (r : Option Nat) : w.grownBy w.drew r := ⟨rfl, rfl, rfl, Nat.le_refl _, fun _ _ _ => rfl⟩
theorem within_nat {n : Nat} {i k : Int} (hk : 0 ≤ k) (h : within n i k = true) : ∃ a c : Nat, i = a ∧ k = c ∧ a + c ≤ n := by
  simp only [within, decide_eq_true_eq] at h
  exact ⟨i.toNat, k.toNat, by omega, by omega, by omega⟩

theorem zero41 (w : World) : (zeroValue 59).run Tryz.prog w = .ok (.int .u64 0) w := by kernel_rfl
theorem row_zero (k : Nat) : row (List.replicate k 0) = List.replicate k (.int .u64 0) := by simp [row]

set_option maxHeartbeats 1000000 in
theorem clear_in {w : World} {p b : Nat} {xs : List Int} (h : Has 169 w p b xs) (f k : Nat) (hf : f + k ≤ xs.length) (hk : 0 < k) :
    Calls Tryz.prog 129 #[.pointer (some ⟨p, 0, none⟩), .int .i64 f, .int .i64 k] w fun e w' => e = .returned (.int .i64 0) ∧ Has 169 w' p b (splice xs f (List.replicate k 0)) ∧ w.grownBy w' (some b) := by
  have c := h.cell
  have l := h.len
  have wf : within xs.length f k = true := by simp [within]; omega
  have ct := count_any (w := w) (p := p) (k : Int)
  rw [if_neg (by omega)] at ct
  have at2 := has_any h f k (by omega)
  rw [wf] at at2
  have hcl : ∀ ty, (Builtin.clear_ #[32] ty #[.slice (some ⟨b, f, none⟩) k (xs.length - f)]).run Tryz.prog w = .ok (.tuple #[]) (w.setCells b f (List.replicate k (.int .u64 0))) :=
    fun ty => Lib.run_clear_slice w 32 59 ty (.int .u64 0) Tryz.underlying32 zero41 rfl rfl b f k _ hk (fun j hj => by rw [h.word (f + j) (by omega)]; rfl) (fun j hj => h.free (f + j))
  have R := setCells_row w b (row (List.replicate k 0)) f (row xs) 59 h.words (by rw [row_length, row_length]; simpa using hf)
  have R2 : Has 169 (w.setCells b f (List.replicate k (.int .u64 0))) p b (splice xs f (List.replicate k 0)) := by
    have := h.spliced (o := f) (ys := List.replicate k 0) (by simpa using hf) R.1 R.2
    rwa [row_zero] at this
  have R3 : w.grownBy (w.setCells b f (List.replicate k (.int .u64 0))) (some b) := by have := R.2; rwa [row_zero] at this
  obtain ⟨w2, hw2⟩ : ∃ w2, w.setCells b f (List.replicate k (.int .u64 0)) = w2 := ⟨_, rfl⟩
  rw [hw2] at R2 R3
  simp only [hw2] at hcl
  clear R hw2
  have n4 : (f : Int) + k ≤ xs.length := by omega
  have n6 : ¬ (xs.length = f) := by omega
  have n8 : (0 : Int) ≤ (f : Int) + k := by omega
  have q4 : ((f : Int) + k).toNat = f + k := by omega
  go_enter Tryz.func129, Tryz.ntmps129
  go_wp2_with (first | (go_at_call 166; refine ct.mono ?_; rintro e w1 ⟨rfl, hw⟩; rw [hw]; clear hw) | (go_at_call 167; refine at2.mono ?_; rintro e w1 ⟨rfl, hw⟩; rw [hw]; clear hw))
  go_ret
  exact ⟨rfl, R2, R3⟩

end Go.Proofs.YtbdoekffadmejaaGreatDoor.Bp.Ar
