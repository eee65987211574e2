/- A pool in memory (a box that holds one slice of numbers), and the contracts of the pool's functions that go over no range. -/
import Derived.Test.YtbdoekffadmejaaGreatDoorProg
import Derived.Test.YtbdoekffadmejaaGreatDoorPure
import Derived.WalkKit
import Derived.Handy
import Derived.BigQuiet
import Derived.Deep.QuietTactic
import Derived.Deep.RegionLaw
import Derived.Deep.OwnRows
import Derived.Laws.CopyOwn
import Derived.Lib.SliceRun
import Derived.Lib.SmallJoins
namespace Go.Proofs.YtbdoekffadmejaaGreatDoor.Bp
open Go.RowKit
set_option linter.unusedVariables false

/-- Numbers as cells. -/
def row (f : Nat → Int) (N : Nat) : List Value := (List.range N).map (fun j => Value.int .i64 (f j))
theorem row_length (f : Nat → Int) (N : Nat) : (row f N).length = N := by simp [row]
theorem row_get (f : Nat → Int) (N i : Nat) (h : i < N) : (row f N)[i]? = some (.int .i64 (f i)) := by simp [row, h]
theorem row_ext {f g : Nat → Int} {N : Nat} (h : ∀ j, j < N → f j = g j) : row f N = row g N := by
  unfold row
  exact List.map_congr_left (fun j hj => by rw [h j (by simpa using hj)])
theorem row_set (f : Nat → Int) (N i : Nat) (v : Int) : row (mark f i 1 v) N = (row f N).set i (.int .i64 v) := by
  apply List.ext_getElem
  · simp [row]
  · intro j h1 h2
    simp only [row, List.getElem_map, List.getElem_range, List.getElem_set, mark]
    split <;> split <;> first | rfl | omega

/-! ### Worlds that part from each other in one old block at most -/
theorem grown_refl (w : World) (r : Option Nat) : w.grownBy w r := ⟨rfl, rfl, rfl, Nat.le_refl _, fun _ _ _ => rfl⟩
theorem grown_trans {a b c : World} {r : Option Nat} (h : a.grownBy b r) (k : b.grownBy c r) : a.grownBy c r :=
  ⟨k.os.trans h.os, k.tape.trans h.tape, k.output.trans h.output, Nat.le_trans h.size k.size, fun i hi hr => (k.block i (Nat.lt_of_lt_of_le hi h.size) hr).trans (h.block i hi hr)⟩
theorem grown_set (w : World) (b i : Nat) (v : Value) : w.grownBy (w.setCell ⟨b, i, none⟩ v) (some b) :=
  ⟨rfl, rfl, rfl, by simp, fun k _ hr => Below.heap_setCell _ _ _ _ (fun e => hr (by rw [e]))⟩
theorem grown_below {w w' : World} (r : Option Nat) (h : Below w.heap.size w w') : w.grownBy w' r := ⟨h.os, h.tape, h.output, h.size, fun k hk _ => h.block k hk⟩
theorem grown_none {w w' : World} (h : w.grownBy w' none) : Below w.heap.size w w' := ⟨h.os, h.tape, h.output, h.size, fun k hk => h.block k hk (by simp)⟩
theorem grown_own {w w1 w2 : World} {b : Nat} (h : Below w.heap.size w w1) (k : w1.grownBy w2 (some b)) (hb : w.heap.size ≤ b) : Below w.heap.size w w2 :=
  h.grown k h.size (fun j e => by cases e; exact hb)

/-- The box at block p (its type T) holds the slice of all N numbers, which lie in block b. -/
structure Has (T : TypeId) (w : World) (p b : Nat) (f : Nat → Int) (N : Nat) : Prop where
  box : w.heap[p]? = some (.cells #[.slice (some ⟨b, 0, none⟩) N N] T (0, 0))
  nums : w.heap[b]? = some (.cells (row f N).toArray 3 (0, 0))
  ne : p ≠ b
  pos : 1 ≤ N
  len : N ≤ 4096
theorem Has.cell {T : TypeId} {w : World} {p b N : Nat} {f : Nat → Int} (h : Has T w p b f N) : w.cell? ⟨p, 0, none⟩ = some (.slice (some ⟨b, 0, none⟩) N N) := by
  rw [Joins.cell_of_block h.box]; rfl
theorem Has.num {T : TypeId} {w : World} {p b N : Nat} {f : Nat → Int} (h : Has T w p b f N) (i : Nat) (hi : i < N) : w.cell? ⟨b, i, none⟩ = some (.int .i64 (f i)) := by
  rw [Joins.cell_of_block h.nums, List.getElem?_toArray, row_get f N i hi]
theorem Has.free {T : TypeId} {w : World} {p b N : Nat} {f : Nat → Int} (h : Has T w p b f N) (i : Nat) : w.frozen? ⟨b, i, none⟩ = false := Joins.unfrozen_of_block h.nums i
theorem Has.lt {T : TypeId} {w : World} {p b N : Nat} {f : Nat → Int} (h : Has T w p b f N) : p < w.heap.size ∧ b < w.heap.size :=
  ⟨(Array.getElem?_eq_some_iff.1 h.box).1, (Array.getElem?_eq_some_iff.1 h.nums).1⟩
theorem Has.kept {T : TypeId} {w w' : World} {p b N : Nat} {f : Nat → Int} {r : Option Nat} (h : Has T w p b f N) (hg : w.grownBy w' r) (hp : some p ≠ r) (hb : some b ≠ r) : Has T w' p b f N :=
  ⟨(hg.block p h.lt.1 hp).trans h.box, (hg.block b h.lt.2 hb).trans h.nums, h.ne, h.pos, h.len⟩
theorem Has.later {T : TypeId} {w w' : World} {p b N : Nat} {f : Nat → Int} (h : Has T w p b f N) (hg : Below w.heap.size w w') : Has T w' p b f N :=
  ⟨(hg.block p h.lt.1).trans h.box, (hg.block b h.lt.2).trans h.nums, h.ne, h.pos, h.len⟩
theorem Has.below {T : TypeId} {w w' : World} {p b N m : Nat} {f : Nat → Int} (h : Has T w p b f N) (hg : Below m w w') (hp : p < m) (hb : b < m) : Has T w' p b f N :=
  ⟨(hg.block p hp).trans h.box, (hg.block b hb).trans h.nums, h.ne, h.pos, h.len⟩
theorem Has.congr {T : TypeId} {w : World} {p b N : Nat} {f g : Nat → Int} (h : Has T w p b f N) (e : ∀ j, j < N → f j = g j) : Has T w p b g N :=
  ⟨h.box, by rw [← row_ext e]; exact h.nums, h.ne, h.pos, h.len⟩
theorem Has.put {T : TypeId} {w : World} {p b N : Nat} {f : Nat → Int} (h : Has T w p b f N) (i : Nat) (v : Int) : Has T (w.setCell ⟨b, i, none⟩ (.int .i64 v)) p b (mark f i 1 v) N := by
  refine ⟨?_, ?_, h.ne, h.pos, h.len⟩
  · rw [Below.heap_setCell _ _ _ _ (show p ≠ b from h.ne), h.box]
  · rw [Joins.block_setCell h.nums, row_set]; simp

/-! ### mark -/
theorem mark_next (f : Nat → Int) (a k : Nat) (v : Int) (N : Nat) : ∀ j, j < N → mark (mark f a k v) (a + k) 1 v j = mark f a (k + 1) v j := by
  intro j _
  unfold mark
  split <;> split <;> first | rfl | (split <;> first | rfl | omega) | omega
set_option maxHeartbeats 1000000 in
theorem mark_ok {w : World} {p b N : Nat} {f : Nat → Int} (h : Has 182 w p b f N) (a n : Nat) (v : Int) (ha : a + n ≤ N) :
    Calls Tryz.prog 145 #[.pointer (some ⟨p, 0, none⟩), .int .i64 a, .int .i64 n, .int .i64 v] w fun e w' => (∃ x, e = .returned x) ∧ Has 182 w' p b (mark f a n v) N ∧ w.grownBy w' (some b) := by
  have l := h.len
  go_enter Tryz.func145, Tryz.ntmps145
  go_wp2
  go_loopw [10] (fun i wr => ∃ k : Nat, k ≤ n ∧ i = .int .i64 k ∧ Has 182 wr p b (mark f a k v) N ∧ w.grownBy wr (some b)) (fun i _ => n - (intOf i).toNat)
  case atStart => exact ⟨0, Nat.zero_le _, rfl, h.congr (fun j _ => (mark_out (by omega)).symm), grown_refl _ _⟩
  case round =>
    obtain ⟨k, hk, rfl, H, G⟩ := hrel
    by_cases hlt : k < n
    · have c := H.cell
      have cw := H.num (a + k) (by omega)
      obtain ⟨x, hx⟩ : ∃ x, mark f a k v (a + k) = x := ⟨_, rfl⟩
      rw [hx] at cw
      have fz := H.free (a + k)
      have P := (H.put (a + k) v).congr (mark_next f a k v N)
      have HP : Hid (Has 182 (wr.setCell ⟨b, a + k, none⟩ (.int .i64 v)) p b (mark f a (k + 1) v) N) := P
      clear P hx
      have z1 : (0 : Int) ≤ (a : Int) + k := by omega
      have z2 : (a : Int) + k < N := by omega
      have z3 : ((a : Int) + k).toNat = a + k := by omega
      go_wp2
      go_roundw
      case rel => exact ⟨k + 1, by omega, by go_num, HP.out, grown_trans G (grown_set _ _ _ _)⟩
      case measure => simp [intOf]; omega
    · obtain rfl : k = n := by omega
      go_wp2
      go_end0
      exact ⟨⟨_, rfl⟩, H, G⟩

/-! ### together -/
theorem below_drewN {w w1 : World} {m : Nat} (B : Below m w w1) (n : Nat) : Below m w (w1.drewN n) := by
  exact ⟨B.os, B.tape, B.output, B.size, B.block⟩

set_option maxHeartbeats 1000000 in
theorem together_ok {w : World} {b o len cap : Nat} {g : Nat → Int} (hc : ∀ j, j < len → w.cell? ⟨b, o + j, none⟩ = some (.int .i64 (g j))) (h1 : 1 ≤ len) (hl : len ≤ 4096) :
    Calls Tryz.prog 174 #[.slice (some ⟨b, o, none⟩) len cap] w fun e w' => e = .returned (.int .i64 (tog g len 0)) ∧ Below w.heap.size w w' := by
  have hb : b < w.heap.size := World.block_lt_of_cell? _ _ (hc 0 (by omega))
  have HC : Hid (∀ j, j < len → w.cell? ⟨b, o + j, none⟩ = some (.int .i64 (g j))) := hc
  clear hc
  go_enter Tryz.func174, Tryz.ntmps174
  go_wp2
  go_loopw [3] (fun i wr => ∃ k : Nat, 1 ≤ k ∧ k ≤ len ∧ i = .int .i64 k ∧ (∀ j, j < k → g j = g 0) ∧ Below w.heap.size w wr) (fun i _ => len - (intOf i).toNat)
  case atStart => exact ⟨1, Nat.le_refl _, h1, rfl, fun j hj => by rw [show j = 0 by omega], Below.refl _ _⟩
  case round =>
    obtain ⟨k, hk1, hk, rfl, ha, B⟩ := hrel
    have c0 : wr.cell? ⟨b, o, none⟩ = some (.int .i64 (g 0)) := (B.cell (p := ⟨b, o, none⟩) hb).trans (HC.out 0 (by omega))
    obtain ⟨y, hy⟩ : ∃ y, g 0 = y := ⟨_, rfl⟩
    rw [hy] at c0
    have HA : Hid (∀ j, j < k → g j = g 0) := ha
    have HY : Hid (g 0 = y) := hy
    clear ha hy
    by_cases hlt : k < len
    · have ck : wr.cell? ⟨b, o + k, none⟩ = some (.int .i64 (g k)) := (B.cell (p := ⟨b, o + k, none⟩) hb).trans (HC.out k hlt)
      obtain ⟨x, hx⟩ : ∃ x, g k = x := ⟨_, rfl⟩
      rw [hx] at ck
      have HX : Hid (g k = x) := hx
      clear hx
      by_cases e : x = y
      · subst e
        go_wp2
        go_quiet (fail)
        go_wp2
        go_roundw
        case rel => exact ⟨k + 1, by omega, by omega, by go_num, fun j hj => by
          rcases Nat.lt_or_ge j k with h | h
          · exact HA.out j h
          · rw [show j = k by omega, HX.out, HY.out], below_drewN B _⟩
        case measure => simp [intOf]; omega
      · go_wp2
        go_quiet (fail)
        go_wp2
        go_ret
        refine ⟨?_, below_drewN B _⟩
        rw [tog_eq (n := k) (by omega) (fun j _ hj => HA.out j (by omega)) (fun _ => by rw [Nat.zero_add, HX.out, HY.out]; exact e)]
        rfl
    · obtain rfl : k = len := by omega
      go_wp2
      go_quiet (fail)
      go_wp2
      go_ret
      refine ⟨?_, below_drewN B _⟩
      rw [tog_eq (n := k) (by omega) (fun j _ hj => HA.out j (by omega)) (fun h => by omega)]
      rfl

theorem ext_shift (f : Nat → Int) (g : Nat) (v : Int) : ∀ (k i : Nat), ext (fun j => f (g + j)) v k i = ext f v k (g + i) := by
  intro k
  induction k with
  | zero => intro i; rfl
  | succ k ih => intro i; simp only [ext, ih, Nat.add_assoc]
theorem tog_shift (f : Nat → Int) (g N : Nat) : tog (fun j => f (g + j)) (N - g) 0 = tog f N g := by
  unfold tog
  rw [ext_shift]
  simp
theorem row_ok {w : World} {p b N : Nat} {f : Nat → Int} (h : Has 182 w p b f N) :
    Calls Tryz.prog 143 #[.pointer (some ⟨p, 0, none⟩)] w fun e w' => e = .returned (.slice (some ⟨b, 0, none⟩) N N) ∧ w' = w := by
  have c := h.cell
  go_enter Tryz.func143, Tryz.ntmps143
  go_wp2
  go_ret
  exact ⟨rfl, rfl⟩
theorem row_nil (w : World) : Calls Tryz.prog 143 #[.pointer none] w fun e w' => e = .returned (.slice none 0 0) ∧ w' = w := by
  go_enter Tryz.func143, Tryz.ntmps143
  go_wp2
  go_ret
  exact ⟨rfl, rfl⟩

/-! ### Group and Free -/
set_option maxHeartbeats 1000000 in
theorem group_any {w : World} {p b N : Nat} {f : Nat → Int} (h : Has 182 w p b f N) (G : Good f N) (i : Int) :
    Calls Tryz.prog 172 #[.pointer (some ⟨p, 0, none⟩), .int .i64 i] w fun e w' => e = .returned (.tuple #[.int .i64 (groupA f N i), .int .i64 (groupN f N i), .int .i64 (groupE f N i)]) ∧ Below w.heap.size w w' := by
  have c := h.cell
  have l := h.len
  by_cases h0 : i < 0
  · have e : groupE f N i = 4 := by unfold groupE; rw [if_neg (by omega)]
    have e1 : groupA f N i = 0 := by simp [groupA, e]
    have e2 : groupN f N i = 0 := by simp [groupN, e]
    rw [e, e1, e2]
    clear e e1 e2
    go_enter Tryz.func172, Tryz.ntmps172
    go_wp2
    go_ret3
    exact ⟨rfl, Below.refl _ _⟩
  · by_cases h1 : (N : Int) ≤ i
    · have e : groupE f N i = 4 := by unfold groupE; rw [if_neg (by omega)]
      have e1 : groupA f N i = 0 := by simp [groupA, e]
      have e2 : groupN f N i = 0 := by simp [groupN, e]
      rw [e, e1, e2]
      clear e e1 e2
      have h2 : 0 ≤ i := by omega
      go_enter Tryz.func172, Tryz.ntmps172
      go_wp2
      go_ret3
      exact ⟨rfl, Below.refl _ _⟩
    · obtain ⟨k, rfl⟩ : ∃ k : Nat, i = k := ⟨i.toNat, by omega⟩
      have hk : k < N := by omega
      have cw := h.num k hk
      by_cases h2 : f k = -1
      · have e : groupE f N k = 8 := by unfold groupE; rw [if_pos (by omega)]; simp [h2]
        have e1 : groupA f N k = 0 := by simp [groupA, e]
        have e2 : groupN f N k = 0 := by simp [groupN, e]
        rw [e, e1, e2]
        rw [h2] at cw
        clear e e1 e2 h2
        go_enter Tryz.func172, Tryz.ntmps172
        go_wp2
        go_ret3
        exact ⟨rfl, Below.refl _ _⟩
      · obtain ⟨g, k1, k2, k3, k4⟩ := G.first hk h2
        have e : groupE f N k = 0 := by unfold groupE; rw [if_pos (by omega)]; simp [h2]
        have e1 : groupA f N k = g := by simp [groupA, e, k1]
        have e2 : groupN f N k = tog f N g := by simp [groupN, e, k1]
        rw [e, e1, e2]
        rw [k1] at cw
        have T := together_ok (w := w) (b := b) (o := g) (len := N - g) (cap := N - g) (g := fun j => f (g + j)) (fun j hj => h.num (g + j) (by omega)) (by omega) (by omega)
        rw [tog_shift] at T
        have hg : g ≤ N := by omega
        have hg2 : ¬ ((g : Int) = -1) := by omega
        clear e e1 e2 h2 k1 k3 k4
        go_enter Tryz.func172, Tryz.ntmps172
        go_wp2_with (go_at_call 174; refine T.mono ?_; rintro e w1 ⟨rfl, B⟩)
        go_ret3
        exact ⟨rfl, B⟩
theorem group_nil (i : Int) (w : World) : Calls Tryz.prog 172 #[.pointer none, .int .i64 i] w fun e w' => e = .returned (.tuple #[.int .i64 0, .int .i64 0, .int .i64 1]) ∧ w' = w := by
  go_enter Tryz.func172, Tryz.ntmps172
  go_wp2
  go_ret3
  exact ⟨rfl, rfl⟩
theorem free_nil (i : Int) (w : World) : Calls Tryz.prog 136 #[.pointer none, .int .i64 i] w fun e w' => e = .returned (.int .i64 1) ∧ w' = w := by
  go_enter Tryz.func136, Tryz.ntmps136
  go_wp2
  go_ret
  exact ⟨rfl, rfl⟩
set_option maxHeartbeats 1000000 in
theorem free_any {w : World} {p b N : Nat} {f : Nat → Int} (h : Has 182 w p b f N) (G : Good f N) (i : Int) :
    Calls Tryz.prog 136 #[.pointer (some ⟨p, 0, none⟩), .int .i64 i] w fun e w' => e = .returned (.int .i64 (freeE f N i)) ∧ Has 182 w' p b (freeF f N i) N ∧ w.grownBy w' (some b) := by
  have gr := group_any h G i
  by_cases h0 : groupE f N i = 0
  · have hi : 0 ≤ i ∧ i < N ∧ f i.toNat ≠ -1 := by
      unfold groupE at h0
      split at h0
      · split at h0
        · simp at h0
        · rename_i a b; exact ⟨a.1, a.2, b⟩
      · simp at h0
    obtain ⟨k, rfl⟩ : ∃ k : Nat, i = k := ⟨i.toNat, by omega⟩
    simp only [Int.toNat_natCast] at hi
    by_cases h1 : f k = k
    · have e : freeE f N k = 0 := by simp [freeE, h1]; omega
      have e' : freeF f N k = mark f k (tog f N k) (-1) := by simp [freeF, e]
      have e1 : groupA f N k = k := by simp [groupA, h0, h1]
      have e2 : groupN f N k = tog f N k := by simp [groupN, h0, h1]
      rw [h0, e1, e2] at gr
      rw [e, e']
      have tl := tog_le f (i := k) (N := N) (by omega)
      obtain ⟨t, ht⟩ : ∃ t, tog f N k = t := ⟨_, rfl⟩
      rw [ht] at gr tl ⊢
      have HG : Hid (Has 182 w p b f N) := h
      clear e e' e1 e2 h0 hi h1 ht G h
      go_enter Tryz.func136, Tryz.ntmps136
      go_wp2_with (first | (go_at_call 172; refine gr.mono ?_; rintro e w1 ⟨rfl, B⟩; have M := mark_ok (HG.out.later B) k t (-1) tl) | (go_at_call 145; refine M.mono ?_; rintro e w2 ⟨⟨x, rfl⟩, H2, G2⟩))
      go_ret
      exact ⟨rfl, H2, grown_trans (grown_below _ B) G2⟩
    · have e : freeE f N k = 8 := by simp [freeE, h1]
      have e' : freeF f N k = f := by simp [freeF, e]
      have e1 : groupA f N k = f k := by simp [groupA, h0]
      rw [h0, e1] at gr
      rw [e, e']
      have HG : Hid (Has 182 w p b f N) := h
      clear e e' e1 h0 hi G h
      obtain ⟨x, hx⟩ : ∃ x, f k = x := ⟨_, rfl⟩
      rw [hx] at gr h1
      clear hx
      go_enter Tryz.func136, Tryz.ntmps136
      go_wp2_with (go_at_call 172; refine gr.mono ?_; rintro e w1 ⟨rfl, B⟩)
      go_ret
      exact ⟨rfl, HG.out.later B, grown_below _ B⟩
  · have e : freeE f N i = 8 := by
      unfold freeE
      rw [if_neg]
      intro hh
      apply h0
      unfold groupE
      rw [if_pos ⟨hh.1, hh.2.1⟩, if_neg]
      omega
    have e' : freeF f N i = f := by simp [freeF, e]
    rw [e, e']
    have HG : Hid (Has 182 w p b f N) := h
    obtain ⟨x, hx⟩ : ∃ x, groupE f N i = x := ⟨_, rfl⟩
    rw [hx] at gr h0
    clear e e' G h hx
    go_enter Tryz.func136, Tryz.ntmps136
    go_wp2_with (go_at_call 172; refine gr.mono ?_; rintro e w1 ⟨rfl, B⟩)
    go_ret
    exact ⟨rfl, HG.out.later B, grown_below _ B⟩

/-! ### New -/
theorem made_nums (n : Nat) : madeCells #[.int .i64 0] n = (row (fun _ => 0) n).toArray := by
  apply Array.ext
  · simp [madeCells, row]
  · intro i h1 h2
    simp [madeCells, row, Nat.mod_one]
theorem info3 : (Tryz.prog.info? 3).map (fun i => (i.zero, i.size, i.bytes)) = some (some (.int .i64 0), 1, 8) := by kernel_rfl
theorem Has.fresh (T : TypeId) (w : World) (f : Nat → Int) (N : Nat) (h1 : 1 ≤ N) (h2 : N ≤ 4096) : Has T ((w.alloc (.cells (row f N).toArray 3)).alloc (.cells #[.slice (some ⟨w.heap.size, 0, none⟩) N N] T)) (w.heap.size + 1) w.heap.size f N := by
  refine ⟨?_, ?_, by omega, h1, h2⟩
  · have := heap_alloc_new (w.alloc (.cells (row f N).toArray 3)) (.cells #[.slice (some ⟨w.heap.size, 0, none⟩) N N] T)
    simpa using this
  · rw [Below.heap_alloc _ _ _ (by simp)]
    exact heap_alloc_new _ _
set_option maxHeartbeats 1000000 in
theorem new_ok (n : Nat) (w : World) (h1 : 1 ≤ n) (h2 : n ≤ 4096) :
    Calls Tryz.prog 89 #[.int .i64 n] w fun e w' => e = .returned (.tuple #[.pointer (some ⟨w.heap.size + 1, 0, none⟩), .int .i64 0]) ∧ Has 182 w' (w.heap.size + 1) w.heap.size (fun _ => -1) n ∧ Below w.heap.size w w' := by
  have hmk := Go.run_make_row' (P := Tryz.prog) 31 3 (.int .i64 0) 8 Tryz.underlying31 info3 rfl .i64 .i64 n (by omega) (by omega)
  rw [made_nums] at hmk
  have F := Has.fresh 182 w (fun _ => 0) n h1 h2
  have M := mark_ok F 0 n (-1) (by omega)
  clear F
  go_enter Tryz.func89, Tryz.ntmps89
  go_wp2_with (go_at_call 145; refine M.mono ?_; rintro e w2 ⟨⟨x, rfl⟩, H2, G2⟩)
  go_ret2
  exact ⟨rfl, H2.congr (fun j hj => mark_in (by omega) (by omega)), grown_own (by go_grown) G2 (Nat.le_refl _)⟩
theorem new_no (n : Int) (w : World) (h : ¬ (1 ≤ n ∧ n ≤ 4096)) :
    Calls Tryz.prog 89 #[.int .i64 n] w fun e w' => e = .returned (.tuple #[.pointer none, .int .i64 7]) ∧ w' = w := by
  by_cases h1 : n < 1
  · go_enter Tryz.func89, Tryz.ntmps89
    go_wp2
    go_ret2
    exact ⟨rfl, rfl⟩
  · have h2 : 4096 < n := by omega
    have h3 : 1 ≤ n := by omega
    go_enter Tryz.func89, Tryz.ntmps89
    go_wp2
    go_ret2
    exact ⟨rfl, rfl⟩
end Go.Proofs.YtbdoekffadmejaaGreatDoor.Bp
