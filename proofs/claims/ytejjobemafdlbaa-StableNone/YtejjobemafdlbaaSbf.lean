/- Package stable: New. -/
import Derived.Test.YtejjobemafdlbaaSbe
import Derived.Shelf.Bits.Mul64
import Derived.Laws.CopyRow
import Derived.Lib.SlBuf
import Derived.Deep.RegionHeld3
namespace Go.Proofs.Ytejjobemafdlbaa
open Go.RowKit
set_option linter.unusedVariables false
set_option linter.unusedSimpArgs false

set_option maxHeartbeats 1000000 in
theorem mul64_one (w : World) (n : Nat) (hn : n ≤ 256) :
    Calls Try.prog 38 #[.int .u64 1, .int .u64 (n : Int)] w fun e w' => e = .returned (.tuple #[.int .u64 0, .int .u64 (n : Int)]) ∧ w' = w := by
  have m1 : bits .and .u64 1 4294967295 = 1 := by kernel_rfl
  have m2 : bits .and .u64 (n : Int) 4294967295 = (n : Int) := by rw [Go.Proofs.Mul64.maskN n (by omega)]; congr 1; omega
  have m3 : (n : Int) / 4294967296 = 0 := by omega
  go_enter Try.func38, Try.ntmps38
  go_wp2
  go_ret2
  exact ⟨rfl, rfl⟩
theorem mul_one (w : World) (n : Nat) (hn : n ≤ 256) :
    Calls Try.prog 36 #[.int .u64 1, .int .u64 (n : Int)] w fun e w' => e = .returned (.tuple #[.int .u64 0, .int .u64 (n : Int)]) ∧ w' = w := by
  have MU := mul64_one w n hn
  go_enter Try.func36, Try.ntmps36
  go_wp2_with (go_at_call 38; refine MU.mono ?_; rintro e w1 ⟨rfl, hw⟩; rw [hw]; clear hw)
  go_ret2
  exact ⟨rfl, rfl⟩

theorem setRow_far (w : World) {g k : Nat} (cs : Array Value) (h : k ≠ g) : (w.setRow g cs).heap[k]? = w.heap[k]? := by
  unfold World.setRow
  simp [Array.getElem?_modify, Ne.symm h]
/-- of n slots the first k are new ones -/
def Fil (W : World) (g n k : Nat) : Prop :=
  ∃ cur, W.heap[g]? = some (.cells cur 53 (0, 0)) ∧ cur.size = n * 2 ∧ (∀ i, i < k → cur[i * 2]? = some (.int .i64 0) ∧ cur[i * 2 + 1]? = some (.int .i64 1)) ∧ ∀ j, j < n * 2 → ∃ z, cur[j]? = some (.int .i64 z)
theorem info53 : (Try.prog.info? 53).map (fun i => (i.zero, i.size, i.bytes)) = some (some (.agg #[.int .i64 0, .int .i64 0]), 2, 16) := by kernel_rfl
theorem made_slots (w : World) (n : Nat) (hn : n ≤ 256) :
    ∃ w', (Instr.makeSlice 50 (.int .i64 (n : Int)) (.int .i64 (n : Int))).run Try.prog w = .ok (.slice (some ⟨w.heap.size, 0, none⟩) n n) w' ∧ Fil w' w.heap.size n 0 ∧ Below w.heap.size w w' := by
  obtain ⟨i, hi, hz, hs, hb⟩ := info_parts info53
  have hr := run_make (P := Try.prog) w 50 53 i _ Try.underlying50 hi hz .i64 .i64 n n (by omega) (by omega) (by rw [hb]; omega) (by omega)
  simp only [Int.toNat_natCast, hs] at hr
  refine ⟨_, hr, ⟨_, heap_alloc_new _ _, by simp [size_madeCells], fun i hi => absurd hi (Nat.not_lt_zero _), fun j hj => ?_⟩, (Below.refl _ _).alloc (Nat.le_refl _) _⟩
  refine ⟨0, ?_⟩
  have : j % 2 = 0 ∨ j % 2 = 1 := by omega
  rcases this with e | e <;> simp [madeCells, Value.cells, hj, e]
theorem run_copy2 (w : World) (ty : TypeId) (g o dLen dCap : Nat) (a : Addr) (sLen sCap : Nat) (cur : Array Value) (t : TypeId) (cs : List Value) (m : Nat)
    (hg : w.heap[g]? = some (.cells cur t (0, 0))) (hm : Nat.min sLen dLen = m) (hn : cs.length = m * 2)
    (hsrc : ∀ j v, cs[j]? = some v → w.cell? (a.add j) = some v) (hfit : o + cs.length ≤ cur.size) (h1 : ∀ v ∈ cs, v.oneCell' = true) :
    (Builtin.copy_ #[50, 50] ty #[.slice (some ⟨g, o, none⟩) dLen dCap, .slice (some a) sLen sCap]).run Try.prog w =
      .ok (.int .i64 (m : Int)) (w.setRow g (cur.toList.take o ++ cs ++ cur.toList.drop (o + cs.length)).toArray) := by
  have hl := run_loadCells_list (P := Try.prog) w a cs hsrc
  have hst := run_storeCells_at Try.prog g o t cs 0 cur w hg (by simpa using hfit) h1
  obtain ⟨i, hi, hz, hs, hb⟩ := info_parts info53
  rw [hn] at hl
  simp [Builtin.copy_, run_underlying Try.underlying50, Builtin.lenOf, Builtin.firstCells, sizeOf, typeInfo, hi, hs, hm, hl, hst, goInt]
def alt (m : Nat) : List Value := (List.range (m * 2)).map fun j => if j % 2 = 0 then Value.int .i64 0 else .int .i64 1
theorem copy_fil {W : World} {g n k m : Nat} (h : Fil W g n k) (hkm : k + m ≤ n) (ty : TypeId) (a : Addr) (sLen sCap dLen dCap : Nat) (hmin : Nat.min sLen dLen = m)
    (hsrc : ∀ i, i < m → W.cell? (a.add (i * 2)) = some (.int .i64 0) ∧ W.cell? (a.add (i * 2 + 1)) = some (.int .i64 1)) :
    ∃ w', (Builtin.copy_ #[50, 50] ty #[.slice (some ⟨g, k * 2, none⟩) dLen dCap, .slice (some a) sLen sCap]).run Try.prog W = .ok (.int .i64 (m : Int)) w' ∧ Fil w' g n (k + m) ∧ ∀ lo, lo ≤ g → Below lo W w' := by
  obtain ⟨cur, h1, h2, h3, h4⟩ := h
  have hl : (alt m).length = m * 2 := by simp [alt]
  have hg : ∀ j, j < m * 2 → (alt m)[j]? = some (if j % 2 = 0 then Value.int .i64 0 else .int .i64 1) := fun j hj => by simp [alt, hj]
  have hr := run_copy2 W ty g (k * 2) dLen dCap a sLen sCap cur 53 (alt m) m h1 hmin hl (fun j v hv => by
    have hj : j < m * 2 := by have := (List.getElem?_eq_some_iff.1 hv).1; omega
    rw [hg j hj] at hv
    obtain ⟨q1, q2⟩ := hsrc (j / 2) (by omega)
    by_cases e : j % 2 = 0
    · rw [if_pos e] at hv
      rw [show j / 2 * 2 = j by omega] at q1
      rw [q1]; exact hv
    · rw [if_neg e] at hv
      rw [show j / 2 * 2 + 1 = j by omega] at q2
      rw [q2]; exact hv) (by omega) (fun v hv => by
    obtain ⟨j, _, rfl⟩ := List.mem_map.1 hv
    split <;> rfl)
  have gt : ∀ j, (cur.toList.take (k * 2) ++ alt m ++ cur.toList.drop (k * 2 + (alt m).length)).toArray[j]? = if j < k * 2 then cur[j]? else if j < k * 2 + m * 2 then (alt m)[j - k * 2]? else cur[j]? := by
    intro j
    have hs : (cur.toList.take (k * 2)).length = k * 2 := by simp; omega
    rw [List.getElem?_toArray, List.append_assoc]
    split
    · rename_i hj
      rw [List.getElem?_append_left (by omega), List.getElem?_take_of_lt hj]; simp
    · rename_i hj
      rw [List.getElem?_append_right (by omega), hs]
      split
      · rename_i hj2
        rw [List.getElem?_append_left (by omega)]
      · rename_i hj2
        rw [List.getElem?_append_right (by omega), List.getElem?_drop, hl]
        rw [show k * 2 + m * 2 + (j - k * 2 - m * 2) = j by omega]
        simp
  refine ⟨_, hr, ⟨_, setRow_heap W g cur _ 53 (0, 0) h1, ?_, fun i hi => ?_, fun j hj => ?_⟩, fun lo hlo => ⟨rfl, rfl, rfl, by simp [World.setRow], fun j hj => setRow_far _ _ (by omega)⟩⟩
  · simp [hl]; omega
  · rw [gt, gt]
    by_cases e : i < k
    · rw [if_pos (by omega), if_pos (by omega)]; exact h3 i e
    · rw [if_neg (by omega), if_pos (by omega), if_neg (by omega), if_pos (by omega), hg _ (by omega), hg _ (by omega), if_pos (by omega), if_neg (by omega)]
      exact ⟨rfl, rfl⟩
  · rw [gt]
    split
    · exact h4 j hj
    · split
      · rw [hg _ (by omega)]
        split <;> exact ⟨_, rfl⟩
      · exact h4 j hj
theorem add0 (B i : Nat) : (⟨B, 0, none⟩ : Addr).add i = ⟨B, i, none⟩ := by unfold Addr.add; split <;> simp_all
theorem Fil.src {W : World} {g n k : Nat} (h : Fil W g n k) : ∀ i, i < k → W.cell? ((⟨g, 0, none⟩ : Addr).add (i * 2)) = some (.int .i64 0) ∧ W.cell? ((⟨g, 0, none⟩ : Addr).add (i * 2 + 1)) = some (.int .i64 1) := by
  obtain ⟨cur, h1, h2, h3, h4⟩ := h
  intro i hi
  rw [add0, add0, Joins.cell_of_block h1, Joins.cell_of_block h1]
  exact h3 i hi
theorem Fil.later {W W' : World} {g n k : Nat} (h : Fil W g n k) (B : Below W.heap.size W W') : Fil W' g n k := by
  obtain ⟨cur, h1, h2⟩ := h
  exact ⟨cur, (B.block g (Array.getElem?_eq_some_iff.1 h1).1).trans h1, h2⟩
theorem Fil.lt {W : World} {g n k : Nat} (h : Fil W g n k) : g < W.heap.size := by
  obtain ⟨cur, h1, h2⟩ := h
  exact (Array.getElem?_eq_some_iff.1 h1).1
set_option maxHeartbeats 2000000 in
theorem repeat_any (w : World) (x : Nat) (n : Nat) (hn : 1 ≤ n ∧ n ≤ 256) (hx : w.cell? ⟨x, 0, none⟩ = some (.int .i64 0) ∧ w.cell? ⟨x, 1, none⟩ = some (.int .i64 1)) :
    Calls Try.prog 26 #[.slice (some ⟨x, 0, none⟩) 1 1, .int .i64 (n : Int)] w fun e w' => ∃ g, e = .returned (.slice (some ⟨g, 0, none⟩) n n) ∧ w.heap.size ≤ g ∧ Fil w' g n n ∧ Below w.heap.size w w' := by
  have MU := mul_one w n hn.2
  obtain ⟨w1, hm, F1, B1⟩ := made_slots w n hn.2
  have n1 : ¬ (n : Int) < 0 := by omega
  have n2 : decide (9223372036854775807 < (n : Int)) = false := by simp; omega
  have hx0 : w1.cell? ⟨x, 0, none⟩ = some (.int .i64 0) := (B1.cell (p := ⟨x, 0, none⟩) (World.block_lt_of_cell? _ _ hx.1)).trans hx.1
  have hx1 : w1.cell? ⟨x, 1, none⟩ = some (.int .i64 1) := (B1.cell (p := ⟨x, 1, none⟩) (World.block_lt_of_cell? _ _ hx.2)).trans hx.2
  obtain ⟨w3, r3, F3, B3⟩ := copy_fil (m := 1) F1 (by omega) 3 ⟨x, 0, none⟩ 1 1 n n (by show min 1 n = 1; omega) (fun i hi => by
    obtain rfl : i = 0 := by omega
    rw [add0, add0]
    exact ⟨hx0, hx1⟩)
  obtain ⟨g, hg⟩ : ∃ g, w.heap.size = g := ⟨_, rfl⟩
  rw [hg] at hm F1 B1 r3 F3 B3 ⊢
  rw [Nat.zero_mul] at r3
  replace r3 : (Builtin.copy_ #[50, 50] 3 #[.slice (some ⟨g, 0, none⟩) n n, .slice (some ⟨x, 0, none⟩) 1 1]).run Try.prog w1 = .ok (.int .i64 1) w3 := r3
  have HF3 := Hid.mk F3
  have HB3 := Hid.mk (B1.trans (B3 g (Nat.le_refl _)))
  have HG := Hid.mk hg
  clear F1 B1 hg hx hx0 hx1 F3 B3
  go_enter Try.func26, Try.ntmps26
  go_wp2_with (go_at_call 36; refine MU.mono ?_; rintro e w2 ⟨rfl, hw⟩; rw [hw]; clear hw MU)
  go_loopw [8] (fun i wr => ∃ k : Nat, i = .int .i64 k ∧ 1 ≤ k ∧ k ≤ n ∧ Hid (Fil wr g n k) ∧ Hid (Below g w wr)) (fun i _ => n - (intOf i).toNat)
  case atStart => exact ⟨1, rfl, Nat.le_refl _, hn.1, HF3, HB3⟩
  case round =>
    obtain ⟨k, rfl, hk1, hk, HF, HB⟩ := hrel
    by_cases hlt : k < n
    · have hlt' : (k : Int) < n := by omega
      obtain ⟨m, hm⟩ : ∃ m, Nat.min k (n - k) = m := ⟨_, rfl⟩
      have hm' : min k (n - k) = m := hm
      have h1m : 1 ≤ m ∧ k + m ≤ n := by omega
      obtain ⟨w4, r4, F4, B4⟩ := copy_fil (m := m) ((HF.out).later (show Below wr.heap.size wr wr.drew from ⟨rfl, rfl, rfl, Nat.le_refl _, fun _ _ => rfl⟩)) h1m.2 3 ⟨g, 0, none⟩ k n (n - k) (n - k) hm (fun i hi => (HF.out.later (show Below wr.heap.size wr wr.drew from ⟨rfl, rfl, rfl, Nat.le_refl _, fun _ _ => rfl⟩)).src i (by omega))
      have HM := Hid.mk hm
      have s1 : ¬ ((n : Int) - k = 0) := by omega
      have s2 : IntKind.i64.wrap ((k : Int) + (m : Int)) = ((k + m : Nat) : Int) := by rw [IntKind.wrap_i64]; omega
      clear hm hm'
      go_wp2
      go_region_held3 (fun _ => True) (trivial) (fail)
      go_roundw
      case rel =>
        refine ⟨_, _, _, _, _, _, _, _, _, _, _, _, _, _, ⟨k + m, ?_, by omega, by omega, ⟨F4⟩, ⟨HB.out.trans ((show Below g wr wr.drew from ⟨rfl, rfl, rfl, Nat.le_refl _, fun _ _ => rfl⟩).trans (B4 g (Nat.le_refl _)))⟩⟩, rfl⟩
        first | rfl | go_num
      case measure => simp [intOf]; omega
    · obtain rfl : k = n := by omega
      go_wp2
      go_ret
      exact ⟨g, rfl, Nat.le_refl _, HF.out, HB.out⟩
end Go.Proofs.Ytejjobemafdlbaa
