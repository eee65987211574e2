/- slices.Repeat of one number. -/
import Derived.Test.YtncimddgkgclpaaGra
import Derived.Shelf.Bits.Mul64
import Derived.Laws.CopyRow
import Derived.Lib.SlBuf
import Derived.Deep.RegionHeld3
namespace Go.Proofs.Ytncimddgkgclpaa
open Go.RowKit
set_option linter.unusedVariables false
set_option linter.unusedSimpArgs false

set_option maxHeartbeats 1000000 in
theorem mul64_one (w : World) (n : Nat) (hn : n ≤ 1000) :
    Calls Try.prog 53 #[.int .u64 1, .int .u64 (n : Int)] w fun e w' => e = .returned (.tuple #[.int .u64 0, .int .u64 (n : Int)]) ∧ w' = w := by
  have m1 : bits .and .u64 1 4294967295 = 1 := by kernel_rfl
  have m2 : bits .and .u64 (n : Int) 4294967295 = (n : Int) := by rw [Go.Proofs.Mul64.maskN n (by omega)]; congr 1; omega
  have m3 : (n : Int) / 4294967296 = 0 := by omega
  go_enter Try.func53, Try.ntmps53
  go_wp2
  go_ret2
  exact ⟨rfl, rfl⟩
theorem mul_one (w : World) (n : Nat) (hn : n ≤ 1000) :
    Calls Try.prog 46 #[.int .u64 1, .int .u64 (n : Int)] w fun e w' => e = .returned (.tuple #[.int .u64 0, .int .u64 (n : Int)]) ∧ w' = w := by
  have MU := mul64_one w n hn
  go_enter Try.func46, Try.ntmps46
  go_wp2_with (go_at_call 53; refine MU.mono ?_; rintro e w1 ⟨rfl, hw⟩; rw [hw]; clear hw)
  go_ret2
  exact ⟨rfl, rfl⟩

theorem setRow_far (w : World) {g k : Nat} (cs : Array Value) (h : k ≠ g) : (w.setRow g cs).heap[k]? = w.heap[k]? := by
  unfold World.setRow
  simp [Array.getElem?_modify, Ne.symm h]
/-- of n numbers the first k are x -/
def Fil (W : World) (g n k : Nat) (x : Int) : Prop :=
  ∃ cur, W.heap[g]? = some (.cells cur 3 (0, 0)) ∧ cur.size = n ∧ (∀ i, i < k → cur[i]? = some (.int .i64 x)) ∧ ∀ j, j < n → ∃ z, cur[j]? = some (.int .i64 z)
theorem info3 : (Try.prog.info? 3).map (fun i => (i.zero, i.size, i.bytes)) = some (some (.int .i64 0), 1, 8) := by kernel_rfl
theorem info_parts {P : Program} {t : TypeId} {z : Value} {s b : Nat} (h : (P.info? t).map (fun i => (i.zero, i.size, i.bytes)) = some (some z, s, b)) : ∃ i, P.info? t = some i ∧ i.zero = some z ∧ i.size = s ∧ i.bytes = b := by
  cases hi : P.info? t with
  | none => rw [hi] at h; cases h
  | some i => rw [hi] at h; simp at h; exact ⟨i, rfl, h.1, h.2.1, h.2.2⟩
theorem made_ints (w : World) (n : Nat) (hn : n ≤ 1000000) :
    ∃ w', (Instr.makeSlice 22 (.int .i64 (n : Int)) (.int .i64 (n : Int))).run Try.prog w = .ok (.slice (some ⟨w.heap.size, 0, none⟩) n n) w' ∧ Fil w' w.heap.size n n 0 ∧ Below w.heap.size w w' ∧ w'.heap.size = w.heap.size + 1 := by
  obtain ⟨i, hi, hz, hs, hb⟩ := info_parts info3
  have hr := run_make (P := Try.prog) w 22 3 i _ Try.underlying22 hi hz .i64 .i64 n n (by omega) (by omega) (by rw [hb]; omega) (by omega)
  simp only [Int.toNat_natCast, hs] at hr
  refine ⟨_, hr, ⟨_, heap_alloc_new _ _, by simp [size_madeCells], fun i hi => ?_, fun j hj => ⟨0, ?_⟩⟩, (Below.refl _ _).alloc (Nat.le_refl _) _, by simp⟩
  · simp [madeCells, Value.cells, hi, Nat.mod_one]
  · simp [madeCells, Value.cells, hj, Nat.mod_one]
theorem run_copy1 (w : World) (ty : TypeId) (g o dLen dCap : Nat) (a : Addr) (sLen sCap : Nat) (cur : Array Value) (t : TypeId) (cs : List Value) (m : Nat)
    (hg : w.heap[g]? = some (.cells cur t (0, 0))) (hm : Nat.min sLen dLen = m) (hn : cs.length = m)
    (hsrc : ∀ j v, cs[j]? = some v → w.cell? (a.add j) = some v) (hfit : o + cs.length ≤ cur.size) (h1 : ∀ v ∈ cs, v.oneCell' = true) :
    (Builtin.copy_ #[22, 22] ty #[.slice (some ⟨g, o, none⟩) dLen dCap, .slice (some a) sLen sCap]).run Try.prog w =
      .ok (.int .i64 (m : Int)) (w.setRow g (cur.toList.take o ++ cs ++ cur.toList.drop (o + cs.length)).toArray) := by
  have hl := run_loadCells_list (P := Try.prog) w a cs hsrc
  have hst := run_storeCells_at Try.prog g o t cs 0 cur w hg (by simpa using hfit) h1
  obtain ⟨i, hi, hz, hs, hb⟩ := info_parts info3
  rw [hn] at hl
  simp [Builtin.copy_, run_underlying Try.underlying22, Builtin.lenOf, Builtin.firstCells, sizeOf, typeInfo, hi, hs, hm, hl, hst, goInt]
theorem copy_fil {W : World} {g n k m : Nat} {x : Int} (h : Fil W g n k x) (hkm : k + m ≤ n) (ty : TypeId) (a : Addr) (sLen sCap dLen dCap : Nat) (hmin : Nat.min sLen dLen = m)
    (hsrc : ∀ i, i < m → W.cell? (a.add i) = some (.int .i64 x)) :
    ∃ w', (Builtin.copy_ #[22, 22] ty #[.slice (some ⟨g, k, none⟩) dLen dCap, .slice (some a) sLen sCap]).run Try.prog W = .ok (.int .i64 (m : Int)) w' ∧ Fil w' g n (k + m) x ∧ ∀ lo, lo ≤ g → Below lo W w' := by
  obtain ⟨cur, h1, h2, h3, h4⟩ := h
  have hl : (List.replicate m (Value.int .i64 x)).length = m := by simp
  have hr := run_copy1 W ty g k dLen dCap a sLen sCap cur 3 (List.replicate m (Value.int .i64 x)) m h1 hmin hl (fun j v hv => by
    have hj : j < m := by have := (List.getElem?_eq_some_iff.1 hv).1; omega
    rw [List.getElem?_replicate, if_pos hj] at hv
    rw [hsrc j hj]; exact hv) (by omega) (fun v hv => by
    obtain ⟨_, rfl⟩ := List.mem_replicate.1 hv; rfl)
  have gt : ∀ j, (cur.toList.take k ++ List.replicate m (Value.int .i64 x) ++ cur.toList.drop (k + (List.replicate m (Value.int .i64 x)).length)).toArray[j]? = if j < k then cur[j]? else if j < k + m then some (.int .i64 x) else cur[j]? := by
    intro j
    have hs : (cur.toList.take k).length = k := by simp; omega
    rw [List.getElem?_toArray, List.append_assoc]
    split
    · rename_i hj
      rw [List.getElem?_append_left (by omega), List.getElem?_take_of_lt hj]; simp
    · rename_i hj
      rw [List.getElem?_append_right (by omega), hs]
      split
      · rename_i hj2
        rw [List.getElem?_append_left (by omega), List.getElem?_replicate, if_pos (by omega)]
      · rename_i hj2
        rw [List.getElem?_append_right (by omega), List.getElem?_drop, hl]
        rw [show k + m + (j - k - m) = j by omega]
        simp
  refine ⟨_, hr, ⟨_, setRow_heap W g cur _ 3 (0, 0) h1, ?_, fun i hi => ?_, fun j hj => ?_⟩, fun lo hlo => ⟨rfl, rfl, rfl, by simp [World.setRow], fun j hj => setRow_far _ _ (by omega)⟩⟩
  · simp; omega
  · rw [gt]
    split
    · exact h3 i (by assumption)
    · first | rfl | rw [if_pos hi]
  · rw [gt]
    split
    · exact h4 j hj
    · split
      · exact ⟨_, rfl⟩
      · exact h4 j hj
theorem add0 (B i : Nat) : (⟨B, 0, none⟩ : Addr).add i = ⟨B, i, none⟩ := by unfold Addr.add; split <;> simp_all
theorem Fil.src {W : World} {g n k : Nat} {x : Int} (h : Fil W g n k x) : ∀ i, i < k → W.cell? ((⟨g, 0, none⟩ : Addr).add i) = some (.int .i64 x) := by
  obtain ⟨cur, h1, h2, h3, h4⟩ := h
  intro i hi
  rw [add0, Joins.cell_of_block h1]
  exact h3 i hi
theorem Fil.later {W W' : World} {g n k : Nat} {x : Int} (h : Fil W g n k x) (B : Below W.heap.size W W') : Fil W' g n k x := by
  obtain ⟨cur, h1, h2⟩ := h
  exact ⟨cur, (B.block g (Array.getElem?_eq_some_iff.1 h1).1).trans h1, h2⟩
theorem Fil.less {W : World} {g n k j : Nat} {x : Int} (h : Fil W g n k x) (y : Int) : Fil W g n 0 y := by
  obtain ⟨cur, h1, h2, h3, h4⟩ := h
  exact ⟨cur, h1, h2, fun i hi => absurd hi (Nat.not_lt_zero _), h4⟩
theorem Fil.lt {W : World} {g n k : Nat} {x : Int} (h : Fil W g n k x) : g < W.heap.size := by
  obtain ⟨cur, h1, h2⟩ := h
  exact (Array.getElem?_eq_some_iff.1 h1).1
set_option maxHeartbeats 2000000 in
theorem repeat_any (w : World) (b : Nat) (x : Int) (n : Nat) (hn : n ≤ 1000) (hx : w.cell? ⟨b, 0, none⟩ = some (.int .i64 x)) :
    Calls Try.prog 41 #[.slice (some ⟨b, 0, none⟩) 1 1, .int .i64 (n : Int)] w fun e w' => ∃ g, e = .returned (.slice (some ⟨g, 0, none⟩) n n) ∧ w.heap.size ≤ g ∧ Fil w' g n n x ∧ Below w.heap.size w w' := by
  have MU := mul_one w n hn
  obtain ⟨w1, hm, F1, B1, _⟩ := made_ints w n (by omega)
  replace F1 := F1.less (j := 0) x
  have n1 : ¬ (n : Int) < 0 := by omega
  have n2 : decide (9223372036854775807 < (n : Int)) = false := by simp; omega
  have hx0 : w1.cell? ⟨b, 0, none⟩ = some (.int .i64 x) := (B1.cell (p := ⟨b, 0, none⟩) (World.block_lt_of_cell? _ _ hx)).trans hx
  obtain ⟨z, hz⟩ : ∃ z, Nat.min 1 n = z := ⟨_, rfl⟩
  have hz1 : z ≤ 1 ∧ z ≤ n ∧ (n = 0 ∨ z = 1) := by have : min 1 n = z := hz; omega
  obtain ⟨w3, r3, F3, B3⟩ := copy_fil (m := z) F1 (by omega) 3 ⟨b, 0, none⟩ 1 1 n n hz (fun i hi => by
    obtain rfl : i = 0 := by omega
    rw [add0]
    exact hx0)
  obtain ⟨g, hg⟩ : ∃ g, w.heap.size = g := ⟨_, rfl⟩
  rw [hg] at hm F1 B1 r3 F3 B3 ⊢
  rw [Nat.zero_add] at F3
  have HF3 := Hid.mk F3
  have HB3 := Hid.mk (B1.trans (B3 g (Nat.le_refl _)))
  have HG := Hid.mk hg
  have hz2 := hz1.1
  have hz3 := hz1.2.1
  have HZ := Hid.mk hz1.2.2
  clear F1 B1 hg hx hx0 F3 B3 hz hz1
  go_enter Try.func41, Try.ntmps41
  go_wp2_with (go_at_call 46; refine MU.mono ?_; rintro e w2 ⟨rfl, hw⟩; rw [hw]; clear hw MU)
  go_loopw [8] (fun i wr => ∃ k : Nat, i = .int .i64 k ∧ Hid (n = 0 ∨ 1 ≤ k) ∧ k ≤ n ∧ Hid (Fil wr g n k x) ∧ Hid (Below g w wr)) (fun i _ => n - (intOf i).toNat)
  case atStart => exact ⟨z, rfl, ⟨by have := HZ.out; omega⟩, hz3, HF3, HB3⟩
  case round =>
    obtain ⟨k, rfl, hk1, hk, HF, HB⟩ := hrel
    by_cases hlt : k < n
    · have hlt' : (k : Int) < n := by omega
      have hk2 : 1 ≤ k := by have := hk1.out; omega
      obtain ⟨m, hm⟩ : ∃ m, Nat.min k (n - k) = m := ⟨_, rfl⟩
      have hm' : min k (n - k) = m := hm
      have h1m : 1 ≤ m ∧ k + m ≤ n := by omega
      obtain ⟨w4, r4, F4, B4⟩ := copy_fil (m := m) ((HF.out).later (show Below wr.heap.size wr wr.drew from ⟨rfl, rfl, rfl, Nat.le_refl _, fun _ _ => rfl⟩)) h1m.2 3 ⟨g, 0, none⟩ k n (n - k) (n - k) hm (fun i hi => (HF.out.later (show Below wr.heap.size wr wr.drew from ⟨rfl, rfl, rfl, Nat.le_refl _, fun _ _ => rfl⟩)).src i (by omega))
      have HM := Hid.mk hm
      have s1 : ¬ ((n : Int) - k = 0) := by omega
      have s2 : IntKind.i64.wrap ((k : Int) + (m : Int)) = ((k + m : Nat) : Int) := by rw [IntKind.wrap_i64]; omega
      clear hm hm'
      go_wp2
      go_region_held3 (fun _ => True) (trivial) (fail)
      go_roundw
      case rel =>
        refine ⟨_, _, _, _, _, _, _, _, _, _, _, _, _, _, ⟨k + m, ?_, ⟨by omega⟩, by omega, ⟨F4⟩, ⟨HB.out.trans ((show Below g wr wr.drew from ⟨rfl, rfl, rfl, Nat.le_refl _, fun _ _ => rfl⟩).trans (B4 g (Nat.le_refl _)))⟩⟩, rfl⟩
        first | rfl | go_num
      case measure => simp [intOf]; omega
    · obtain rfl : k = n := by omega
      go_wp2
      go_ret
      exact ⟨g, rfl, Nat.le_refl _, HF.out, HB.out⟩
end Go.Proofs.Ytncimddgkgclpaa
