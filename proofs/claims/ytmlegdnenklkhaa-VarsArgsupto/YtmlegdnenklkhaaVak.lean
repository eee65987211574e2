/- The library's DeleteFunc at this program's numbers, by the library's own contract; the function that package vars hands to it; free names are short. -/
import Derived.Test.YtmlegdnenklkhaaVac
import Derived.Shelf.SlicesE.DeleteFunc
namespace Go.Proofs
open Go.Shelf
def Try.l24_ren : Go.Shelf.Ren := ⟨fun | 6 => 30 | 10 => 24 | n => n, fun | 0 => 0 | 3 => 3 | 4 => 4 | 22 => 22 | 23 => 9 | 25 => 54 | n => n, fun | n => n⟩
theorem Try.l24 : Go.Proofs.SlLaysH.n10 Try.prog Try.l24_ren := {
  mixed := by kernel_rfl
  f6 := ⟨Try.f30.name, by kernel_rfl, Try.func30.trans (congrArg some (by kernel_rfl))⟩
  f10 := ⟨Try.f24.name, by kernel_rfl, Try.func24.trans (congrArg some (by kernel_rfl))⟩
  t0 := Try.underlying0
  a0 := Try.isAgg0
  z0 := Try.sizeOf0
  v0 := Try.zeroValue0
  t3 := Try.underlying3
  a3 := Try.isAgg3
  z3 := Try.sizeOf3
  v3 := Try.zeroValue3
  t4 := Try.underlying4
  a4 := Try.isAgg4
  z4 := Try.sizeOf4
  v4 := Try.zeroValue4
  t22 := Try.underlying22
  a22 := Try.isAgg22
  z22 := Try.sizeOf22
  v22 := Try.zeroValue22
  a23 := Try.isAgg9
  z23 := Try.sizeOf9
  t25 := Try.underlying54
  a25 := Try.isAgg54
  z25 := Try.sizeOf54
  v25 := Try.zeroValue54 }
end Go.Proofs
namespace Go.Proofs.Ytmlegdnenklkhaa
open Go.RowKit Go.Shelf Go.Lib Go.Sort
set_option linter.unusedVariables false
set_option linter.unusedSimpArgs false

/-- a name that is no longer than any text -/
def cutN (s : Nm) : Nm := if s.length ≤ maxLen then s else []
theorem cutN_le (s : Nm) : (cutN s).length ≤ maxLen := by
  unfold cutN
  split
  · assumption
  · exact Nat.zero_le _
theorem cutN_of {s : Nm} (h : s.length ≤ maxLen) : cutN s = s := if_pos h
def encN (s : Nm) : Value := .string (str (cutN s))
set_option maxHeartbeats 1000000 in
/-- what is handed to DeleteFunc -/
theorem c25_any {W : World} {m n bx : Nat} {c : Nm → Nat} (M : Mb W m n c) (hb : W.cell? ⟨bx, 0, none⟩ = some (.map (some m))) (s : Nm) (hs : s.length ≤ maxLen) :
    Calls Try.prog 25 #[.string (str s), ptr bx] W fun e w' => e = .returned (.bool (decide (0 < c s))) ∧ w' = W := by
  obtain ⟨g, ⟨D, hD, q⟩, q2⟩ := M
  have hat0 := (q s).2
  rw [(q2 s).1] at hat0
  obtain ⟨d, hrun, hat, _⟩ := hD.lookup_int law9 Try.underlying66 Try.underlying3 (zero3 _) (key_str hs)
  have HD : Hid (d = (c s : Int)) := ⟨by have := hat.symm.trans hat0; cases this; rfl⟩
  have HG : Hid (decide (0 < d) = decide (0 < c s)) := ⟨by rw [HD.out]; simp⟩
  clear q q2 hat hat0 hD
  go_enter Try.func25, Try.ntmps25
  go_wp2
  all_goals go_ret
  all_goals exact ⟨by rw [← HG.out]; rfl, rfl⟩
theorem pred25 {w : World} {m n bx : Nat} {c : Nm → Nat} (M : Mb w m n c) (hb : w.cell? ⟨bx, 0, none⟩ = some (.map (some m))) :
    PredAt Try.prog 25 #[ptr bx] encN (fun s : Nm => decide (0 < c (cutN s))) w := fun W x B =>
  (c25_any (M.of_block (B.block m M.lt)) ((B.cell (World.block_lt_of_cell? _ _ hb)).trans hb) (cutN x) (cutN_le x)).mono fun e w' ⟨a, b⟩ => ⟨a, 0, b⟩
theorem putRow_block {α : Type} [Inhabited α] (enc : α → Value) (w : World) (blk off : Nat) (d : Array α) (i : Nat) (h : i ≠ blk) : (putRow enc w blk off d).heap[i]? = w.heap[i]? := by
  simp only [putRow, mapBlock, Array.getElem?_modify]
  rw [if_neg (fun e => h e.symm)]
theorem over25 {w : World} {m n bx blk off size : Nat} {c : Nm → Nat} (M : Mb w m n c) (hb : w.cell? ⟨bx, 0, none⟩ = some (.map (some m))) (n1 : m ≠ blk) (n2 : bx ≠ blk) :
    PredOver Try.prog 25 #[ptr bx] encN (fun s : Nm => decide (0 < c (cutN s))) blk off size w := fun n os dk x _ => by
  have k : ∀ i, i < w.heap.size → i ≠ blk → (sortWorld encN w blk off n dk os).heap[i]? = w.heap[i]? := fun i hi hne => by
    unfold sortWorld
    rw [heap_grow_old _ _ (by rw [size_putRow]; exact hi), putRow_block _ _ _ _ _ _ hne]
    rfl
  exact (c25_any (M.of_block (k m M.lt n1)) ((World.cell?_of_block (k bx (World.block_lt_of_cell? _ _ hb) n2)).trans hb) (cutN x) (cutN_le x)).mono fun e w' ⟨a, b⟩ => ⟨a, 0, b⟩
end Go.Proofs.Ytmlegdnenklkhaa
