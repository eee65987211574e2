/- Package vars: Within. -/
import Derived.Test.YtmlegdnenklkhaaVai
namespace Go.Proofs.Ytmlegdnenklkhaa
open Go.RowKit
open Go.Maps (Keyed string_keyed)
set_option linter.unusedVariables false
set_option linter.unusedSimpArgs false

theorem own_base {w : World} {size n B : Nat} {e : TypeId} {v : Value} {xs : List Value} (h : w.ownsRow 0 e size v n xs) (hb : ∀ j, v.ownBlock = some j → B ≤ j) : w.ownsRow B e size v n xs := by
  refine ⟨h.1, ?_⟩
  rcases h.2 with q | ⟨g, cap, cur, rfl, _, r⟩
  · exact .inl q
  · exact .inr ⟨g, cap, cur, rfl, hb g rfl, r⟩
theorem scD_zero : scD (fun _ => 0) = fun _ => false := by funext y; simp [scD]
set_option maxRecDepth 100000 in
set_option maxHeartbeats 8000000 in
theorem within_any (x : E) (w : World) (d : List Value) (I : isE w (fun g => g < w.heap.size) x d) (ok : okE x) (hn : coE x ≤ 1000000000) :
    Calls Try.prog 20 #[.agg d.toArray] w fun e w' => ∃ r, e = .returned r ∧ Below w.heap.size w w' ∧ w'.ownsRow w.heap.size 9 1 r (fvE (fun _ => false) x []).length (strC (fvE (fun _ => false) x [])) ∧ (fvE (fun _ => false) x []).length ≤ coE x := by
  obtain ⟨xk, xa, xm, xs, g4, g5, g6, g7, n4, n5, n6, n7, c4, c5, c6, c7, rfl⟩ := isE_eight I
  have K1 := Joins.below_alloc1 w (.cells (exp8 xk xa xm xs g4 g5 g6 g7 n4 n5 n6 n7 c4 c5 c6 c7) 28)
  have X1 : Bx (w.alloc (.cells (exp8 xk xa xm xs g4 g5 g6 g7 n4 n5 n6 n7 c4 c5 c6 c7) 28)) w.heap.size (exp8 xk xa xm xs g4 g5 g6 g7 n4 n5 n6 n7 c4 c5 c6 c7) 28 := heap_alloc_new w _
  have s1 : (w.alloc (.cells (exp8 xk xa xm xs g4 g5 g6 g7 n4 n5 n6 n7 c4 c5 c6 c7) 28)).heap.size = w.heap.size + 1 := by rw [World.size_alloc]
  generalize hw1 : w.alloc (.cells (exp8 xk xa xm xs g4 g5 g6 g7 n4 n5 n6 n7 c4 c5 c6 c7) 28) = w1 at K1 X1 s1
  have M2 := Mb.made w1
  have K2 := Joins.below_alloc1 w1 (.map #[] 0)
  have s2 : (w1.alloc (.map #[] 0)).heap.size = w.heap.size + 2 := by rw [World.size_alloc, s1]
  rw [s1] at M2
  generalize hw2 : w1.alloc (.map #[] 0) = w2 at K2 M2 s2
  have M3 := Mb.made w2
  have K3 := Joins.below_alloc1 w2 (.map #[] 0)
  have s3 : (w2.alloc (.map #[] 0)).heap.size = w.heap.size + 3 := by rw [World.size_alloc, s2]
  rw [s2] at M3
  generalize hw3 : w2.alloc (.map #[] 0) = w3 at K3 M3 s3
  have K4 := Joins.below_alloc1 w3 (.cells #[.map (some (w.heap.size + 1)), .map (some (w.heap.size + 2)), .slice none 0 0] 69)
  have X4 : (w3.alloc (.cells #[.map (some (w.heap.size + 1)), .map (some (w.heap.size + 2)), .slice none 0 0] 69)).heap[w3.heap.size]? = some (.cells #[.map (some (w.heap.size + 1)), .map (some (w.heap.size + 2)), .slice none 0 0] 69 (0, 0)) := heap_alloc_new w3 _
  obtain ⟨w4, hw4⟩ : ∃ w4, w3.alloc (.cells #[.map (some (w.heap.size + 1)), .map (some (w.heap.size + 2)), .slice none 0 0] 69) = w4 := ⟨_, rfl⟩
  rw [hw4] at K4 X4
  have KK : Below w.heap.size w w4 := ((K1.trans (Joins.below_le K2 (by omega))).trans (Joins.below_le K3 (by omega))).trans (Joins.below_le K4 (by omega))
  have R4 : Rs w4 w3.heap.size (w.heap.size + 1) (w.heap.size + 2) 0 (fun _ => 0) [] (.slice none 0 0) :=
    ⟨X4, (M2.of_block (K3.block _ (by omega))).of_block (K4.block _ (by omega)), ⟨fun _ => 0, M3.of_block (K4.block _ (by omega)), fun s => by simp⟩, World.ownsRow_nil _ _ _ _, ⟨by omega, by omega, by omega⟩, ⟨by simp [Value.ownBlock], by simp [Value.ownBlock], by simp [Value.ownBlock]⟩, Nat.le_refl _⟩
  have kp : Keeps (fun g => g < w.heap.size) (Qk w3.heap.size (w.heap.size + 1) (w.heap.size + 2) (Value.slice none 0 0).ownBlock w4.heap.size) w w4 := keeps_below KK (fun g h => ⟨by omega, by omega, by omega, by simp [Value.ownBlock], Nat.lt_of_lt_of_le h KK.size⟩)
  have C := RE_all x w4 _ _ _ _ _ _ _ _ R4 (isE_keeps kp _ _ I) ok (by omega)
  rw [scD_zero, Nat.zero_add] at C
  have XW : Bx w4 w.heap.size (exp8 xk xa xm xs g4 g5 g6 g7 n4 n5 n6 n7 c4 c5 c6 c7) 28 := (K4.block _ (by omega)).trans ((K3.block _ (by omega)).trans ((K2.block _ (by omega)).trans X1))
  have y0 := XW.cell 0
  have y1 := XW.cell 1
  have y2 := XW.cell 2
  have y3 := XW.cell 3
  have y4 := XW.cell 4
  have y5 := XW.cell 5
  have y6 := XW.cell 6
  have y7 := XW.cell 7
  have HK := Hid.mk KK
  have r1 : Sem.run Try.prog (Instr.makeMap 66 none) w1 = .ok (.map (some (w.heap.size + 1))) w2 := by rw [← hw2, ← s1]; exact run_makeMap _ _
  have r2 : Sem.run Try.prog (Instr.makeMap 66 none) w2 = .ok (.map (some (w.heap.size + 2))) w3 := by rw [← hw3, ← s2]; exact run_makeMap _ _
  have HLE : Hid (w.heap.size ≤ w4.heap.size) := ⟨KK.size⟩
  have b3 : Hid (w.heap.size ≤ w3.heap.size) := ⟨by omega⟩
  generalize fvE (fun _ => false) x [] = fr at *
  clear I ok K1 K2 K3 K4 X1 X4 M2 M3 R4 kp KK XW s1 s2 s3 hw2 hw3
  subst hw4
  go_enter Try.func20, Try.ntmps20
  go_wp2_with (go_at_call 26; refine C.mono ?_; intro e w9 H9; obtain ⟨v9, rfl, F9, R9⟩ := H9; have z2 := R9.cell 2; have HF9 := Hid.mk F9; have HR9 := Hid.mk R9; clear F9 R9)
  go_ret
  refine ⟨v9, rfl, HK.out.trans (HF9.out.below b3.out (by omega) (by omega) (fun j e => by simp [Value.ownBlock] at e) HLE.out), own_base HR9.out.row (fun j e => ?_), HR9.out.len⟩
  rcases HF9.out.own with z | ⟨i, z, l⟩
  · rw [z] at e; simp [Value.ownBlock] at e
  · rw [z] at e
    cases e
    exact Nat.le_trans HLE.out l
end Go.Proofs.Ytmlegdnenklkhaa
