/- Each's function, handed the law's own function: the two lists behind it. -/
import Derived.Test.YtcallmfdigfhnaaBpu
import Derived.Test.YtcallmfdigfhnaaSame
namespace Go.Proofs.Ytcallmfdigfhnaa
open Go.RowKit
set_option linter.unusedVariables false
set_option linter.unusedSimpArgs false

theorem Keep.refl (z n : Nat) (w : World) : Keep z n w w := ⟨rfl, rfl, rfl, Nat.le_refl _, fun _ _ _ _ => rfl⟩
theorem Keep.trans {z n : Nat} {a b c : World} (h : Keep z n a b) (k : Keep z n b c) : Keep z n a c :=
  ⟨k.os.trans h.os, k.tape.trans h.tape, k.output.trans h.output, Nat.le_trans h.size k.size, fun i h1 h2 h3 => (k.block i h1 h2 h3).trans (h.block i h1 h2 h3)⟩
theorem Keep.later {z n : Nat} {a b : World} (h : Below a.heap.size a b) (hn : n ≤ a.heap.size) : Keep z n a b := ⟨h.os, h.tape, h.output, h.size, fun i h1 _ _ => h.block i (by omega)⟩
theorem Two.later {w w' : World} {z n : Nat} {xs ys : List Int} (h : Two w z n xs ys) (B : Below w.heap.size w w') : Two w' z n xs ys := by
  obtain ⟨⟨va, vb, ba, bb, oa, ob, ap⟩, le, sz⟩ := h
  have G : w.grownBy w' none := ⟨B.os, B.tape, B.output, B.size, fun k hk _ => B.block k hk⟩
  exact ⟨⟨va, vb, (B.block z (by omega)).trans ba, (B.block (z + 1) (by omega)).trans bb, oa.kept G (Classical.em _), ob.kept G (Classical.em _), ap⟩, le, Nat.le_trans sz B.size⟩
theorem Ls.keep {W W' : World} {Bs c z n : Nat} {ga : Option Addr} {L : List (Nat × Nat)} (h : Ls W Bs ga c L) (k : Keep z n W W') (hz : ∀ j, kz Bs ga j → j < n ∧ j ≠ z ∧ j ≠ z + 1) : Ls W' Bs ga c L :=
  h.stay fun j hj => k.block j (hz j hj).1 (hz j hj).2.1 (hz j hj).2.2
set_option maxRecDepth 100000 in
set_option maxHeartbeats 4000000 in
theorem tells_any {W : World} {Bs c z n : Nat} {ga : Option Addr} {L : List (Nat × Nat)} (hL : Ls W Bs ga c L) (h1000 : L.length ≤ 1000) (hT : Two W z n [] []) (hz : ∀ j, kz Bs ga j → j < n ∧ j ≠ z ∧ j ≠ z + 1) :
    Calls Try.prog 46 #[.func (.func 44) #[] #[.pointer (some ⟨z, 0, none⟩), .pointer (some ⟨z + 1, 0, none⟩)], .pointer (some ⟨Bs, 0, none⟩)] W fun e W' => (∃ v, e = .returned v) ∧ Two W' z n (fsI L) (nsI L) ∧ Keep z n W W' := by
  have cu : W.cell? ⟨Bs, 0, none⟩ = some (.slice ga L.length c) := by rw [Joins.cell_of_block hL.sl]; rfl
  have hlc := hL.hc
  have HL0 := Hid.mk hL
  have HT0 := Hid.mk hT
  have HZ := Hid.mk hz
  clear hL hT hz
  go_enter Try.func46, Try.ntmps46
  go_wp2
  go_loopw [7] (fun e wr => ∃ i : Nat, e = .int .i64 (i : Int) ∧ i ≤ L.length ∧ Hid (Two wr z n (fsI (L.take i)) (nsI (L.take i)) ∧ Ls wr Bs ga c L ∧ Keep z n W wr)) (fun e _ => L.length - (intOf e).toNat)
  case atStart => exact ⟨0, rfl, Nat.zero_le _, ⟨by simpa [fsI, nsI] using HT0.out, HL0.out, Keep.refl _ _ _⟩⟩
  case round =>
    obtain ⟨i, rfl, hi, H⟩ := hrel
    clear HT0 HL0
    by_cases hlt : i < L.length
    · obtain ⟨g, cs, rfl, hg, k0, k1⟩ := H.out.2.1.el i hlt
      have c0 : wr.cell? ⟨g, i * 2, none⟩ = some (.int .i64 ((L[i]).1 : Int)) := by rw [Joins.cell_of_block hg]; exact k0
      have c1 : wr.cell? ⟨g, i * 2 + 1, none⟩ = some (.int .i64 ((L[i]).2 : Int)) := by rw [Joins.cell_of_block hg]; exact k1
      have HS : Hid (fsI (L.take (i + 1)) = fsI (L.take i) ++ [((L[i]).1 : Int)] ∧ nsI (L.take (i + 1)) = nsI (L.take i) ++ [((L[i]).2 : Int)]) := ⟨by rw [List.take_succ_eq_append_getElem hlt]; exact ⟨by unfold fsI; rw [List.map_append]; rfl, by unfold nsI; rw [List.map_append]; rfl⟩⟩
      obtain ⟨x1, hx1⟩ : ∃ x1, (L[i]).1 = x1 := ⟨_, rfl⟩
      obtain ⟨x2, hx2⟩ : ∃ x2, (L[i]).2 = x2 := ⟨_, rfl⟩
      rw [hx1] at c0 HS
      rw [hx2] at c1 HS
      have B := (Below.refl _ wr).alloc (Nat.le_refl _) (.cells #[.int .i64 (x1 : Int), .int .i64 (x2 : Int)] 80)
      have PO := push_ok (H.out.1.later B) (x1 : Int) (x2 : Int) (by simp [fsI]; omega) (by simp [nsI]; omega)
      have HB := Hid.mk B
      have hlt' : (i : Int) < L.length := by omega
      clear hx1 hx2 k0 k1 hg B
      go_wp2_with (go_at_call 44; refine PO.mono ?_; rintro e w2 ⟨rfl, T2, K2⟩)
      go_roundw
      case rel =>
        have kk : Keep z n wr w2 := (Keep.later HB.out H.out.1.sz).trans K2
        exact ⟨i + 1, by go_num, by omega, ⟨by rw [HS.out.1, HS.out.2]; exact T2, H.out.2.1.keep kk HZ.out, H.out.2.2.trans kk⟩⟩
      case measure => simp [intOf]; omega
    · obtain rfl : i = L.length := by omega
      have HF := H.out
      rw [List.take_of_length_le (Nat.le_refl _)] at HF
      have HH := Hid.mk HF
      clear HF
      go_wp2
      go_end0
      exact ⟨⟨_, rfl⟩, HH.out.1, HH.out.2.2⟩
end Go.Proofs.Ytcallmfdigfhnaa
