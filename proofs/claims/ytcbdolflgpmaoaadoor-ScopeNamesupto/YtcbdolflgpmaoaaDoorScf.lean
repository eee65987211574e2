/- The document's check: two lists of names in one. -/
import Derived.Test.YtcbdolflgpmaoaaDoorSce
namespace Go.Proofs.YtcbdolflgpmaoaaDoor
open Go.RowKit
set_option linter.unusedVariables false
set_option maxHeartbeats 400000 in
theorem with_any {w : World} {ok : Nat → Prop} (a b : List Nm) (va vb : Value) (A : IsRow w ok (strC a) a.length va) (B : IsRow w ok (strC b) b.length vb) (hl : a.length + b.length ≤ 1000000000) :
    Calls Tryd.prog 36 #[va, vb] w fun e w' => ∃ v, e = .returned v ∧ Below w.heap.size w w' ∧ Nw w' w.heap.size v (a ++ b) := by
  have A0 := A
  have B0 := B
  obtain ⟨ga, ca, rfl, za, ya⟩ := A
  obtain ⟨gb, cb, rfl, zb, yb⟩ := B
  clear ya yb
  obtain ⟨i0, hi, hz0, hz1, hz2⟩ := info_parts info9
  have SA := row_src A0
  have la : (strC a).length = a.length * 1 := by simp [strC]
  have lb : (strC b).length = b.length * 1 := by simp [strC]
  have HA : Hid (IsRow w ok (strC a) a.length (.slice ga a.length ca)) := ⟨A0⟩
  have HB : Hid (IsRow w ok (strC b) b.length (.slice gb b.length cb)) := ⟨B0⟩
  clear A0 B0 SA
  generalize hna : a.length = na at *
  generalize hnb : b.length = nb at *
  have b0 : Below w.heap.size w (w.alloc (.cells #[] 9)) := Joins.below_alloc1 w _
  have SA := row_src (HA.out.keeps (keeps_below (ok' := ok) b0 (fun _ h => h)))
  have HNA : Hid (a.length = na ∧ b.length = nb) := ⟨hna, hnb⟩
  clear hna hnb
  have HSA : Hid (0 < na → ∃ ad, ga = some ad ∧ ∀ j u, (strC a)[j]? = some u → (w.alloc (.cells #[] 9)).cell? (ad.add j) = some u) := ⟨SA⟩
  have HB0 : Hid (Below w.heap.size w (w.alloc (.cells #[] 9))) := ⟨b0⟩
  clear SA b0
  have HM : Hid ((na ≤ maxLen ∧ na * 16 ≤ 140737488355328) ∧ (na + nb ≤ maxLen ∧ (na + nb) * 16 ≤ 140737488355328)) := ⟨⟨by unfold maxLen; omega, by omega⟩, by unfold maxLen; omega, by omega⟩
  go_enter Tryd.func36, Tryd.ntmps36
  go_wp2_with (at_builtin; first
    | (refine wpList_append_T rfl (.tmp 7) (.tmp 8) 38 rfl w.heap.size 9 i0 _ 1 16 Tryd.underlying38 hi hz0 hz1 hz2 rfl (by decide) (.slice g1 na c1) na (strC a) rfl HR1.out gb nb cb (strC b) rfl lb (row_src (HB.out.keeps (keeps_below (ok' := ok) HBB1.out (fun _ h => h)))) (strC_one b) (na + nb) rfl (strC a ++ strC b) rfl HM.out.2.1 HM.out.2.2 HBB1.out.size ?_; intro g2 c2 w2 R2 B2; have HR2 : Hid (RowS w2 w.heap.size 9 1 (.slice g2 (na + nb) c2) (na + nb) (strC a ++ strC b)) := ⟨R2⟩; have HBB2 : Hid (Below w.heap.size w w2) := ⟨HBB1.out.trans B2⟩; clear R2 B2)
    | (refine wpList_append_T rfl (.tmp 5) (.tmp 6) 38 rfl w.heap.size 9 i0 _ 1 16 Tryd.underlying38 hi hz0 hz1 hz2 rfl (by decide) (.slice (some ⟨w.heap.size, 0, none⟩) 0 0) 0 [] rfl (.inl ⟨rfl, rfl, _, rfl⟩) ga na ca (strC a) rfl la HSA.out (strC_one a) na (Nat.zero_add na) (strC a) rfl HM.out.1.1 HM.out.1.2 HB0.out.size ?_; intro g1 c1 w1 R1 B1; have HR1 : Hid (RowS w1 w.heap.size 9 1 (.slice g1 na c1) na (strC a)) := ⟨R1⟩; have HBB1 : Hid (Below w.heap.size w w1) := ⟨HB0.out.trans B1⟩; clear R1 B1))
  go_ret
  refine ⟨_, rfl, HBB2.out, ?_⟩
  unfold Nw
  rw [List.length_append, strC_app, HNA.out.1, HNA.out.2]
  exact HR2.out
end Go.Proofs.YtcbdolflgpmaoaaDoor
