/- Package lazy: a scope within another; the things of atoms. -/
import Derived.Test.YtbajpejnnfacbaaGreatDoorLzo
namespace Go.Proofs.YtbajpejnnfacbaaGreatDoor.Lz
open Go.RowKit
set_option linter.unusedVariables false
set_option linter.unusedSimpArgs false

section
variable {w w' : World} {G : Gm} {th : List T} {rows : List (List Nat)}
/-- a scope more is laid -/
theorem Rep.scope (h : Rep w G th rows) {g b bf : Nat} {e ef : Env} {l : List Nat} {v : Value} (hg : G g = none) (hb : G b = some (.env e)) (hf : G bf = some (.env ef)) (hr : pRow G l v) (ne : e ≠ []) (sf : ef <:+ e) (nf : ef ≠ [])
    (hc : w.heap[g]? = some (.cells #[v, .int .i64 (e.length : Int), ptr b, ptr bf] 86 (0, 0))) : Rep w (Lz.tag G g (.env (l :: e))) th rows := by
  have le := le_tag hg (.env (l :: e))
  have ln : 0 < e.length := List.length_pos_iff.2 ne
  refine h.tag hg ⟨v, ptr b, ptr bf, e, ef, ?_, pRow.le le hr, ⟨b, rfl, le _ _ hb⟩, ⟨bf, rfl, le _ _ hf⟩, by simp, fun q => ?_, fun _ => ⟨rfl, sf, nf⟩⟩ (fun i => by simp) (fun j => by simp)
  · rw [hc]
    simp
  · rw [List.length_cons] at q; omega
set_option maxHeartbeats 2000000 in
theorem within_any (h : Rep w G th rows) {b : Nat} {e : Env} (hb : G b = some (.env e)) {l : List Nat} {v : Value} (hv : pRow G l v) (hl : e.length + 1 ≤ 1000000000) :
    Calls Tryz.prog 100 #[ptr b, v] w fun r w' => ∃ u G', r = .returned u ∧ pEnv G' (inE e l) u ∧ Fx G G' w w' ∧ Rep w' G' th rows := by
  by_cases z : l.length = 0
  · have ez : inE e l = e := by unfold inE; rw [if_pos z]
    rw [ez]
    obtain ⟨ga, cap, rfl, _, _⟩ := hv
    rw [z]
    have H := Hid.mk h
    have HB := Hid.mk hb
    clear h hb
    go_enter Tryz.func100, Tryz.ntmps100
    go_wp2
    go_ret
    exact ⟨_, G, rfl, ⟨b, rfl, HB.out⟩, Fx.refl _ _, H.out⟩
  · have ez : inE e l = l :: e := by unfold inE; rw [if_neg z]
    rw [ez]
    have HV := Hid.mk hv
    obtain ⟨ga, cap, rfl, hcap, _⟩ := hv
    obtain ⟨t, bu, bf, eu, ef, XB, PR, hu, hf, ne, c1, c2⟩ := h.envB hb
    obtain ⟨t2, bu2, bf2, eu2, ef2, XF, PR2, hu2, hf2, ne2, d1, d2⟩ := h.envB hf
    obtain ⟨t3, bu3, bf3, eu3, ef3, XG, PR3, hu3, hf3, ne3, e1, e2⟩ := h.envB hf2
    have le0 : 0 < e.length := List.length_pos_iff.2 ne
    have sf : ef <:+ e := by
      by_cases q : e.length = 1
      · rw [(c1 q).2]; exact List.suffix_refl e
      · exact (c2 (by omega)).2.1.trans (List.tail_suffix e)
    have le1 : 0 < ef.length := List.length_pos_iff.2 ne2
    have sg : ef2 <:+ e := by
      refine List.IsSuffix.trans ?_ sf
      by_cases q : ef.length = 1
      · rw [(d1 q).2]; exact List.suffix_refl ef
      · exact (d2 (by omega)).2.1.trans (List.tail_suffix ef)
    have lf := sf.length_le
    have lg := sg.length_le
    have y1 := XB.cell 1
    have y3 := XB.cell 3
    have f1 := XF.cell 1
    have f3 := XF.cell 3
    have g1 := XG.cell 1
    have zz : ((l.length : Int) == 0) = false := beq_eq_false_iff_ne.2 (by omega)
    have o1 : IntKind.i64.wrap ((e.length : Int) - 1 + 1) = e.length := by rw [IntKind.wrap_i64]; omega
    have o2 : IntKind.i64.wrap ((e.length : Int) - 1 - ((ef.length : Int) - 1)) = (e.length : Int) - ef.length := by rw [IntKind.wrap_i64]; omega
    have o3 : IntKind.i64.wrap ((ef.length : Int) - 1 - ((ef2.length : Int) - 1)) = (ef.length : Int) - ef2.length := by rw [IntKind.wrap_i64]; omega
    obtain ⟨W, hW⟩ : ∃ W, W = w.alloc (.cells #[.slice ga l.length cap, .int .i64 (e.length : Int), ptr b, ptr b] 86) := ⟨_, rfl⟩
    have KW : Below w.heap.size w W := by rw [hW]; exact Joins.below_alloc1 w _
    have XW : Bx W w.heap.size #[.slice ga l.length cap, .int .i64 (e.length : Int), ptr b, ptr b] 86 := by rw [hW]; exact heap_alloc_new w _
    have x1 := (XB.later KW).cell 1
    have x3 := (XB.later KW).cell 3
    have u1 := (XF.later KW).cell 1
    have u3 := (XF.later KW).cell 3
    have v1 := (XG.later KW).cell 1
    have fr := h.free (Nat.le_refl _)
    have HH := Hid.mk (And.intro (h.below KW) (And.intro hb (And.intro hf (And.intro hf2 (And.intro ne (And.intro sf (And.intro ne2 (And.intro sg (And.intro ne3 fr)))))))))
    have HX := Hid.mk (And.intro XB (And.intro XF (And.intro XG XW)))
    have HK := Hid.mk KW
    have HBF : Hid (b < w.heap.size) := ⟨h.lt hb⟩
    clear h hb XB XF XG XW PR PR2 PR3 hu hu2 hu3 hf hf2 hf3 c1 c2 d1 d2 e1 e2 KW sf sg ne ne2 ne3 fr
    cases q : ((e.length : Int) - ef.length == (ef.length : Int) - ef2.length)
    · go_enter Tryz.func100, Tryz.ntmps100
      go_wp2
      rw [← hW]
      clear hW
      go_quiet (fail)
      all_goals go_wp2
      go_ret
      obtain ⟨R1, h1, h2, h3, h4, h5, h6, h7, h8, h9⟩ := HH.out
      have BD := below_drewN HK.out nq
      have hc : (W.drewN nq).heap[w.heap.size]? = some (.cells #[.slice ga l.length cap, .int .i64 (e.length : Int), ptr b, ptr b] 86 (0, 0)) := HX.out.2.2.2
      have R2 : Rep (W.drewN nq) G th rows := R1.later (Nat.le_refl _) (fun _ _ _ => rfl)
      exact ⟨_, _, rfl, ⟨w.heap.size, rfl, tag_self _ _ _⟩, (Fx.of_tag (Nat.le_refl _) h9 _).trans (Fx.of_below BD), R2.scope h9 h1 h1 HV.out h4 (List.suffix_refl e) h4 hc⟩
    · have nb : w.heap.size ≠ b := by have := HBF.out; omega
      go_enter Tryz.func100, Tryz.ntmps100
      go_wp2
      rw [← hW]
      clear hW
      go_quiet (fail)
      obtain ⟨w1, hw1⟩ : ∃ x, x = W.drewN nq := ⟨_, rfl⟩
      rw [← hw1]
      have HD : Hid (Below w.heap.size w w1 ∧ Below W.heap.size W w1) := ⟨by rw [hw1]; exact below_drewN HK.out _, by rw [hw1]; exact below_drewN (Below.refl _ _) _⟩
      clear hw1 x1 x3 u1 u3 v1 y1 y3 f1 f3 g1
      have s3 := (HX.out.1.later HD.out.1).cell 3
      have t3 := (HX.out.2.1.later HD.out.1).cell 3
      have k0 := (HX.out.2.2.2.later HD.out.2).cell 3
      have k1 : w1.frozen? ⟨w.heap.size, 3, none⟩ = false := Joins.unfrozen_of_block (HX.out.2.2.2.later HD.out.2) 3
      go_wp2
      go_ret
      obtain ⟨R1, h1, h2, h3, h4, h5, h6, h7, h8, h9⟩ := HH.out
      have XX := HX.out.2.2.2.later HD.out.2
      have hc : (w1.setCell ⟨w.heap.size, 3, none⟩ (ptr bf2)).heap[w.heap.size]? = some (.cells #[.slice ga l.length cap, .int .i64 (e.length : Int), ptr b, ptr bf2] 86 (0, 0)) := Joins.block_setCell (i := 3) XX _
      have ho : ∀ i, i ≠ w.heap.size → (w1.setCell ⟨w.heap.size, 3, none⟩ (ptr bf2)).heap[i]? = w1.heap[i]? := fun i hi => setCell_block _ _ _ _ hi
      have R2 : Rep (w1.setCell ⟨w.heap.size, 3, none⟩ (ptr bf2)) G th rows := (R1.below HD.out.2).later (by simp [World.setCell]) (fun x ty hx => ho x (fun e => by rw [e, h9] at hx; cases hx))
      have BD : Below w.heap.size w (w1.setCell ⟨w.heap.size, 3, none⟩ (ptr bf2)) := ⟨HD.out.1.os, HD.out.1.tape, HD.out.1.output, by have := HD.out.1.size; simp [World.setCell]; omega, fun i hi => (ho i (by omega)).trans (HD.out.1.block i hi)⟩
      exact ⟨_, _, rfl, ⟨w.heap.size, rfl, tag_self _ _ _⟩, (Fx.of_tag (Nat.le_refl _) h9 _).trans (Fx.of_below BD), R2.scope h9 h1 h3 HV.out h4 h7 h8 hc⟩
end
end Go.Proofs.YtbajpejnnfacbaaGreatDoor.Lz
