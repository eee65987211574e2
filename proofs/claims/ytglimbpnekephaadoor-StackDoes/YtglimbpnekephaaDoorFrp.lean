/- Package stack: the law's list of what a range over frames tells. -/
import Derived.Test.YtglimbpnekephaaDoorFrn
namespace Go.Proofs.YtglimbpnekephaaDoor
open Go.RowKit Go.Shelf
set_option linter.unusedVariables false
set_option linter.unusedSimpArgs false
attribute [local go_sem] Oper.semAt_some

theorem frames_any {w : World} {z g cap : Nat} {rs : List Fr} (R : RdB w z g cap (wd rs)) (hok : ∀ f ∈ rs, Okf f) (hus : (wd rs).length ≤ 65536) :
    Calls Tryd.prog 27 #[.func (.func 53) #[] #[.pointer (some ⟨z, 0, none⟩)]] w fun e w' => ∃ v base l, e = .returned v ∧ w.heap.size ≤ base ∧ Rw w' base v l ∧ l.map Fp.f = rs ∧ (∀ x ∈ l, PT w' x.o x.c x.f.ps) ∧ Below w.heap.size w w' := by
  have B1 : Below w.heap.size w (w.alloc (Obj.cells #[.slice none 0 0] 29)) := by go_grown
  have Y : Bx (w.alloc (Obj.cells #[.slice none 0 0] 29)) w.heap.size #[.slice none 0 0] 29 := heap_alloc_new _ _
  have F1 := frames1_any (y := w.heap.size) (R.later B1) Y hok hus R.lt.2
  have HB1 := Hid.mk B1
  clear B1 R
  have he : ∀ w : World, (binOp .eql 62 (.func (.func 53) #[] #[.pointer (some ⟨z, 0, none⟩)]) .nilFunc).run Tryd.prog w = .ok (.bool false) w := fun _ => rfl
  go_enter Tryd.func27, Tryd.ntmps27
  go_wp2_with (go_at_call 53; refine F1.mono ?_; rintro e w2 ⟨⟨u, rfl⟩, ⟨v, l, Y2, R2, hl, hp⟩, B2⟩; have y0 := Y2.cell 0; simp only [List.getElem?_toArray, List.getElem?_cons_zero] at y0; obtain ⟨ga, cp, rfl, hcp⟩ := R2.form)
  go_ret
  exact ⟨_, _, l, rfl, by simp <;> omega, R2, hl, hp, HB1.out.trans B2⟩
/-- what Frames tells, as the law lists it -/
theorem told_list {w : World} {p a b F N k : Nat} {ws : List Int} {rs : List Fr} (h : Ss w p a b ws F N k rs) : (∀ f ∈ rs, Okf f) ∧ (wd rs).length ≤ 65536 :=
  ⟨h.ok, by have := h.stk.un; have := h.stk.nn; omega⟩
end Go.Proofs.YtglimbpnekephaaDoor
