/- A right code stays right with a constructor more, an info more and two instructions more behind it: plain. -/
import Derived.Test.YtidplckoolmaiaaDoorCdo
namespace Go.Proofs.YtidplckoolmaiaaDoor
set_option linter.unusedVariables false
set_option linter.unusedSimpArgs false

def mor1 (n : Int) : Ins := ⟨1, 0, 0, [], [], [⟨2, 0, n, []⟩], []⟩
def mor2 : Ins := ⟨3, 0, 1, [], [], [], []⟩
def more (c : Cd) (n : Int) : Cd := ⟨c.co ++ [8], c.gl, c.inf ++ [⟨6, 0, 0, c.ins.length⟩], c.ins ++ [mor1 n, mor2]⟩
section
variable {c : Cd} {n : Int}
theorem getD_app {α : Type} (l r : List α) (d : α) (j : Nat) (h : j < l.length) : (l ++ r).getD j d = l.getD j d := by
  simp [List.getD_eq_getElem?_getD, List.getElem?_append_left h]
theorem below_more {i : Int} {l k : Nat} (h : belowI i l = true) (hk : l ≤ k) : belowI i k = true := by
  have := below_yes h
  simp [belowI]; omega
theorem con_more {i : Int} (h : conB c i = true) : conB (more c n) i = true := below_more h (by simp [more])
theorem coA_more {i : Int} (h : conB c i = true) : coA (more c n) i = coA c i := by
  have := below_yes (show belowI i c.co.length = true from h)
  exact getD_app _ _ _ _ (by omega)
theorem infA_more {i : Int} (h : belowI i c.inf.length = true) : infA (more c n) i = infA c i := by
  have := below_yes h
  exact getD_app _ _ _ _ (by omega)
theorem insA_more {i : Int} (h : belowI i c.ins.length = true) : insA (more c n) i = insA c i := by
  have := below_yes h
  exact getD_app _ _ _ _ (by omega)
theorem named_more (m : Mk) (h : namedI c m = true) : namedI (more c n) m = true := by
  unfold namedI at h ⊢
  split at h
  · rename_i q; rw [if_pos q]; exact con_more h
  · rename_i q
    rw [if_neg q]
    split at h
    · rename_i r
      rw [if_pos r]
      rw [Bool.and_eq_true] at h ⊢
      exact ⟨below_more h.1 (by simp [more]), by rw [infA_more h.1]; exact h.2⟩
    · rename_i r
      rw [if_neg r]
      split at h
      · rename_i s
        rw [if_pos s]
        rw [Bool.and_eq_true] at h ⊢
        exact ⟨con_more h.1, by rw [coA_more h.1]; exact h.2⟩
      · rename_i s
        rw [if_neg s]
theorem enough_more (m : Mk) (hn : namedI c m = true) (h : enoughI c m = true) : enoughI (more c n) m = true := by
  have hd := named_more (n := n) m hn
  unfold enoughI at h ⊢
  rw [hn] at h
  rw [hd]
  split at h
  · rename_i q
    rw [if_pos q]
    have : conB c m.i = true := by unfold namedI at hn; rwa [if_pos q] at hn
    rw [coA_more this]; exact h
  · rename_i q
    rw [if_neg q]
    split at h
    · rename_i r
      rw [if_pos r]
      have : belowI m.i c.inf.length = true := by unfold namedI at hn; rw [if_neg q, if_pos r, Bool.and_eq_true] at hn; exact hn.1
      rw [infA_more this]; exact h
    · rename_i r
      rw [if_neg r]
      exact h
theorem armN_more (a : Arm) (h : armN c a = true) : armN (more c n) a = true := by
  unfold armN at h ⊢
  split at h
  · rename_i q; rw [if_pos q]; exact con_more h
  · rename_i q; rw [if_neg q]
theorem fields_more (a : Arm) (h : armN c a = true) : fieldsI (more c n) a = fieldsI c a := by
  unfold armN at h
  unfold fieldsI
  split at h
  · rename_i q; rw [if_pos q, if_pos q, coA_more h]
  · rename_i q; rw [if_neg q, if_neg q]
theorem all_imp {α : Type} {l : List α} {f g : α → Bool} (h : l.all f = true) (k : ∀ x ∈ l, f x = true → g x = true) : l.all g = true := by
  rw [List.all_eq_true] at h ⊢
  exact fun x hx => k x hx (h x hx)
/-- what a right instruction is -/
theorem wrong_zero {z : Int} {x : Ins} : wrongI c z x = 0 ↔ kindsI x = true ∧ localsI x = true ∧ countsI c x = true ∧ namesI c x = true ∧ primI x = true ∧ placesI c x = true ∧ (waysI c z x).all (thereI c) = true ∧ armsI c x = true ∧ (waysI c z x).all (fitsI c) = true := by
  unfold wrongI
  generalize kindsI x = a1
  generalize localsI x = a2
  generalize countsI c x = a3
  generalize namesI c x = a4
  generalize primI x = a5
  generalize placesI c x = a6
  generalize (waysI c z x).all (thereI c) = a7
  generalize armsI c x = a8
  generalize (waysI c z x).all (fitsI c) = a9
  cases a1 <;> cases a2 <;> cases a3 <;> cases a4 <;> cases a5 <;> cases a6 <;> cases a7 <;> cases a8 <;> cases a9 <;> simp
theorem wrong_more {z : Int} {x : Ins} (h : wrongI c z x = 0) : wrongI (more c n) z x = 0 := by
  rw [wrong_zero] at h ⊢
  obtain ⟨h1, h2, h3, h4, h5, h6, h7, h8, h9⟩ := h
  have hw : waysI (more c n) z x = waysI c z x := by
    unfold waysI
    by_cases q1 : x.op = 1
    · rw [if_pos q1, if_pos q1]
    by_cases q4 : x.op = 4
    · rw [if_neg q1, if_neg q1, if_pos q4, if_pos q4]
    by_cases q5 : x.op = 5
    · rw [if_neg q1, if_neg q1, if_neg q4, if_neg q4, if_pos q5, if_pos q5]
      refine List.map_congr_left fun a ha => ?_
      unfold namesI at h4
      rw [if_neg q1, if_pos q5, List.all_eq_true] at h4
      rw [fields_more a (h4 a ha)]
    rw [if_neg q1, if_neg q1, if_neg q4, if_neg q4, if_neg q5, if_neg q5]
  refine ⟨h1, h2, ?_, ?_, h5, h6, ?_, ?_, ?_⟩
  · unfold countsI at h3 ⊢
    by_cases q1 : x.op = 1
    · rw [if_pos q1] at h3 ⊢
      unfold namesI at h4
      rw [if_pos q1, List.all_eq_true] at h4
      rw [Bool.and_eq_true] at h3 ⊢
      exact ⟨h3.1, all_imp h3.2 fun m hm => enough_more m (h4 m hm)⟩
    · rw [if_neg q1] at h3 ⊢
      exact h3
  · unfold namesI at h4 ⊢
    by_cases q1 : x.op = 1
    · rw [if_pos q1] at h4 ⊢
      exact all_imp h4 fun m _ => named_more m
    · rw [if_neg q1] at h4 ⊢
      by_cases q5 : x.op = 5
      · rw [if_pos q5] at h4 ⊢
        exact all_imp h4 fun m _ => armN_more m
      · rw [if_neg q5]
  · rw [hw]
    exact all_imp h7 fun y _ hy => below_more hy (by simp [more])
  · unfold armsI at h8 ⊢
    by_cases q4 : x.op = 4
    · rw [if_pos q4] at h8 ⊢
      have : belowI x.a c.ins.length = true := by
        rw [List.all_eq_true] at h7
        exact h7 (x.a, (x.ke.length : Int) + 1) (by unfold waysI; rw [if_neg (by omega), if_pos q4]; simp)
      rw [insA_more this]; exact h8
    · rw [if_neg q4]
  · rw [hw]
    rw [List.all_eq_true] at h7 h9 ⊢
    intro y hy
    have := h9 y hy
    unfold fitsI at this ⊢
    rw [insA_more (h7 y hy)]
    exact this
theorem insA_len (c : Cd) (n : Int) : insA (more c n) c.ins.length = mor1 n := by
  simp [insA, more, List.getD_eq_getElem?_getD]
theorem insA_len1 (c : Cd) (n : Int) : insA (more c n) ((c.ins.length : Int) + 1) = mor2 := by
  have e : ((c.ins.length : Int) + 1).toNat = c.ins.length + 1 := by omega
  simp [insA, more, List.getD_eq_getElem?_getD, e]
theorem more_1 (c : Cd) (n : Int) : wrongI (more c n) c.ins.length (mor1 n) = 0 := by
  rw [wrong_zero]
  refine ⟨rfl, rfl, rfl, rfl, rfl, rfl, ?_, rfl, ?_⟩
  · have : thereI (more c n) ((c.ins.length : Int) + 1, 0 + 1) = true := by simp [thereI, belowI, more]; omega
    simpa [waysI, mor1] using this
  · have : fitsI (more c n) ((c.ins.length : Int) + 1, 0 + 1) = true := by unfold fitsI; simp only; rw [insA_len1]; rfl
    simpa [waysI, mor1] using this
theorem more_2 (c : Cd) (n z : Int) : wrongI (more c n) z mor2 = 0 := by
  rw [wrong_zero]
  exact ⟨rfl, rfl, rfl, rfl, rfl, rfl, rfl, rfl, rfl⟩
theorem good_more (h : Good c) (n : Int) : Good (more c n) := by
  obtain ⟨h1, h2, h3, h4⟩ := h
  refine ⟨fun a ha => ?_, fun f hf => ?_, fun g hg => ?_, fun i x hx => ?_⟩
  · rcases List.mem_append.1 ha with q | q
    · exact h1 a q
    · simp at q; subst q; rfl
  · rcases List.mem_append.1 hf with q | q
    · have := h2 f q
      unfold wrongInf at this ⊢
      split at this
      · cases this
      · rename_i a1
        rw [if_neg a1]
        split at this
        · cases this
        · rename_i a2
          rw [if_neg a2]
          split at this
          · cases this
          · rename_i a3
            have a3 : belowI f.t c.ins.length = true := by simpa using a3
            rw [if_neg (by rw [below_more a3 (by simp [more] : c.ins.length ≤ (more c n).ins.length)]; simp), insA_more a3]
            exact this
    · simp at q
      subst q
      have e1 : belowI (c.ins.length : Int) (more c n).ins.length = true := by simp [belowI, more]; omega
      unfold wrongInf
      rw [if_neg (by simp), if_neg (by simp), if_neg (by simp only; rw [e1]; simp)]
      simp only
      rw [insA_len]
      rfl
  · have := h3 g hg
    unfold wrongGlo at this ⊢
    split at this
    · cases this
    · rename_i a1
      have a1 : belowI g c.inf.length = true := by simpa using a1
      rw [if_neg (by rw [below_more a1 (by simp [more] : c.inf.length ≤ (more c n).inf.length)]; simp), infA_more a1]
      exact this
  · have hx' : (c.ins ++ [mor1 n, mor2])[i]? = some x := hx
    by_cases hi : i < c.ins.length
    · rw [List.getElem?_append_left hi] at hx'
      exact wrong_more (h4 i x hx')
    · rw [List.getElem?_append_right (by omega)] at hx'
      obtain ⟨j, rfl⟩ : ∃ j, i = c.ins.length + j := ⟨i - c.ins.length, by omega⟩
      rw [Nat.add_sub_cancel_left] at hx'
      match j, hx' with
      | 0, hx' => simp at hx'; subst hx'; exact more_1 c n
      | 1, hx' => simp at hx'; subst hx'; exact more_2 c n _
end
end Go.Proofs.YtidplckoolmaiaaDoor
