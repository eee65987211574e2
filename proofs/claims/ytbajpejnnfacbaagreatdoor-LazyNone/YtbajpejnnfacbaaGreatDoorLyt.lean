/- Package lazy: a thing is to be known. -/
import Derived.Test.YtbajpejnnfacbaaGreatDoorLyl
import Derived.Test.YtbajpejnnfacbaaGreatDoorLyj
namespace Go.Proofs.YtbajpejnnfacbaaGreatDoor.Lz
open Go.RowKit
set_option linter.unusedVariables false
set_option linter.unusedSimpArgs false


section
variable {w w' : World} {G G' : Gm} {rb mb : Nat} {mv : Mv} {s : St} {sh : Int}
/-- the thing that is to be known -/
theorem Run.of1 (h : Run w G rb mb mv s sh) {t : Nat} (hm : s.md = .kn t) : ∃ b, True ∧ G b = some (.thing t) ∧ w.cell? ⟨rb, 5, none⟩ = some (ptr b) := by
  obtain ⟨nx, vx, vn, vo, wr, vw, cs, a, b, c, d⟩ := h.r
  rw [hm] at b
  obtain ⟨rfl, b', rfl, hb⟩ := b
  exact ⟨b', trivial, hb, a.cell 5⟩
set_option maxRecDepth 100000 in
set_option maxHeartbeats 8000000 in
theorem know_val (h : Run w G rb mb mv s sh) {t : Nat} (hm : s.md = .kn t) {tv : T} (ht : s.th[t]? = some tv) (vv : isVal tv) : Calls Tryz.prog 51 #[ptr rb] w (Out w G rb mb mv { s with md := .tl t } sh) := by
  obtain ⟨b, _, hb, c5⟩ := h.of1 hm
  obtain ⟨tv', e', f, nm, o, ga2, gn, gc, it, wr, XB⟩ := h.rep.heads hb
  rw [ht] at e'
  cases e'
  have k0 := XB.cell 0
  have K := tells_any h ⟨b, rfl, hb⟩
  have k5 : isOf tv ≤ 5 := vv
  obtain ⟨k, hk⟩ : ∃ k, isOf tv = k := ⟨_, rfl⟩
  rw [hk] at k0 k5
  have g10 : ((k : Int) == 10) = false := beq_eq_false_iff_ne.2 (by omega)
  have g9 : ((k : Int) == 9) = false := beq_eq_false_iff_ne.2 (by omega)
  have g8 : ((k : Int) == 8) = false := beq_eq_false_iff_ne.2 (by omega)
  have g7 : ((k : Int) == 7) = false := beq_eq_false_iff_ne.2 (by omega)
  have g6 : ((k : Int) == 6) = false := beq_eq_false_iff_ne.2 (by omega)
  clear h hb ht vv XB hk
  go_enter Tryz.func51, Tryz.ntmps51
  go_wp2_with (go_at_call 67; refine K.mono ?_; intro e w10 H9; have HE := Hid.mk H9; obtain ⟨rfl, _⟩ := H9)
  go_end0
  exact HE.out
set_option maxRecDepth 100000 in
set_option maxHeartbeats 8000000 in
theorem know_any {ar : List Nat} (h : Run w G rb mb mv s sh) {t : Nat} (hm : s.md = .kn t) (gd : Good ar s) (hw : s.ws.length + 2 ≤ 1000000000) : Calls Tryz.prog 51 #[ptr rb] w (Out w G rb mb mv (knowS s t) sh) := by
  have mdt := gd.md
  rw [hm] at mdt
  obtain ⟨tv, ht⟩ : ∃ tv, s.th[t]? = some tv := ⟨_, List.getElem?_eq_getElem mdt⟩
  by_cases vv : isVal tv
  · have e2 : knowS s t = { s with md := .tl t } := by
      unfold knowS
      rw [thAt_some ht]
      cases tv <;> first | rfl | (exact absurd vv (by simp [isVal, isOf]))
    rw [e2]
    exact know_val h hm ht vv
  obtain ⟨b, _, hb, c5⟩ := h.of1 hm
  obtain ⟨tv', c, e1, hc, q⟩ := h.rep.cont b _ hb
  rw [ht] at e1
  cases e1
  have okt := gd.th _ _ ht
  cases tv with
  | same u =>
    have ek : knowS s t = { s with md := .tl u } := by unfold knowS; rw [thAt_some ht]
    rw [ek]
    clear ek
    obtain ⟨_, ⟨bo, rfl, ho⟩, rfl⟩ := q
    have XB : Bx w b _ 91 := hc
    have k0 := XB.cell 0
    have k4 := XB.cell 4
    have K := tells_any h ⟨bo, rfl, ho⟩
    clear h hb ht vv XB hc ho gd okt mdt
    go_enter Tryz.func51, Tryz.ntmps51
    go_wp2_with (go_at_call 67; refine K.mono ?_; intro e w10 H9; have HE := Hid.mk H9; obtain ⟨rfl, _⟩ := H9)
    go_end0
    exact HE.out
  | failed er =>
    have ek : knowS s t = failS s er := by unfold knowS; rw [thAt_some ht]
    rw [ek]
    clear ek
    obtain rfl := q
    have XB : Bx w b _ 91 := hc
    have k0 := XB.cell 0
    have k7 := XB.cell 7
    have K := fails_any h er (by omega)
    clear h hb ht vv XB hc gd okt mdt
    go_enter Tryz.func51, Tryz.ntmps51
    go_wp2_with (go_at_call 75; refine K.mono ?_; intro e w10 H9; have HE := Hid.mk H9; obtain ⟨rfl, _⟩ := H9)
    go_end0
    exact HE.out
  | work =>
    have ek : knowS s t = failS s 47 := by unfold knowS; rw [thAt_some ht]
    rw [ek]
    clear ek
    obtain rfl := q
    have XB : Bx w b _ 91 := hc
    have k0 := XB.cell 0
    have K := fails_any h 47 (by omega)
    clear h hb ht vv XB hc gd okt mdt
    go_enter Tryz.func51, Tryz.ntmps51
    go_wp2_with (go_at_call 75; refine K.mono ?_; intro e w10 H9; have HE := Hid.mk H9; obtain ⟨rfl, _⟩ := H9)
    go_end0
    exact HE.out
  | call f l =>
    have ek : knowS s t = { s with th := s.th.set t .work, ws := .things l :: .same t :: s.ws, md := .kn f } := by unfold knowS; rw [thAt_some ht]
    rw [ek]
    clear ek
    have WK := works_any h hb hc q (by omega)
    obtain ⟨_, _, ⟨bo, rfl, ho⟩, hl, rfl⟩ := q
    have hl0 := hl
    obtain ⟨ga, cap, rfl, _⟩ := hl
    have XB : Bx w b _ 91 := hc
    have k0 := XB.cell 0
    have HH := Hid.mk (And.intro ho hl0)
    have AFT : Hid (∀ w8 G8, Fx G G8 w w8 → Run w8 G8 rb mb mv { s with th := s.th.set t .work, ws := .same t :: s.ws } sh → Calls Tryz.prog 70 #[ptr rb, ptr bo, .slice ga l.length cap] (w8.alloc (.cells (thC 7 0 nilp nilp (ptr bo) (.slice ga l.length cap) nilm 0) 91)) (Out w G rb mb mv { s with th := s.th.set t .work, ws := .things l :: .same t :: s.ws, md := .kn f } sh)) := ⟨fun w8 G8 F8 R8 => by
      have R9 := R8.below (Joins.below_alloc1 w8 (.cells (thC 7 0 nilp nilp (ptr bo) (.slice ga l.length cap) nilm 0) 91))
      exact (calls_any R9 ⟨bo, rfl, F8.le _ _ ho⟩ (pRow.le F8.le hl0) (by simp only [List.length_cons]; omega)).mono (fun e w10 H => Out.from (F8.trans (Fx.of_below (Joins.below_alloc1 w8 _))) H)⟩
    generalize l.length = nl at *
    clear h hb ht vv XB hc gd okt mdt ho hl0 HH
    go_enter Tryz.func51, Tryz.ntmps51
    go_wp2_with (first
      | (go_at_call 76; refine WK.mono ?_; rintro e w8 ⟨rfl, G8, F8, R8⟩; have K := AFT.out w8 G8 F8 R8; clear F8 R8)
      | (go_at_call 70; refine K.mono ?_; intro e w10 H9; have HE := Hid.mk H9; obtain ⟨rfl, _⟩ := H9))
    go_end0
    exact HE.out
  | need x e =>
    have ek : knowS s t = { s with th := s.th.set t .work, ws := .same t :: s.ws, md := .ev x e } := by unfold knowS; rw [thAt_some ht]
    rw [ek]
    clear ek
    have WK := works_any h hb hc q (by omega)
    obtain ⟨_, _, a, ⟨fb, rfl, hf⟩, ⟨nb, rfl, hn⟩, rfl⟩ := q
    obtain ⟨xb, XF, hx⟩ := h.rep.formB hf
    have XB : Bx w b _ 91 := hc
    have k0 := XB.cell 0
    have nr : fb ≠ rb := fun z => by rw [z, h.rt] at hf; cases hf
    have AFT : Hid (∀ w8 G8, Fx G G8 w w8 → Run w8 G8 rb mb mv { s with th := s.th.set t .work, ws := .same t :: s.ws } sh → ∃ W9, W9 = w8.alloc (.cells (thC 6 0 (ptr fb) (ptr nb) nilp nils nilm 0) 91) ∧ W9.cell? ⟨w8.heap.size, 2, none⟩ = some (ptr fb) ∧ W9.cell? ⟨w8.heap.size, 3, none⟩ = some (ptr nb) ∧ W9.cell? ⟨fb, 1, none⟩ = some (ptr xb) ∧ w8.heap.size ≠ rb ∧ Calls Tryz.prog 71 #[ptr rb, ptr xb, ptr nb] W9.drew fun en w' => Out w G rb mb mv { s with th := s.th.set t .work, ws := .same t :: s.ws, md := .ev x e } sh en w' ∧ ∀ i, i ≠ rb → w'.heap[i]? = W9.heap[i]?) := ⟨fun w8 G8 F8 R8 => by
      have K9 := Joins.below_alloc1 w8 (.cells (thC 6 0 (ptr fb) (ptr nb) nilp nils nilm 0) 91)
      have X9 : Bx (w8.alloc (.cells (thC 6 0 (ptr fb) (ptr nb) nilp nils nilm 0) 91)) w8.heap.size (thC 6 0 (ptr fb) (ptr nb) nilp nils nilm 0) 91 := heap_alloc_new w8 _
      have R9 := (R8.below K9).drew
      have fl := h.rep.lt hf
      have XF8 : Bx w8 fb #[.int .i64 a, ptr xb] 119 := (F8.block fb fl (by rw [hf]; trivial)).trans XF
      refine ⟨_, rfl, X9.cell 2, X9.cell 3, (XF8.later K9).cell 1, fun z => ?_, ?_⟩
      · have := R8.rep.lt R8.rt
        omega
      · exact (evaluates_more R9 ⟨xb, rfl, F8.le _ _ hx⟩ ⟨nb, rfl, F8.le _ _ hn⟩).mono (fun en w10 H => ⟨Out.from ((F8.trans (Fx.of_below K9)).trans (Fx.drewL _ _)) H.1, H.2⟩)⟩
    clear h hb ht vv XB hc gd okt mdt hf hn XF hx
    go_enter Tryz.func51, Tryz.ntmps51
    go_wp2_with (first
      | (go_at_call 76; refine WK.mono ?_; rintro e w8 ⟨rfl, G8, F8, R8⟩; have K0 := Hid.mk (AFT.out w8 G8 F8 R8); clear F8 R8))
    obtain ⟨W9, hW9, x2, x3, x1, n9, K⟩ := K0.out
    rw [← hW9]
    have HN := Hid.mk (And.intro n9 nr)
    clear hW9 K0 n9 nr
    go_region_held3 (fun w' => w'.cell? ⟨w8.heap.size, 2, none⟩ = some (ptr fb) ∧ w'.cell? ⟨w8.heap.size, 3, none⟩ = some (ptr nb) ∧ w'.cell? ⟨fb, 1, none⟩ = some (ptr xb)) (go_keep) (first
      | (go_at_call 71; refine K.mono ?_; rintro e w10 ⟨H9, O9⟩; have t0 := (World.cell?_of_block (a := ⟨w8.heap.size, 2, none⟩) (O9 _ HN.out.1)).trans x2; have t1 := (World.cell?_of_block (a := ⟨w8.heap.size, 3, none⟩) (O9 _ HN.out.1)).trans x3; have t2 := (World.cell?_of_block (a := ⟨fb, 1, none⟩) (O9 _ HN.out.2)).trans x1; have HE := Hid.mk H9; obtain ⟨rfl, _⟩ := H9; clear O9))
    all_goals go_wp2
    all_goals go_end0
    all_goals exact HE.out
  | num n => exact absurd (show isVal (.num n) by simp [isVal, isOf]) vv
  | con n l => exact absurd (show isVal (.con n l) by simp [isVal, isOf]) vv
  | fn a x e => exact absurd (show isVal (.fn a x e) by simp [isVal, isOf]) vv
  | part f l => exact absurd (show isVal (.part f l) by simp [isVal, isOf]) vv
  | var u => exact absurd (show isVal (.var u) by simp [isVal, isOf]) vv
  | arr l => exact absurd (show isVal (.arr l) by simp [isVal, isOf]) vv
end
end Go.Proofs.YtbajpejnnfacbaaGreatDoor.Lz

/- Package lazy: how far a step goes; steps one behind another. -/
namespace Go.Proofs.YtbajpejnnfacbaaGreatDoor.Lz
open Go.RowKit
set_option linter.unusedVariables false
set_option linter.unusedSimpArgs false


/-- b is at most so much greater than a -/
def Gr (n m q : Nat) (a b : St) : Prop := b.ws.length ≤ a.ws.length + n ∧ b.out.length ≤ a.out.length + m ∧ b.steps ≤ a.steps + q ∧ b.fuel ≤ a.fuel
theorem Gr.mono {n m q n' m' q' : Nat} {a b : St} (h : Gr n m q a b) (h1 : n ≤ n') (h2 : m ≤ m') (h3 : q ≤ q') : Gr n' m' q' a b := by
  obtain ⟨a1, a2, a3, a4⟩ := h
  exact ⟨by omega, by omega, by omega, a4⟩
theorem gr_ite {n m q : Nat} {a x y : St} {c : Prop} [Decidable c] (h1 : Gr n m q a x) (h2 : Gr n m q a y) : Gr n m q a (if c then x else y) := by split <;> assumption
theorem gr_fail (s : St) (e : Int) : Gr 0 0 0 s (failS s e) := ⟨by simp [failS], by simp [failS], by simp [failS], by simp [failS]⟩
theorem gr_new (s : St) (t : T) : Gr 0 0 0 s (tellNew s t) := ⟨by simp [tellNew], by simp [tellNew], by simp [tellNew], by simp [tellNew]⟩
theorem gr_prim (s : St) (k : Nat) (l : List Nat) : Gr 0 1 0 s (primS s k l) := by
  unfold primS
  repeat' apply gr_ite
  all_goals first
    | exact (gr_fail s _).mono (by omega) (by omega) (by omega)
    | exact (gr_new s _).mono (by omega) (by omega) (by omega)
    | exact ⟨by simp [tellNew], by simp [tellNew], by simp [tellNew], by simp [tellNew]⟩
theorem gr_argsF (s : St) (k j : Nat) : ∀ (l : List Nat) (i : Nat), Gr 1 1 0 s (argsF s k j l i)
  | [], i => (gr_prim s k _).mono (by omega) (by omega) (by omega)
  | t :: r, i => by
    unfold argsF
    split
    · exact gr_argsF s k j r (i + 1)
    · exact ⟨by simp, by simp, by simp, by simp⟩
theorem gr_args (s : St) (k j i : Nat) : Gr 1 1 0 s (argsS s k j i) := gr_argsF s k j _ i
theorem gr_know (s : St) (t : Nat) : Gr 2 1 1 s (knowS s t) := by
  unfold knowS
  split
  all_goals first
    | exact (gr_fail s _).mono (by omega) (by omega) (by omega)
    | exact ⟨by simp, by simp, by simp, by simp⟩
theorem gr_evalX (s : St) (x : X) (e : Env) : Gr 1 1 0 s (evalX s x e) := by
  unfold evalX
  split
  · exact (gr_new s _).mono (by omega) (by omega) (by omega)
  · exact ⟨by simp [tellNew], by simp [tellNew], by simp [tellNew], by simp [tellNew]⟩
  · split <;> exact ⟨by simp, by simp, by simp, by simp⟩
  · exact ⟨by simp, by simp, by simp, by simp⟩
  · exact ⟨by simp, by simp, by simp, by simp⟩
  · exact gr_args _ _ _ _
theorem gr_eval (s : St) (x : X) (e : Env) : Gr 2 1 1 s (evalS s x e) := by
  unfold evalS
  split
  · exact ⟨by simp, by simp, by simp, by simp⟩
  · obtain ⟨a1, a2, a3, a4⟩ := gr_evalX { s with fuel := s.fuel - 1, steps := s.steps + 1 } x e
    simp only at a1 a2 a3 a4
    exact ⟨by omega, by omega, by omega, by omega⟩
theorem gr_enterF (s : St) (f : Nat) (l : List Nat) : Gr 1 1 0 s (enterF s f l) := by
  unfold enterF
  split
  · split
    · exact (gr_new s _).mono (by omega) (by omega) (by omega)
    · split <;> exact ⟨by simp, by simp, by simp, by simp⟩
  · exact (gr_fail s _).mono (by omega) (by omega) (by omega)
theorem gr_enter (s : St) (t : Nat) (l : List Nat) : Gr 1 1 0 s (enterS s t l) := by
  unfold enterS
  split <;> exact gr_enterF _ _ _
theorem gr_choose (s : St) (t : Nat) (al : List Ar) (o : List X) (e : Env) : Gr 1 1 0 s (chooseS s t al o e) := by
  unfold chooseS
  split
  · exact ⟨by simp, by simp, by simp, by simp⟩
  · split
    · exact ⟨by simp, by simp, by simp, by simp⟩
    · exact (gr_fail s _).mono (by omega) (by omega) (by omega)
theorem gr_argument (s : St) (t k j i : Nat) : Gr 1 1 0 s (argumentS s t k j i) := by
  unfold argumentS
  split
  · exact gr_args _ _ _ _
  · exact (gr_fail s _).mono (by omega) (by omega) (by omega)
theorem gr_tell (s : St) (t : Nat) : Gr 2 1 1 s (tellS s t) := by
  unfold tellS
  split
  · exact ⟨by simp, by simp, by simp, by simp⟩
  · rename_i u r h
    exact ⟨by rw [h, List.length_cons]; show r.length ≤ _; omega, by simp, by simp, by simp⟩
  · rename_i l r h
    obtain ⟨a1, a2, a3, a4⟩ := gr_enter { s with ws := r } t l
    simp only at a1 a2 a3 a4
    exact ⟨by rw [h, List.length_cons]; omega, by omega, by omega, a4⟩
  · rename_i al o e r h
    obtain ⟨a1, a2, a3, a4⟩ := gr_choose { s with ws := r } t al o e
    simp only at a1 a2 a3 a4
    exact ⟨by rw [h, List.length_cons]; omega, by omega, by omega, a4⟩
  · rename_i k j i r h
    obtain ⟨a1, a2, a3, a4⟩ := gr_argument { s with ws := r } t k j i
    simp only at a1 a2 a3 a4
    exact ⟨by rw [h, List.length_cons]; omega, by omega, by omega, a4⟩
theorem gr_step (s : St) : Gr 2 1 1 s (step s) := by
  unfold step
  split
  · exact gr_eval _ _ _
  · exact gr_know _ _
  · exact gr_tell _ _
  · exact ⟨by omega, by omega, by omega, by omega⟩
def iter : Nat → St → St
  | 0, s => s
  | k + 1, s => step (iter k s)
theorem step_fin {s : St} (h : fin s.md = true) : step s = s := by
  unfold step
  split
  · rename_i e; rw [e] at h; cases h
  · rename_i e; rw [e] at h; cases h
  · rename_i e; rw [e] at h; cases h
  · rfl
theorem iter_fin {s : St} {k : Nat} (h : fin (iter k s).md = true) : ∀ j, k ≤ j → iter j s = iter k s := by
  intro j hj
  induction j with
  | zero => obtain rfl : k = 0 := by omega
            rfl
  | succ j ih =>
    by_cases e : k = j + 1
    · rw [e]
    · rw [iter, ih (by omega), step_fin h]
/-- all the steps that there are -/
def runS (s : St) : St := iter (meas s) s
theorem iter_run {s : St} {k : Nat} (h : fin (iter k s).md = true) (hk : k ≤ meas s) : iter k s = runS s := (iter_fin h _ hk).symm
structure Far (ar : List Nat) (s0 : St) (k : Nat) (s : St) : Prop where
  is : s = iter k s0
  less : k + meas s ≤ meas s0
  good : Good ar s
  ws : s.ws.length ≤ s0.ws.length + 2 * k
  out : s.out.length ≤ s0.out.length + k
  steps : s.steps ≤ s0.steps + k
  fuel : s.fuel ≤ s0.fuel
theorem Far.start {ar : List Nat} {s : St} (h : Good ar s) : Far ar s 0 s := ⟨rfl, by omega, h, by omega, by omega, by omega, by omega⟩
theorem Far.step {ar : List Nat} {s0 s : St} {k : Nat} (h : Far ar s0 k s) (hf : fin s.md = false) : Far ar s0 (k + 1) (Lz.step s) ∧ meas (Lz.step s) < meas s := by
  have l := step_less h.good hf
  obtain ⟨a1, a2, a3, a4⟩ := gr_step s
  have := h.less; have := h.ws; have := h.out; have := h.steps; have := h.fuel
  exact ⟨⟨by rw [h.is]; rfl, by omega, step_good h.good, by omega, by omega, by omega, by omega⟩, l⟩
/-- the least of what is reckoned -/
noncomputable def least (P : Nat → Prop) : Nat := by
  classical
  exact if h : ∃ m, P m ∧ ∀ k, P k → m ≤ k then Classical.choose h else 0
theorem has_least {P : Nat → Prop} : ∀ n, P n → ∃ m, P m ∧ ∀ k, P k → m ≤ k := by
  intro n
  induction n using Nat.strongRecOn with
  | ind n ih =>
    intro h
    by_cases q : ∃ k, k < n ∧ P k
    · obtain ⟨k, hk, pk⟩ := q
      exact ih k hk pk
    · exact ⟨n, h, fun k pk => by
        by_cases l : k < n
        · exact absurd ⟨k, l, pk⟩ q
        · omega⟩
theorem least_of {P : Nat → Prop} {n : Nat} (h : P n) : P (least P) ∧ least P ≤ n := by
  have k := has_least n h
  unfold least
  rw [dif_pos k]
  exact ⟨(Classical.choose_spec k).1, (Classical.choose_spec k).2 n h⟩
end Go.Proofs.YtbajpejnnfacbaaGreatDoor.Lz
