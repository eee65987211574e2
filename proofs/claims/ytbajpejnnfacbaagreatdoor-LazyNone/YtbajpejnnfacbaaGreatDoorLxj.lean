/- Package lazy: the one program that is laid at any rate, as a machine that runs. -/
import Derived.Test.YtbajpejnnfacbaaGreatDoorLxh
import Derived.Test.YtbajpejnnfacbaaGreatDoorLxg
namespace Go.Proofs.YtbajpejnnfacbaaGreatDoor.Lz
open Go.RowKit
set_option linter.unusedVariables false
set_option linter.unusedSimpArgs false

abbrev emXp (n : Int) : X := .prim 8 [.num n]
def emG (n : Int) (rb mb e tb q f p a : Nat) : Gm := fun b =>
  if b = tb then some (.thing 0) else if b = q then some (.row [0]) else if b = e then some (.env [[0]]) else if b = f then some (.form 0 (emXp n)) else if b = p then some (.exp (emXp n)) else if b = a then some (.atoms [.num n]) else if b = mb then some (.own 1) else if b = rb then some (.own 0) else none
def emS (n : Int) : St := ⟨[.need (emXp n) [[0]]], [], [], 9, [], 0, .starve⟩
def emE (n : Int) : St := ⟨[.same 1, .num n], [[1]], [], 8, [n], 1, .rest 1⟩
theorem need80 : needI 8 0 = 2 := by decide
theorem em_meas (n : Int) : meas { emS n with md := .kn 0 } = 904 := by rfl
theorem em_run (n : Int) : runS { emS n with md := .kn 0 } = emE n := by
  have e : iter 8 { emS n with md := .kn 0 } = emE n := by
    simp [iter, step, knowS, thAt, emS, emE, evalS, evalX, atomsP, argsS, argsF, need80, tellS, argumentS, unlikeT, isOf, primS, numOf]
  exact (iter_run (k := 8) (by rw [e]; rfl) (by rw [em_meas]; omega)).symm.trans e
theorem em_good (n : Int) (hn : isI n) : Good [] { emS n with md := .kn 0 } := by
  refine ⟨fun i t ht => ?_, fun f hf => (by cases hf), (by show 0 < 1; omega), (by simp [emS]), (by simp [emS]), fun m hm => (by cases hm)⟩
  match i, ht with
  | 0, ht =>
    simp [emS] at ht
    subst ht
    refine ⟨⟨by simp, fun l hl => ?_, by simp⟩, by omega, by omega, by rw [emit_ar]; rfl, fun a ha => ?_⟩
    · simp at hl; subst hl; intro t ht; simp at ht; subst ht; simp [emS]
    · simp at ha; subst ha; exact hn
section
variable {w : World} {n : Int} {rb mb e tb q f p a cq ca B bm hm : Nat}
theorem emG_tb : emG n rb mb e tb q f p a tb = some (.thing 0) := by simp [emG]
theorem emG_q (h : tb < q) : emG n rb mb e tb q f p a q = some (.row [0]) := by unfold emG; rw [if_neg (by omega), if_pos rfl]
theorem emG_e (h : tb < q) (h2 : q < e) : emG n rb mb e tb q f p a e = some (.env [[0]]) := by unfold emG; rw [if_neg (by omega), if_neg (by omega), if_pos rfl]
theorem emG_f (h : tb < q) (h2 : q < e) (h3 : e < f) : emG n rb mb e tb q f p a f = some (.form 0 (emXp n)) := by unfold emG; rw [if_neg (by omega), if_neg (by omega), if_neg (by omega), if_pos rfl]
theorem emG_p (h : tb < q) (h2 : q < e) (h3 : e < f) (h4 : f < p) : emG n rb mb e tb q f p a p = some (.exp (emXp n)) := by unfold emG; rw [if_neg (by omega), if_neg (by omega), if_neg (by omega), if_neg (by omega), if_pos rfl]
theorem emG_a (h : tb < q) (h2 : q < e) (h3 : e < f) (h4 : f < p) (h5 : p < a) : emG n rb mb e tb q f p a a = some (.atoms [.num n]) := by unfold emG; rw [if_neg (by omega), if_neg (by omega), if_neg (by omega), if_neg (by omega), if_neg (by omega), if_pos rfl]
theorem emG_m (h0 : mb < tb) (h : tb < q) (h2 : q < e) (h3 : e < f) (h4 : f < p) (h5 : p < a) : emG n rb mb e tb q f p a mb = some (.own 1) := by unfold emG; rw [if_neg (by omega), if_neg (by omega), if_neg (by omega), if_neg (by omega), if_neg (by omega), if_neg (by omega), if_pos rfl]
theorem emG_r (h0 : mb < tb) (h : tb < q) (h2 : q < e) (h3 : e < f) (h4 : f < p) (h5 : p < a) (h6 : a < rb) : emG n rb mb e tb q f p a rb = some (.own 0) := by unfold emG; rw [if_neg (by omega), if_neg (by omega), if_neg (by omega), if_neg (by omega), if_neg (by omega), if_neg (by omega), if_neg (by omega), if_pos rfl]
theorem emG_none {b : Nat} (h : b < mb) (h0 : mb < tb) (h1 : tb < q) (h2 : q < e) (h3 : e < f) (h4 : f < p) (h5 : p < a) (h6 : a < rb) : emG n rb mb e tb q f p a b = none := by unfold emG; rw [if_neg (by omega), if_neg (by omega), if_neg (by omega), if_neg (by omega), if_neg (by omega), if_neg (by omega), if_neg (by omega), if_neg (by omega)]
theorem emG_new {b : Nat} (h : a < b) (h0 : mb < tb) (h1 : tb < q) (h2 : q < e) (h3 : e < f) (h4 : f < p) (h5 : p < a) (h6 : b ≠ rb) : emG n rb mb e tb q f p a b = none := by unfold emG; rw [if_neg (by omega), if_neg (by omega), if_neg (by omega), if_neg (by omega), if_neg (by omega), if_neg (by omega), if_neg (by omega), if_neg (by omega)]
/-- what lies there, at rest -/
structure Lie (w : World) (B : Nat) (n : Int) (mb e tb q cq f p a ca : Nat) : Prop where
  xe : Bx w e #[.slice (some ⟨q, 0, none⟩) 1 cq, .int .i64 0, ptr e, ptr e] 86
  xq : w.cell? ⟨q, 0, none⟩ = some (ptr tb)
  xtb : Bx w tb (thC 6 0 (ptr f) (ptr e) nilp nils nilm 0) 91
  xf : Bx w f #[.int .i64 0, ptr p] 119
  xp : Bx w p (emX a ca) 147
  xa : AtB w B a n
  ord : B ≤ mb ∧ mb < tb ∧ tb < q ∧ q < e ∧ e < f ∧ f < p ∧ p < a ∧ 1 ≤ cq ∧ 1 ≤ ca
theorem Lie.rep (L : Lie w B n mb e tb q cq f p a ca) (hm : mb < w.heap.size) (hr : a < rb) (hl : rb < w.heap.size) : Rep w (emG n rb mb e tb q f p a) [.need (emXp n) [[0]]] [] := by
  obtain ⟨o1, o2, o3, o4, o5, o6, o7, o8, o9⟩ := L.ord
  have pE : pEnv (emG n rb mb e tb q f p a) [[0]] (ptr e) := ⟨e, rfl, emG_e o3 o4⟩
  have pF : pForm (emG n rb mb e tb q f p a) 0 (emXp n) (ptr f) := ⟨f, rfl, emG_f o3 o4 o5⟩
  have pX : pExp (emG n rb mb e tb q f p a) (emXp n) (ptr p) := ⟨p, rfl, emG_p o3 o4 o5 o6⟩
  refine ⟨fun b ty hb => ?_, fun i hi => ?_, fun i b b' hb hb' => ?_, fun j b b' hb hb' => ?_⟩
  · unfold emG at hb
    split at hb
    · next h => cases hb; subst h; exact ⟨_, _, rfl, L.xtb, ptr f, ptr e, 0, pF, pE, rfl⟩
    split at hb
    · next h =>
      cases hb; subst h
      refine ⟨World.block_lt_of_cell? _ _ L.xq, fun j i hj => ?_⟩
      match j, hj with
      | 0, hj => simp at hj; subst hj; exact ⟨ptr tb, L.xq, tb, rfl, emG_tb⟩
    split at hb
    · next h =>
      cases hb; subst h
      refine ⟨.slice (some ⟨q, 0, none⟩) 1 cq, ptr b, ptr b, [[0]], [[0]], L.xe, ⟨some ⟨q, 0, none⟩, cq, rfl, o8, fun _ => ⟨q, 0, [0], rfl, emG_q o3, fun j hj => by simp⟩⟩, pE, pE, by simp, fun _ => ⟨rfl, rfl⟩, fun h => absurd h (by simp)⟩
    split at hb
    · next h => cases hb; subst h; exact ⟨ptr p, L.xf, pX⟩
    split at hb
    · next h =>
      cases hb; subst h
      exact ⟨_, L.xp, .slice (some ⟨a, 0, none⟩) 1 ca, .func (.func 84) #[] #[], ⟨some ⟨a, 0, none⟩, ca, rfl, o9, by simp, fun _ => ⟨a, rfl, emG_a o3 o4 o5 o6 o7⟩⟩, .inr (.inl ⟨rfl, rfl⟩), rfl⟩
    split at hb
    · next h => cases hb; subst h; exact ⟨L.xa.2.1, fun j u hu => L.xa.2.2 j u (by simpa [amC, am4] using hu)⟩
    split at hb
    · next h => cases hb; subst h; exact hm
    split at hb
    · next h => cases hb; subst h; exact hl
    cases hb
  · have : i = 0 := by simp at hi; exact hi
    subst this
    exact ⟨tb, emG_tb⟩
  · have z : ∀ x, emG n rb mb e tb q f p a x = some (.thing i) → x = tb := fun x hx => by
      unfold emG at hx
      split at hx
      · assumption
      all_goals (repeat' (split at hx)) <;> cases hx
    rw [z b hb, z b' hb']
  · exfalso
    unfold emG at hb
    (repeat' (split at hb)) <;> cases hb
end
end Go.Proofs.YtbajpejnnfacbaaGreatDoor.Lz

/- Package lazy: what the one program that is laid at any rate shows. -/
namespace Go.Proofs.YtbajpejnnfacbaaGreatDoor.Lz
open Go.RowKit
open Go.Maps (Keyed string_keyed int_keyed)
set_option linter.unusedVariables false
set_option linter.unusedSimpArgs false

theorem size33 : (Tryz.prog.info? 33).map (·.size) = some 4 := by kernel_rfl
theorem Run0.below {w w' : World} {G : Gm} {rb mb : Nat} {mv : Mv} {s : St} {sh : Int} (h : Run0 w G rb mb mv s sh) (k : Below w.heap.size w w') : Run0 w' G rb mb mv s sh := by
  obtain ⟨nx, vx, vn, vo, wr, vw, cs, a, c, d⟩ := h.r
  obtain ⟨v2, m1, m2⟩ := h.m
  have o : ∀ g, ∀ j, G g = some (.own j) → w'.heap[g]? = w.heap[g]? := fun g j hg => k.block g (h.rep.lt hg)
  exact ⟨h.rep.below k, h.tab.later k, h.g0, h.rt, h.mt, ⟨nx, vx, vn, vo, wr, vw, cs, (o rb 0 h.rt).trans a, c.kept (Le.refl G) (fun g hg => o g _ hg), d⟩, ⟨v2, (o mb 1 h.mt).trans m1, m2.kept (Le.refl G) (fun g hg => o g _ hg)⟩⟩
theorem Run.same {w w' : World} {G : Gm} {rb mb : Nat} {mv : Mv} {s : St} {sh : Int} (h : Run w G rb mb mv s sh) (hs : w.heap.size ≤ w'.heap.size) (hb : ∀ b ty, G b = some ty → w'.heap[b]? = w.heap[b]?) (h0 : w'.heap[0]? = w.heap[0]?) : Run w' G rb mb mv s sh := by
  obtain ⟨nx, vx, vn, vo, wr, vw, cs, a, b, c, d⟩ := h.r
  obtain ⟨v2, m1, m2⟩ := h.m
  exact ⟨h.rep.later hs hb, Table.of_block h.tab h.pos h0, h.g0, h.rt, h.mt, ⟨nx, vx, vn, vo, wr, vw, cs, (hb _ _ h.rt).trans a, b, c.kept (Le.refl G) (fun g hg => hb g _ hg), d⟩, ⟨v2, (hb _ _ h.mt).trans m1, m2.kept (Le.refl G) (fun g hg => hb g _ hg)⟩⟩
set_option maxRecDepth 100000 in
set_option maxHeartbeats 4000000 in
theorem tree_emit {w : World} {G : Gm} {rb mb tb : Nat} {mv : Mv} {n : Int} (hn : isI n) (R : Run0 w G rb mb mv (emS n) 0) (ht : G tb = some (.thing 0)) :
    Calls Tryz.prog 33 #[ptr rb, ptr tb, .int .i64 1] w fun r w' => ∃ G', r = .returned (.agg #[.int .i64 1, .string ⟨#[]⟩, .int .i64 n, nils]) ∧ Fx G G' w w' ∧ Run w' G' rb mb mv (emE n) 1 := by
  obtain ⟨W1, hW1⟩ : ∃ W1, W1 = w.alloc (.cells #[.int .i64 0, .string ⟨#[]⟩, .int .i64 0, nils] 33) := ⟨_, rfl⟩
  have B1 : Below w.heap.size w W1 := by subst hW1; exact Joins.below_alloc1 _ _
  have X1 : Bx W1 w.heap.size #[.int .i64 0, .string ⟨#[]⟩, .int .i64 0, nils] 33 := by subst hW1; exact heap_alloc_new _ _
  have R1 := R.below B1
  obtain ⟨R2, F2⟩ := R1.shown 1
  obtain ⟨nx, vx, vn, vo, wr, vw, cs, a, c, d⟩ := R1.r
  have c8 := a.cell 8
  have z8 := Joins.unfrozen_of_block a 8
  have gn : G w.heap.size = none := R.rep.free (Nat.le_refl _)
  obtain ⟨W2, hW2⟩ : ∃ W2, W2 = W1.setCell ⟨rb, 8, none⟩ (.int .i64 1) := ⟨_, rfl⟩
  rw [← hW2] at R2 F2
  have K := known_of (ar := []) (knows0_any R2 ⟨tb, rfl, ht⟩) (em_good n hn) (by simp) (by rw [em_meas]; simp [emS]) (by rw [em_meas]; simp [emS]) (by rw [em_meas]; simp [emS]) (by simp [emS])
  rw [em_run] at K
  have FF : Hid (Fx G G w W2) := ⟨(Fx.of_below B1).trans F2⟩
  have HG := Hid.mk gn
  have X2 : Hid (Bx W2 w.heap.size #[.int .i64 0, .string ⟨#[]⟩, .int .i64 0, nils] 33) := ⟨(F2.block _ X1.lt (by rw [gn]; trivial)).trans X1⟩
  have AFT : Hid (∀ W' G', Fx G G' W2 W' → Run W' G' rb mb mv (emE n) 1 → ∃ t1, W'.cell? ⟨rb, 5, none⟩ = some (ptr t1) ∧ W'.cell? ⟨t1, 0, none⟩ = some (.int .i64 0) ∧ W'.cell? ⟨t1, 1, none⟩ = some (.int .i64 n) ∧ Bx W' w.heap.size #[.int .i64 0, .string ⟨#[]⟩, .int .i64 0, nils] 33) := ⟨fun W' G' F' R' => by
    obtain ⟨nx, vx, vn, vo, wr, vw, cs, a, b, c, d⟩ := R'.r
    obtain ⟨_, t1, rfl, h1⟩ := b
    obtain ⟨t, cc, e1, hb, q⟩ := R'.rep.cont t1 _ h1
    simp [emE] at e1
    subst e1
    have q' : cc = thC 0 n nilp nilp nilp nils nilm 0 := q
    subst q'
    have BB : Bx W' t1 (thC 0 n nilp nilp nilp nils nilm 0) 91 := hb
    exact ⟨t1, a.cell 5, BB.cell 0, BB.cell 1, (F'.block _ X2.out.lt (by rw [HG.out]; trivial)).trans X2.out⟩⟩
  have HP := Hid.mk R.pos
  clear R R1 R2 F2 a c d gn X1 B1
  go_enter Tryz.func33, Tryz.ntmps33
  go_upto_region 1 with fail
  rw [← hW1]
  clear hW1
  go_upto_region 4 with fail
  rw [← hW2]
  clear hW2
  go_wp2_with (go_at_call 39; refine K.mono ?_; rintro r w5 ⟨G5, rfl, F5, R5⟩; obtain ⟨t1, y5, t0, u1, Y⟩ := AFT.out w5 G5 F5 R5; have HR := Hid.mk (And.intro F5 R5); have HY := Hid.mk Y; have g0 := Y.cell 0; have g1 := Y.cell 1; have g2 := Y.cell 2; have g3 := Y.cell 3; have v0 := Joins.unfrozen_of_block Y 0; have v1 := Joins.unfrozen_of_block Y 1; have v2 := Joins.unfrozen_of_block Y 2; have v3 := Joins.unfrozen_of_block Y 3; clear F5 R5 Y)
  obtain ⟨F5, R5⟩ := HR.out
  have Y0 := Joins.block_setCell (i := 0) HY.out (.int .i64 1)
  have Y1 := Joins.block_setCell (i := 1) Y0 (.string ⟨#[]⟩)
  have Y2 := Joins.block_setCell (i := 2) Y1 (.int .i64 n)
  have Y3 := Joins.block_setCell (i := 3) Y2 nils
  have k9 : ∀ i, i ≠ w.heap.size → ((((w5.setCell ⟨w.heap.size, 0, none⟩ (.int .i64 1)).setCell ⟨w.heap.size, 1, none⟩ (.string ⟨#[]⟩)).setCell ⟨w.heap.size, 2, none⟩ (.int .i64 n)).setCell ⟨w.heap.size, 3, none⟩ nils).heap[i]? = w5.heap[i]? := fun i hi => (setCell_block _ _ _ _ hi).trans ((setCell_block _ _ _ _ hi).trans ((setCell_block _ _ _ _ hi).trans (setCell_block _ _ _ _ hi)))
  have F9 := FF.out.trans F5
  have hp : w.heap.size ≠ 0 := by have := HP.out; omega
  have g5 : G5 w.heap.size = none := F5.new _ (X2.out.lt) HG.out
  refine bodyPost_ret (results_cell_row Tryz.results33 _ _ w.heap.size 33 _ (0, 0) _ rfl Y3 Tryz.underlying33 rfl size33) rfl ⟨G5, rfl, ⟨F9.os, F9.tape, F9.output, by simp [World.setCell]; exact F9.size, fun i hi fx => (k9 i (by omega)).trans (F9.block i hi fx), F9.le, F9.new⟩, R5.same (by simp [World.setCell]) (fun b ty hb => k9 b (fun e => by rw [e, g5] at hb; cases hb)) (k9 0 (Ne.symm hp))⟩
end Go.Proofs.YtbajpejnnfacbaaGreatDoor.Lz
