/- Package lazy: a thing is made known. -/
import Derived.Test.YtbajpejnnfacbaaGreatDoorLyt
namespace Go.Proofs.YtbajpejnnfacbaaGreatDoor.Lz
open Go.RowKit
set_option linter.unusedVariables false
set_option linter.unusedSimpArgs false


def isRest : Md → Bool
  | .rest _ => true
  | _ => false
section
variable {w w' : World} {G G' : Gm} {rb mb : Nat} {mv : Mv} {s : St} {sh : Int}
/-- where the steps have come to -/
def At (ar : List Nat) (w : World) (G : Gm) (rb mb : Nat) (mv : Mv) (s0 : St) (sh : Int) (wr : World) (k : Nat) (s1 : St) (G1 : Gm) : Prop := Far ar s0 k s1 ∧ Run wr G1 rb mb mv s1 sh ∧ Fx G G1 w wr
def AtM (ar : List Nat) (w : World) (G : Gm) (rb mb : Nat) (mv : Mv) (s0 : St) (sh : Int) (wr : World) (n : Nat) : Prop := ∃ k s1 G1, At ar w G rb mb mv s0 sh wr k s1 G1 ∧ meas s1 = n
theorem Run.nxt (h : Run w G rb mb mv s sh) : ∃ nx : Int, w.cell? ⟨rb, 2, none⟩ = some (.int .i64 nx) ∧ (match s.md with | .ev _ _ => nx = 0 | .kn _ => nx = 1 | .tl _ => nx = 2 | .rest _ => nx = 3 | .fail _ => nx = 4 | .starve => nx = 5) := by
  obtain ⟨nx, vx, vn, vo, wr, vw, cs, a, b, c, d⟩ := h.r
  refine ⟨nx, a.cell 2, ?_⟩
  cases e : s.md <;> rw [e] at b <;> simp only [mdC] at b ⊢ <;> first | exact b.1 | exact b
set_option maxRecDepth 100000 in
set_option maxHeartbeats 8000000 in
theorem known_of {ar : List Nat} {b t : Nat} (K0 : Calls Tryz.prog 49 #[ptr rb, ptr b] w (Out w G rb mb mv { s with md := .kn t } sh)) (gd : Good ar { s with md := .kn t }) (har : ar.length ≤ 1000000000)
    (hw : s.ws.length + 2 * meas { s with md := .kn t } + 2 ≤ 1000000000) (ho : s.out.length + meas { s with md := .kn t } + 1 ≤ 1000000000) (hs : s.steps + meas { s with md := .kn t } + 1 < 9223372036854775808) (hf : s.fuel < 9223372036854775808) :
    Calls Tryz.prog 39 #[ptr rb, ptr b] w fun r w' => ∃ G', r = .returned (.bool (isRest (runS { s with md := .kn t }).md)) ∧ Fx G G' w w' ∧ Run w' G' rb mb mv (runS { s with md := .kn t }) sh := by
  obtain ⟨s0, hs0⟩ : ∃ x : St, x = { s with md := .kn t } := ⟨_, rfl⟩
  have q1 : s0.ws = s.ws := by rw [hs0]
  have q2 : s0.out = s.out := by rw [hs0]
  have q3 : s0.steps = s.steps := by rw [hs0]
  have q4 : s0.fuel = s.fuel := by rw [hs0]
  rw [← hs0] at K0 gd hw ho hs ⊢
  rw [← q1] at hw
  rw [← q2] at ho
  rw [← q3] at hs
  rw [← q4] at hf
  have HGD := Hid.mk gd
  -- a step is done
  have LEAVE : Hid (∀ k1 s1 G1 wr, meas s1 = least (AtM ar w G rb mb mv s0 sh wr) → At ar w G rb mb mv s0 sh wr k1 s1 G1 → fin s1.md = false → ∀ w9 G9, Run w9 G9 rb mb mv (step s1) sh → Fx G1 G9 wr w9 → (∃ k s1 G1, At ar w G rb mb mv s0 sh w9 k s1 G1) ∧ least (AtM ar w G rb mb mv s0 sh w9) < least (AtM ar w G rb mb mv s0 sh wr)) := ⟨fun k1 s1 G1 wr hl HA fn w9 G9 R9 F9 => by
    obtain ⟨FA, lt⟩ := HA.1.step fn
    have A9 : At ar w G rb mb mv s0 sh w9 (k1 + 1) (step s1) G9 := ⟨FA, R9, HA.2.2.trans F9⟩
    refine ⟨⟨_, _, _, A9⟩, ?_⟩
    have := (least_of (P := AtM ar w G rb mb mv s0 sh w9) ⟨_, _, _, A9, rfl⟩).2
    omega⟩
  have EVAL : Hid (∀ k1 s1 G1 wr, At ar w G rb mb mv s0 sh wr k1 s1 G1 → ∀ x e, s1.md = .ev x e → Calls Tryz.prog 50 #[ptr rb] wr (Out wr G1 rb mb mv (step s1) sh)) := ⟨fun k1 s1 G1 wr HA x e hm => by
    have e1 : step s1 = evalS s1 x e := by unfold step; rw [hm]
    have := HA.1.less; have := HA.1.ws; have := HA.1.out; have := HA.1.steps; have := HA.1.fuel
    rw [e1]
    exact eval_any HA.2.1 hm HA.1.good (by omega) (by omega) (by omega) (by omega)⟩
  have KNOW : Hid (∀ k1 s1 G1 wr, At ar w G rb mb mv s0 sh wr k1 s1 G1 → ∀ t, s1.md = .kn t → Calls Tryz.prog 51 #[ptr rb] wr (Out wr G1 rb mb mv (step s1) sh)) := ⟨fun k1 s1 G1 wr HA t hm => by
    have e1 : step s1 = knowS s1 t := by unfold step; rw [hm]
    have := HA.1.less; have := HA.1.ws
    rw [e1]
    exact know_any HA.2.1 hm HA.1.good (by omega)⟩
  have TELL : Hid (∀ k1 s1 G1 wr, At ar w G rb mb mv s0 sh wr k1 s1 G1 → ∀ t, s1.md = .tl t → Calls Tryz.prog 52 #[ptr rb] wr (Out wr G1 rb mb mv (step s1) sh)) := ⟨fun k1 s1 G1 wr HA t hm => by
    have e1 : step s1 = tellS s1 t := by unfold step; rw [hm]
    have := HA.1.less; have := HA.1.ws; have := HA.1.out
    rw [e1]
    exact tell_any HA.2.1 hm HA.1.good har (by omega) (by omega)⟩
  have DONE : Hid (∀ k1 s1 G1 wr, At ar w G rb mb mv s0 sh wr k1 s1 G1 → fin s1.md = true → ∀ x, x = isRest s1.md → ∃ G', (Ending.returned (.bool x) = .returned (.bool (isRest (runS s0).md))) ∧ Fx G G' w wr ∧ Run wr G' rb mb mv (runS s0) sh) := ⟨fun k1 s1 G1 wr HA fn x hx => by
    have e1 : s1 = runS s0 := by
      have := HA.1.less
      rw [HA.1.is]
      exact iter_run (by rw [← HA.1.is]; exact fn) (by omega)
    rw [hx, ← e1]
    exact ⟨G1, rfl, HA.2.2, HA.2.1⟩⟩
  clear gd hw ho hs hf q1 q2 q3 q4 hs0 har
  go_enter Tryz.func39, Tryz.ntmps39
  go_wp2_with (go_at_call 49; refine K0.mono ?_; rintro e9 w1 ⟨rfl, G1, F1, R1⟩; have HS := Hid.mk (And.intro F1 R1); clear F1 R1)
  go_loopw [] (fun wr => ∃ k s1 G1, At ar w G rb mb mv s0 sh wr k s1 G1) (fun wr => least (AtM ar w G rb mb mv s0 sh wr))
  case atStart => exact ⟨0, s0, G1, Far.start HGD.out, HS.out.2, HS.out.1⟩
  case round =>
    rename_i wr
    obtain ⟨k0, s9, G9, HA0⟩ := hrel
    obtain ⟨⟨k1, s1, G1, HA, hl⟩, _⟩ := least_of (P := AtM ar w G rb mb mv s0 sh wr) ⟨k0, s9, G9, HA0, rfl⟩
    obtain ⟨nx, c2, hnx⟩ := HA.2.1.nxt
    clear HA0 K0
    cases hm : s1.md with
    | ev x e =>
      rw [hm] at hnx
      simp only at hnx
      subst hnx
      have K := EVAL.out k1 s1 G1 wr HA x e hm
      have HL := Hid.mk (LEAVE.out k1 s1 G1 wr hl HA (by rw [hm]; rfl))
      clear HA hl hm
      go_wp2_with (go_at_call 50; refine K.mono ?_; rintro e9 w9 ⟨rfl, G9, F9, R9⟩; have HE := Hid.mk (HL.out w9 G9 R9 F9); clear F9 R9)
      go_roundw
      case rel => exact HE.out.1
      case measure => exact HE.out.2
    | kn t1 =>
      rw [hm] at hnx
      simp only at hnx
      subst hnx
      have K := KNOW.out k1 s1 G1 wr HA t1 hm
      have HL := Hid.mk (LEAVE.out k1 s1 G1 wr hl HA (by rw [hm]; rfl))
      clear HA hl hm
      go_wp2_with (go_at_call 51; refine K.mono ?_; rintro e9 w9 ⟨rfl, G9, F9, R9⟩; have HE := Hid.mk (HL.out w9 G9 R9 F9); clear F9 R9)
      go_roundw
      case rel => exact HE.out.1
      case measure => exact HE.out.2
    | tl t1 =>
      rw [hm] at hnx
      simp only at hnx
      subst hnx
      have K := TELL.out k1 s1 G1 wr HA t1 hm
      have HL := Hid.mk (LEAVE.out k1 s1 G1 wr hl HA (by rw [hm]; rfl))
      clear HA hl hm
      go_wp2_with (go_at_call 52; refine K.mono ?_; rintro e9 w9 ⟨rfl, G9, F9, R9⟩; have HE := Hid.mk (HL.out w9 G9 R9 F9); clear F9 R9)
      go_roundw
      case rel => exact HE.out.1
      case measure => exact HE.out.2
    | rest t1 =>
      rw [hm] at hnx
      simp only at hnx
      subst hnx
      have HDN := Hid.mk (DONE.out k1 s1 G1 wr HA (by rw [hm]; rfl) _ (by rw [hm]))
      clear HA hl hm
      go_wp2
      go_ret
      exact HDN.out
    | fail er =>
      rw [hm] at hnx
      simp only at hnx
      subst hnx
      have HDN := Hid.mk (DONE.out k1 s1 G1 wr HA (by rw [hm]; rfl) _ (by rw [hm]))
      clear HA hl hm
      go_wp2
      go_ret
      exact HDN.out
    | starve  =>
      rw [hm] at hnx
      simp only at hnx
      subst hnx
      have HDN := Hid.mk (DONE.out k1 s1 G1 wr HA (by rw [hm]; rfl) _ (by rw [hm]))
      clear HA hl hm
      go_wp2
      go_ret
      exact HDN.out
theorem known_any {ar : List Nat} (h : Run w G rb mb mv s sh) {b t : Nat} (hb : G b = some (.thing t)) (gd : Good ar { s with md := .kn t }) (har : ar.length ≤ 1000000000)
    (hw : s.ws.length + 2 * meas { s with md := .kn t } + 2 ≤ 1000000000) (ho : s.out.length + meas { s with md := .kn t } + 1 ≤ 1000000000) (hs : s.steps + meas { s with md := .kn t } + 1 < 9223372036854775808) (hf : s.fuel < 9223372036854775808) :
    Calls Tryz.prog 39 #[ptr rb, ptr b] w fun r w' => ∃ G', r = .returned (.bool (isRest (runS { s with md := .kn t }).md)) ∧ Fx G G' w w' ∧ Run w' G' rb mb mv (runS { s with md := .kn t }) sh :=
  known_of (knows_any h ⟨b, rfl, hb⟩) gd har hw ho hs hf
end
end Go.Proofs.YtbajpejnnfacbaaGreatDoor.Lz

/- Package lazy: a run that has not begun. -/
namespace Go.Proofs.YtbajpejnnfacbaaGreatDoor.Lz
open Go.RowKit
set_option linter.unusedVariables false
set_option linter.unusedSimpArgs false

/-- a run whose next is anything -/
structure Run0 (w : World) (G : Gm) (rb mb : Nat) (mv : Mv) (s : St) (sh : Int) : Prop where
  rep : Rep w G s.th s.rows
  tab : Table w
  g0 : G 0 = none
  rt : G rb = some (.own 0)
  mt : G mb = some (.own 1)
  r : ∃ nx vx vn vo wr vw cs, Bx w rb (rC mb s.fuel nx vx vn vo wr vw sh) 101 ∧ Own w G 2 160 6 vw s.ws.length cs ∧ fmsC G s.ws.reverse cs
  m : ∃ vo, Bx w mb (mC mv vo s.steps) 74 ∧ Own w G 3 2 1 vo s.out.length (intC s.out)
section
variable {w w' : World} {G G' : Gm} {rb mb : Nat} {mv : Mv} {s : St} {sh : Int}
theorem Run.to0 (h : Run w G rb mb mv s sh) : Run0 w G rb mb mv s sh := by
  obtain ⟨nx, vx, vn, vo, wr, vw, cs, a, b, c, d⟩ := h.r
  exact ⟨h.rep, h.tab, h.g0, h.rt, h.mt, ⟨nx, vx, vn, vo, wr, vw, cs, a, c, d⟩, h.m⟩
theorem Run0.pos (h : Run0 w G rb mb mv s sh) : 0 < w.heap.size := World.block_lt_of_cell? _ _ (h.tab.n 0 (by decide))
theorem Run0.turn0 (h : Run0 w G rb mb mv s sh) {f : Nat} {nx : Int} {vx vn vo : Value} {wr : Int} {vw : Value} {sh' : Int} {ws' : List Fm} {md' : Md} {cs : List Value} (blk : Bx w' rb (rC mb f nx vx vn vo wr vw sh') 101) (os : w'.os = w.os) (tape : w'.tape = w.tape) (output : w'.output = w.output) (size : w.heap.size ≤ w'.heap.size)
    (oth : ∀ i, i < w.heap.size → i ≠ rb → w'.heap[i]? = w.heap[i]?) (hw : Own w' G 2 160 6 vw ws'.length cs) (hc : fmsC G ws'.reverse cs) : Run0 w' G rb mb mv { s with fuel := f, ws := ws', md := md' } sh' ∧ Fx G G w w' := by
  have n0 : ∀ b ty, G b = some ty → (∀ k, ty = .own k → k ≠ 0) → w'.heap[b]? = w.heap[b]? := fun b ty hb hk => oth b (h.rep.lt hb) (fun e => by rw [e, h.rt] at hb; cases hb; exact hk 0 rfl rfl)
  obtain ⟨v2, m1, m2⟩ := h.m
  refine ⟨⟨?_, Table.of_block h.tab h.pos (oth 0 h.pos (fun e => by have := h.rt; rw [← e, h.g0] at this; cases this)), h.g0, h.rt, h.mt, ⟨nx, vx, vn, vo, wr, vw, cs, blk, hw, hc⟩, ⟨v2, (n0 mb _ h.mt (fun k e => by cases e; decide)).trans m1, m2.kept (Le.refl G) (fun g hg => n0 g _ hg (fun k e => by cases e; decide))⟩⟩, Fx.of_own h.rt (by simp [fixd]) os tape output size oth⟩
  refine ⟨fun b ty hb => ?_, h.rep.has, h.rep.one, h.rep.oner⟩
  by_cases q : ty = .own 0
  · subst q; exact Nat.lt_of_lt_of_le (h.rep.lt hb) size
  · exact (h.rep.cont b ty hb).kept size (Le.refl G) ⟨n0 b ty hb (fun k e z => q (by rw [e, z])), fun i hi => ⟨rfl, fun m hm => n0 m _ hm (fun k e => by cases e)⟩, fun j hj => rfl⟩
theorem Run0.turn (h : Run0 w G rb mb mv s sh) {f : Nat} {nx : Int} {vx vn vo : Value} {wr : Int} {vw : Value} {sh' : Int} {ws' : List Fm} {md' : Md} {cs : List Value} (blk : Bx w' rb (rC mb f nx vx vn vo wr vw sh') 101) (os : w'.os = w.os) (tape : w'.tape = w.tape) (output : w'.output = w.output) (size : w.heap.size ≤ w'.heap.size)
    (oth : ∀ i, i < w.heap.size → i ≠ rb → w'.heap[i]? = w.heap[i]?) (hm : mdC G md' nx vx vn vo wr) (hw : Own w' G 2 160 6 vw ws'.length cs) (hc : fmsC G ws'.reverse cs) : Run w' G rb mb mv { s with fuel := f, ws := ws', md := md' } sh' ∧ Fx G G w w' := by
  obtain ⟨R, F⟩ := h.turn0 (md' := md') blk os tape output size oth hw hc
  exact ⟨⟨R.rep, R.tab, R.g0, R.rt, R.mt, ⟨nx, vx, vn, vo, wr, vw, cs, blk, hm, hw, hc⟩, R.m⟩, F⟩
/-- how many have been shown has turned, and nothing else -/
theorem Run0.shown (h : Run0 w G rb mb mv s sh) (sh' : Int) : Run0 (w.setCell ⟨rb, 8, none⟩ (.int .i64 sh')) G rb mb mv s sh' ∧ Fx G G w (w.setCell ⟨rb, 8, none⟩ (.int .i64 sh')) := by
  obtain ⟨nx, vx, vn, vo, wr, vw, cs, a, c, d⟩ := h.r
  have b1 : (w.setCell ⟨rb, 8, none⟩ (.int .i64 sh')).heap[rb]? = _ := Joins.block_setCell (i := 8) a (.int .i64 sh')
  have oth : ∀ i, i ≠ rb → (w.setCell ⟨rb, 8, none⟩ (.int .i64 sh')).heap[i]? = w.heap[i]? := fun i hi => setCell_block _ _ _ _ hi
  obtain ⟨R, F⟩ := h.turn0 (w' := w.setCell ⟨rb, 8, none⟩ (.int .i64 sh')) (md' := s.md) (ws' := s.ws) b1 rfl rfl rfl (by simp [World.setCell]) (fun i _ hi => oth i hi) (c.kept (Le.refl G) (fun g hg => oth g (fun e => by rw [e, h.rt] at hg; cases hg))) d
  exact ⟨R, F⟩
theorem knows0_any (h : Run0 w G rb mb mv s sh) {t : Nat} {v : Value} (hv : pT G t v) : Calls Tryz.prog 49 #[ptr rb, v] w (Out w G rb mb mv { s with md := .kn t } sh) := by
  obtain ⟨nx, vx, vn, vo, wr, vw, cs, a, c, d⟩ := h.r
  have H := Hid.mk (And.intro h (And.intro a (And.intro c (And.intro d hv))))
  obtain ⟨bv, rfl, _⟩ := hv
  have c2 := a.cell 2
  have c5 := a.cell 5
  have z2 : w.frozen? ⟨rb, 2, none⟩ = false := Joins.unfrozen_of_block a 2
  have z5 : w.frozen? ⟨rb, 5, none⟩ = false := Joins.unfrozen_of_block a 5
  clear h a c d
  go_enter Tryz.func49, Tryz.ntmps49
  go_wp2
  go_end0
  obtain ⟨h, a, c, d, hv⟩ := H.out
  have b1 : (w.setCell ⟨rb, 2, none⟩ (.int .i64 1)).heap[rb]? = _ := Joins.block_setCell (i := 2) a (.int .i64 1)
  have b2 : ((w.setCell ⟨rb, 2, none⟩ (.int .i64 1)).setCell ⟨rb, 5, none⟩ (ptr bv)).heap[rb]? = _ := Joins.block_setCell (i := 5) b1 (ptr bv)
  have oth : ∀ i, i ≠ rb → ((w.setCell ⟨rb, 2, none⟩ (.int .i64 1)).setCell ⟨rb, 5, none⟩ (ptr bv)).heap[i]? = w.heap[i]? := fun i hi => (setCell_block _ _ _ _ hi).trans (setCell_block _ _ _ _ hi)
  obtain ⟨R, F⟩ := h.turn (w' := (w.setCell ⟨rb, 2, none⟩ (.int .i64 1)).setCell ⟨rb, 5, none⟩ (ptr bv)) (md' := .kn t) (ws' := s.ws) b2 rfl rfl rfl (by simp [World.setCell]) (fun i _ hi => oth i hi) ⟨rfl, hv⟩ (c.kept (Le.refl G) (fun g hg => oth g (fun e => by rw [e, h.rt] at hg; cases hg))) d
  exact ⟨rfl, G, F, R⟩
end
end Go.Proofs.YtbajpejnnfacbaaGreatDoor.Lz
