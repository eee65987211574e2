/- Package heap: room. -/
import Derived.Test.YtbdoekffadmejaaGreatDoorHme
namespace Go.Proofs.YtbdoekffadmejaaGreatDoor
open Go.RowKit
open Go.Maps (Keyed int_keyed)
set_option linter.unusedVariables false
set_option linter.unusedSimpArgs false
set_option maxRecDepth 100000

section
variable {w : World} {γ : Nat → Tg} {h : Nat} {k : Value} {A : Ad} {H : Hs}
theorem row_form {w : World} {n e : Nat} {v : Value} {m : Nat} {xs : List Value} (h : w.ownsRow n e 1 v m xs) (hm : 1 ≤ m) : ∃ b cap, v = .slice (some ⟨b, 0, none⟩) m cap ∧ b < w.heap.size ∧ (∀ i, i < m → w.cell? ⟨b, i, none⟩ = xs[i]?) := by
  rcases h.2 with ⟨_, h0⟩ | ⟨b, cap, cur, rfl, hb, hg, X⟩
  · omega
  · refine ⟨b, cap, rfl, lt_of hg, fun i hi => ?_⟩
    have := h.cellAt i (by omega)
    simpa using this
theorem RwM.get {c : Cf} (r : RwM w γ c A) {g s : Nat} (hg : g < c.g) (hs : s < c.n g) :
    ∃ ob cap ib cap', A.ov = .slice (some ⟨ob, 0, none⟩) c.g cap ∧ γ ob = .so ∧ ob < w.heap.size ∧ w.cell? ⟨ob, g, none⟩ = some (A.vs g) ∧
      A.vs g = .slice (some ⟨ib, 0, none⟩) (c.n g) cap' ∧ γ ib = .si ∧ ib < w.heap.size ∧ w.cell? ⟨ib, s, none⟩ = some (pt (A.σ g s)) := by
  obtain ⟨ob, cap, e1, l1, c1⟩ := row_form r.out (by omega)
  obtain ⟨ib, cap', e2, l2, c2⟩ := row_form (r.inn g hg) (by omega)
  refine ⟨ob, cap, ib, cap', e1, r.outT ob (by rw [e1]; rfl), l1, ?_, e2, r.innT g hg ib (by rw [e2]; rfl), l2, ?_⟩
  · rw [c1 g hg]; simp [hg]
  · rw [c2 s hs]; simp [hs]
/-- A block more, of one's own. -/
theorem Fr.alloc (T : Tg → Prop) (w : World) (γ : Nat → Tg) (o : Obj) (t : Tg) : Fr T w (w.alloc o) γ (tagd γ w.heap.size t) :=
  (Fr.later T γ ((Below.refl _ w).alloc (Nat.le_refl _) o)).retag (fun k hk => tagd_ne t (by omega))
theorem Hm.alloc (q : Hm w γ h k A H) (o : Obj) (t : Tg) : Hm (w.alloc o) (tagd γ w.heap.size t) h k A H := q.fr (Fr.alloc (fun _ => False) w γ o t) (fun _ e => e.elim)
theorem cell_fr {T : Tg → Prop} {w w' : World} {γ γ' : Nat → Tg} (F : Fr T w w' γ γ') {b i : Nat} {v : Value} (hc : w.cell? ⟨b, i, none⟩ = some v) (t : ¬ T (γ b)) : w'.cell? ⟨b, i, none⟩ = some v :=
  (World.cell?_of_block (F.block b (World.block_lt_of_cell? _ _ hc) t)).trans hc
theorem below_drew1 (w : World) : Below w.heap.size w w.drew := ⟨rfl, rfl, rfl, Nat.le_refl _, fun _ _ => rfl⟩
theorem Fr.drew {T : Tg → Prop} {w w' : World} {γ γ' : Nat → Tg} (h : Fr T w w' γ γ') : Fr T w w'.drew γ γ' := ⟨h.os, h.tape, h.output, h.size, h.tag, h.block⟩
theorem room_no (q : Hm w γ h k A H) {g s : Nat} (hg : g < H.c.g) (hs : s < H.c.n g) (hl : (H.sp g s).l.length ≤ 1000) (n : Int) (hE : H.layE g s n ≠ 0) :
    Calls Tryz.prog 60 #[pt h, plc (g, s), .int .i64 n] w fun e w' => e = .returned (.tuple #[.int .i64 0, .int .i64 (H.layE g s n)]) ∧
      ∃ γ', Fr (Tl (A.σ g s)) w w' γ γ' ∧ Hm w' γ' h k A (H.laid g s n) := by
  have q0 := q.alloc (.cells #[.int .i64 g, .int .i64 s] 105) (.x 0)
  have F0 := Fr.alloc (Tl (A.σ g s)) w γ (.cells #[.int .i64 g, .int .i64 s] 105) (.x 0)
  have LA := lay_hm (q0.later (below_drew1 _)) hg hs hl n
  obtain ⟨ob, cap, ib, cap', e1, t1, l1, c1, e2, t2, l2, c2⟩ := q0.row.get hg hs
  have c7 := q0.co
  rw [e1] at c7
  rw [e2] at c1
  have gb := H.c.g
  have okc := q.ok
  have ng := q.ok.g
  have nn := q.ok.n g
  have b0 : (H.layE g s n != 0) = true := by simpa using hE
  have tb : tagd γ w.heap.size (.x 0) w.heap.size = .x 0 := tagd_same _ _ _
  have th := q0.tag
  have k0 : (w.alloc (.cells #[.int .i64 g, .int .i64 s] 105)).cell? ⟨w.heap.size, 0, none⟩ = some (.int .i64 g) := by simp [go_sem]
  have k1 : (w.alloc (.cells #[.int .i64 g, .int .i64 s] 105)).cell? ⟨w.heap.size, 1, none⟩ = some (.int .i64 s) := by simp [go_sem]
  have HQ := Hid.mk F0.drew
  generalize H.layE g s n = y at *
  generalize H.layA g s n = y1 at *
  generalize H.laid g s n = H2 at *
  generalize hn : H.c.n g = m at *
  generalize H.c.g = cg at *
  clear q q0 F0 hE okc hn gb
  go_enter Tryz.func60, Tryz.ntmps60
  go_wp2
  go_region_held3 (fun wx => wx.cell? ⟨w.heap.size, 0, none⟩ = some (.int .i64 g) ∧ wx.cell? ⟨w.heap.size, 1, none⟩ = some (.int .i64 s) ∧ wx.cell? ⟨h, 7, none⟩ = some (.slice (some ⟨ob, 0, none⟩) cg cap) ∧ wx.cell? ⟨ob, g, none⟩ = some (.slice (some ⟨ib, 0, none⟩) m cap') ∧ wx.cell? ⟨ib, s, none⟩ = some (pt (A.σ g s))) (go_keep) (first | (go_at_call 119; refine LA.mono ?_; rintro e w1 ⟨rfl, γ1, F1, Q1⟩; have k01 := cell_fr F1 (w := (w.alloc (.cells #[.int .i64 g, .int .i64 s] 105)).drew) k0 (by rw [tb]; nofun); have k11 := cell_fr F1 (w := (w.alloc (.cells #[.int .i64 g, .int .i64 s] 105)).drew) k1 (by rw [tb]; nofun); have c71 := cell_fr F1 (w := (w.alloc (.cells #[.int .i64 g, .int .i64 s] 105)).drew) c7 (by rw [th]; nofun); have c11 := cell_fr F1 (w := (w.alloc (.cells #[.int .i64 g, .int .i64 s] 105)).drew) c1 (by rw [t1]; nofun); have c21 := cell_fr F1 (w := (w.alloc (.cells #[.int .i64 g, .int .i64 s] 105)).drew) c2 (by rw [t2]; nofun); have HF := Hid.mk F1; have HQ1 := Hid.mk Q1))
  go_wp2
  go_ret2
  exact ⟨rfl, γ1, HQ.out.trans HF.out, HQ1.out⟩
theorem room_ok (q : Hm w γ h k A H) {g s : Nat} (hg : g < H.c.g) (hs : s < H.c.n g) (hl : (H.sp g s).l.length ≤ 1000) (n : Int) (hE : H.layE g s n = 0) (hn0 : A.wn ≤ 1000000) :
    Calls Tryz.prog 60 #[pt h, plc (g, s), .int .i64 n] w fun e w' => e = .returned (.tuple #[.int .i64 (H.layA g s n), .int .i64 0]) ∧
      ∃ γ', Fr (Tm (A.σ g s)) w w' γ γ' ∧ Hm w' γ' h k A.more (H.placed g s n) := by
  have q0 := q.alloc (.cells #[.int .i64 g, .int .i64 s] 105) (.x 0)
  have F0 := Fr.alloc (Tl (A.σ g s)) w γ (.cells #[.int .i64 g, .int .i64 s] 105) (.x 0)
  have LA := lay_hm (q0.later (below_drew1 _)) hg hs hl n
  obtain ⟨ob, cap, ib, cap', e1, t1, l1, c1, e2, t2, l2, c2⟩ := q0.row.get hg hs
  have c7 := q0.co
  rw [e1] at c7
  rw [e2] at c1
  have gb := H.c.g
  have okc := q.ok
  have ng := q.ok.g
  have nn := q.ok.n g
  have ps := lay_pos q.zero (q.fit g s hg hs).nx hE
  have bb := q.ok.b
  have ps' : 1 ≤ H.layA g s n ∧ H.layA g s n < H.c.b * 64 := ⟨ps.1, by have := ps.2.1; have := ps.2.2.1; unfold Hs.layA; omega⟩
  have hI : isI (H.layA g s n) := ⟨by omega, by omega⟩
  have PT : ∀ (W W' : World) (γ0 : Nat → Tg), Hm W γ0 h k A (H.laid g s n) → WM W' A.wm (A.wn + 1) (fun y => if y = H.layA g s n then some (g, s) else H.wh y) → W.grownBy W' (some A.wm) → Hm W' γ0 h k A.more (H.placed g s n) := fun W W' γ0 Q hM G => put_hm (γ0 := γ0) (f := fun _ => none) Q (H.layA g s n) (g, s) ps' ⟨hg, hs⟩ hM G
  have WH : (H.laid g s n).wh = H.wh := rfl
  rw [hE] at LA
  have HPT := Hid.mk PT
  generalize H.placed g s n = H3 at *
  have tb : tagd γ w.heap.size (.x 0) w.heap.size = .x 0 := tagd_same _ _ _
  have th := q0.tag
  have k0 : (w.alloc (.cells #[.int .i64 g, .int .i64 s] 105)).cell? ⟨w.heap.size, 0, none⟩ = some (.int .i64 g) := by simp [go_sem]
  have k1 : (w.alloc (.cells #[.int .i64 g, .int .i64 s] 105)).cell? ⟨w.heap.size, 1, none⟩ = some (.int .i64 s) := by simp [go_sem]
  have HQ := Hid.mk F0.drew
  generalize H.wh = wf at *
  generalize H.layA g s n = y1 at *
  generalize H.laid g s n = H2 at *
  have HI := Hid.mk hI
  generalize hn : H.c.n g = m at *
  generalize H.c.g = cg at *
  clear q q0 F0 hE okc hn gb ps ps' PT bb hI
  go_enter Tryz.func60, Tryz.ntmps60
  go_wp2
  go_region_held3 (fun wx => wx.cell? ⟨w.heap.size, 0, none⟩ = some (.int .i64 g) ∧ wx.cell? ⟨w.heap.size, 1, none⟩ = some (.int .i64 s) ∧ wx.cell? ⟨h, 7, none⟩ = some (.slice (some ⟨ob, 0, none⟩) cg cap) ∧ wx.cell? ⟨ob, g, none⟩ = some (.slice (some ⟨ib, 0, none⟩) m cap') ∧ wx.cell? ⟨ib, s, none⟩ = some (pt (A.σ g s))) (go_keep) (first | (go_at_call 119; refine LA.mono ?_; rintro e w1 ⟨rfl, γ1, F1, Q1⟩; have k01 := cell_fr F1 (w := (w.alloc (.cells #[.int .i64 g, .int .i64 s] 105)).drew) k0 (by rw [tb]; nofun); have k11 := cell_fr F1 (w := (w.alloc (.cells #[.int .i64 g, .int .i64 s] 105)).drew) k1 (by rw [tb]; nofun); have c71 := cell_fr F1 (w := (w.alloc (.cells #[.int .i64 g, .int .i64 s] 105)).drew) c7 (by rw [th]; nofun); have c11 := cell_fr F1 (w := (w.alloc (.cells #[.int .i64 g, .int .i64 s] 105)).drew) c1 (by rw [t1]; nofun); have c21 := cell_fr F1 (w := (w.alloc (.cells #[.int .i64 g, .int .i64 s] 105)).drew) c2 (by rw [t2]; nofun); have HF := Hid.mk F1; have HQ1 := Hid.mk Q1; have c8 := Q1.cw; have HW := Hid.mk (WH ▸ Q1.wh); obtain ⟨w3, run3, vm3, gr3⟩ := WM.store (w := w1.drew) (WM.of_block (w := w1) HW.out rfl) (by unfold maxLen; omega) HI.out (g, s); have HV := Hid.mk vm3; have HG := Hid.mk (show w1.grownBy w3 (some A.wm) from ⟨gr3.os, gr3.tape, gr3.output, gr3.size, gr3.block⟩); have tb1 := F1.tg (by simp) tb; have F3 : Fr (fun t => t = .wm) w1.drew w3 γ1 γ1 := Fr.one gr3 Q1.whT; have u0 := cell_fr F3 (w := w1.drew) k01 (by rw [tb1]; nofun); have u1 := cell_fr F3 (w := w1.drew) k11 (by rw [tb1]; nofun); have u8 := cell_fr F3 (w := w1.drew) c8 (by rw [Q1.tag]; nofun); clear F3; clear vm3 gr3 Q1 F1))
  go_wp2
  go_region_held3 (fun wx => wx.cell? ⟨w.heap.size, 0, none⟩ = some (.int .i64 g) ∧ wx.cell? ⟨w.heap.size, 1, none⟩ = some (.int .i64 s) ∧ wx.cell? ⟨h, 8, none⟩ = some (.map (some A.wm))) (go_keep) (fail)
  go_wp2
  go_ret2
  have Q3 := HPT.out w1 w3 γ1 HQ1.out HV.out HG.out
  have tw := HQ1.out.whT
  exact ⟨rfl, γ1, (HQ.out.mono (fun t e => .inl e)).trans ((HF.out.mono (fun t e => .inl e)).trans (Fr.one (show w1.grownBy w3 (some A.wm) from HG.out) (.inr tw))), Q3⟩
end
end Go.Proofs.YtbdoekffadmejaaGreatDoor
