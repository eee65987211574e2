/- Package heap: Finish. -/
import Derived.Test.YtbdoekffadmejaaGreatDoorHnc
namespace Go.Proofs.YtbdoekffadmejaaGreatDoor
open Go.RowKit
set_option linter.unusedVariables false
set_option linter.unusedSimpArgs false
set_option maxRecDepth 100000

theorem thb_hTn {t : Tg} (h : t = .hb) : hTn t := by cases h; rintro (e | ⟨n, e⟩) <;> cases e
theorem enS_c (H : Hs) (l : List Int) : (enS H l).c = H.c := by
  unfold enS
  induction l generalizing H with
  | nil => rfl
  | cons x l ih => rw [List.foldl_cons, ih]
section
variable {w : World} {γ : Nat → Tg} {h : Nat} {A : Ad} {H : Hs} {B : Wa} {K : Wk}
theorem Wm.own (q : Wm w γ h A H B K) {w1 : World} (b : Below w.heap.size w w1) : ∃ γ1, Wm w1 γ1 h A H B K ∧ Fr (fun _ => False) w w1 γ γ1 ∧ ∀ k, w.heap.size ≤ k → γ1 k = .x 0 := by
  have F0 : Fr (fun _ => False) w w1 γ (fun b => if w.heap.size ≤ b then .x 0 else γ b) := (Fr.later (fun _ => False) γ b).retag (fun b hb => if_neg (by omega))
  exact ⟨_, ⟨q.hm.fr F0 (fun _ e => e.elim), q.km.fr' F0 id id id id id id id (fun _ _ => ⟨id, id, id⟩), q.ap⟩, F0, fun k hk => if_pos hk⟩
set_option maxHeartbeats 2000000 in
theorem finish_yes (q : Wm w γ h A H B K) (hl : (chL H K H.c.g).length ≤ 1000000) (hr : ∀ x ∈ chL H K H.c.g, 0 ≤ x ∧ x ≤ 900000) (hA : (chL H K H.c.g).any (asd H K) = false)
    (hL : ∀ S ∈ K.old, S.l.length ≤ 1000) (hz : ∀ j, j ≤ K.old.length → frN H.c.b H.f (K.old.take j) 0 ≠ -1) (hn : K.old.length ≤ 1000) :
    Calls Tryz.prog 30 #[pt h] w fun e w' => e = .returned (.int .i64 0) ∧ ∃ γ', Fr hTn w w' γ γ' ∧ Hm w' γ' h (.pointer none) A (enS { H with f := frN H.c.b H.f K.old } (chL H K H.c.g)) := by
  have G := (sg_work q.hm).work
  have CH := changed_any q hl
  have HQ := Hid.mk q
  have HLL := Hid.mk hL
  have HZ := Hid.mk hz
  have HR := Hid.mk hr
  obtain ⟨l, hl0⟩ : ∃ l, chL H K H.c.g = l := ⟨_, rfl⟩
  rw [hl0] at CH hl hr hA HR ⊢
  have CO := fun (W : World) (γ' : Nat → Tg) (Q : Wm W γ' h A H B K) {v : Value} (r : W.ownsRow 0 3 1 v l.length (ints l)) => contains_aside Q r HR.out (by omega)
  rw [hA] at CO
  obtain ⟨n, hn0⟩ : ∃ n, K.old.length = n := ⟨_, rfl⟩
  have gl := q.km.len
  rw [hn0] at gl hn
  have HN := Hid.mk hn0
  have HG := Hid.mk gl
  obtain ⟨gv0, gc, eg, _⟩ := row_item q.km.row
  rw [gl] at eg
  have HEG := Hid.mk eg
  clear q hL hz hr hA hl0 hn0 gl eg
  go_enter Tryz.func30, Tryz.ntmps30
  go_wp2_with (first
    | (go_at_call 65; refine G.mono ?_; rintro e w1 ⟨rfl, hw⟩; rw [hw]; clear hw G)
    | (go_at_call 78; refine CH.mono ?_; rintro e w1 ⟨v, rfl, R1, B1⟩; obtain ⟨ga0, c0, rfl, _⟩ := row_item R1; obtain ⟨γ1, Q1, F1, t1⟩ := HQ.out.own B1; have T1 : Hid (∀ b, Value.ownBlock (.slice ga0 l.length c0) = some b → γ1 b = .x 0) := ⟨fun b e => t1 b (R1.lt b e).1⟩; have CO1 := CO w1 γ1 Q1 (ownsRow_base_a R1 (Nat.zero_le _)); have HR1 := Hid.mk (ownsRow_base_a (base' := 0) R1 (Nat.zero_le _)); have HF1 : Hid (Fr hTn w w1 γ γ1) := ⟨F1.mono (fun _ e => e.elim)⟩; have HQ1 := Hid.mk Q1; clear F1 Q1 R1 B1 CO CH t1)
    | (go_at_call 79; refine CO1.mono ?_; rintro e w2 ⟨rfl, B2⟩
       have HQ2 := Hid.mk (HQ1.out.later B2); have HF2 := Hid.mk (HF1.out.trans (Fr.later hTn γ1 B2)); have HR2 := Hid.mk (row_later HR1.out B2)
       have c10 := HQ2.out.hm.ck
       have ck0 : w2.cell? ⟨B.kb, 0, none⟩ = some B.gv := hd4 HQ2.out.km.box 0
       rw [HEG.out] at ck0
       clear B2 CO1))
  have HROW := Hid.mk HQ2.out.km.row
  have HGT := Hid.mk HQ2.out.km.rowT
  have HND := Hid.mk HQ2.out.km.nd
  have HFI := Hid.mk HQ2.out.km.fit
  have HAP := Hid.mk HQ2.out.ap
  rw [HEG.out] at HROW HGT
  have HM0 : Hid (Hm w2 γ1 h (pt B.kb) A { H with f := frN H.c.b H.f (K.old.take 0) }) := ⟨HQ2.out.hm⟩
  have HS0 : Hid (∀ i (hi : i < B.gs.length), 0 ≤ i → SpM w2 γ1 A.p A.a B.gs[i] (K.old.getD i Bp.S0.none)) := ⟨fun i hi _ => HQ2.out.km.sps i hi⟩
  clear ck0 c10 HQ HQ1 HF1 HR1
  go_loopw [30] (fun i wr => ∃ j : Nat, i = .int .i64 j ∧ j ≤ n ∧ Hid (Hm wr γ1 h (pt B.kb) A { H with f := frN H.c.b H.f (K.old.take j) }) ∧ Hid (∀ i (hi : i < B.gs.length), j ≤ i → SpM wr γ1 A.p A.a B.gs[i] (K.old.getD i Bp.S0.none)) ∧ Hid (Fr hTn w2 wr γ1 γ1) ∧ Hid (wr.ownsRow 0 100 1 (.slice gv0 n gc) B.gs.length (B.gs.map pt))) (fun i _ => n - (intOf i).toNat)
  case atStart => exact ⟨0, rfl, Nat.zero_le _, HM0, HS0, ⟨Fr.refl _ _ _⟩, HROW⟩
  case round =>
    obtain ⟨j, rfl, hj, HMr, HSr, HFr, HGr⟩ := hrel
    by_cases hlt : j < n
    · have hlt' : (j : Int) < n := by omega
      have hjg : j < B.gs.length := by rw [HG.out]; exact hlt
      have hjo : j < K.old.length := by rw [HN.out]; exact hlt
      obtain ⟨gv1, gc1, e1, it⟩ := row_item HGr.out
      obtain ⟨b, e2, hb, ck⟩ := it j hjg
      simp only [Value.slice.injEq] at e1
      obtain ⟨rfl, en, rfl⟩ := e1
      clear en
      subst e2
      rw [show (B.gs.map pt)[j]? = some (pt B.gs[j]) by rw [List.getElem?_map, List.getElem?_eq_getElem hjg]; rfl] at ck
      have FS := free_hm HMr.out (HSr.out j hjg (Nat.le_refl _)) (fun g s hg hs e => HAP.out g s hg hs (by rw [e]; exact List.getElem_mem hjg)) (HFI.out _ (by rw [List.getD_eq_getElem?_getD, List.getElem?_eq_getElem hjo]; exact List.getElem_mem hjo)) (HLL.out _ (by rw [List.getD_eq_getElem?_getD, List.getElem?_eq_getElem hjo]; exact List.getElem_mem hjo)) (by have := HZ.out (j + 1) hjo; rw [frN_succ _ _ _ _ hjo] at this; exact this)
      have HJ : Hid (∀ i (hi : i < B.gs.length), j + 1 ≤ i → B.gs[i] ≠ B.gs[j]) := ⟨fun i hi h e => List.pairwise_iff_getElem.1 HND.out j i hjg hi (by omega) e.symm⟩
      have HFN := Hid.mk (frN_succ H.c.b H.f K.old j hjo)
      generalize hσ : B.gs[j] = σ at ck FS HJ
      clear it
      go_wp2_with (go_at_call 82; refine FS.mono ?_; rintro e w4 ⟨rfl, F4, Q4⟩; have HF4 := Hid.mk F4; have HQ4 := Hid.mk Q4; clear F4 Q4 FS)
      go_roundw
      case rel =>
        refine ⟨j + 1, by go_num, by omega, ⟨by rw [HFN.out]; exact HQ4.out⟩, ⟨fun i hi h => ?_⟩, ⟨HFr.out.trans (HF4.out.mono (fun t e => tfr_hTn e))⟩, ⟨?_⟩⟩
        · have n1 := HJ.out i hi h
          exact (HSr.out i hi (by omega)).fr HF4.out (by rintro (e | e) <;> simp at e; exact n1 e) (by rintro (e | e) <;> cases e) (by rintro (e | e) <;> cases e)
        · refine Bp.ownsRow_same HGr.out (fun x e => HF4.out.block x (HGr.out.lt x e).2 ?_)
          rw [HGT.out x e]; rintro (e | e) <;> cases e
      case measure => show n - ((j : Int) + 1).toNat < n - ((j : Int)).toNat; omega
    · obtain rfl : n = j := by omega
      have HM1 : Hid (Hm wr γ1 h (pt B.kb) A { H with f := frN H.c.b H.f K.old }) := ⟨by have := HMr.out; rwa [List.take_of_length_le (by rw [HN.out]; exact Nat.le_refl _)] at this⟩
      have z10 := HM1.out.z 10
      have k10 := HM1.out.ck
      have HR3 : Hid (wr.ownsRow 0 3 1 (.slice ga0 l.length c0) l.length (ints l)) := ⟨Bp.ownsRow_same HR2.out (fun x e => HFr.out.block x (HR2.out.lt x e).2 (by rw [T1.out x e]; intro k; exact k (.inr ⟨0, rfl⟩)))⟩
      have F5 : Fr (fun t => t = .hb) wr (wr.setCell ⟨h, 10, none⟩ (.pointer none)) γ1 γ1 := Fr.one (grown_cell _ _ _ _) HM1.out.tag
      have HM2 := Hid.mk (HM1.out.setk F5 (box_k HM1.out.box _))
      have HF5 := Hid.mk (HF2.out.trans (HFr.out.trans (F5.mono (fun t e => thb_hTn e))))
      have HR4 : Hid ((wr.setCell ⟨h, 10, none⟩ (.pointer none)).ownsRow 0 3 1 (.slice ga0 l.length c0) l.length (ints l)) := ⟨Bp.ownsRow_same HR3.out (fun x e => F5.block x (HR3.out.lt x e).2 (by rw [T1.out x e]; nofun))⟩
      clear F5 HMr HSr HFr HGr
      go_wp2
      generalize wr.setCell ⟨h, 10, none⟩ (.pointer none) = W5 at *
      go_loopw [42] (fun i wq => ∃ (j : Nat) (γ' : Nat → Tg), i = .int .i64 j ∧ j ≤ l.length ∧ Hid (Hm wq γ' h (.pointer none) A (enS { H with f := frN H.c.b H.f K.old } (l.take j))) ∧ Hid (Fr (fun t => t = .lm false) W5 wq γ1 γ')) (fun i _ => l.length - (intOf i).toNat)
      case atStart => exact ⟨0, γ1, rfl, Nat.zero_le _, HM2, ⟨Fr.refl _ _ _⟩⟩
      case round =>
        obtain ⟨j, γ2, rfl, hj, HMr, HFr⟩ := hrel
        by_cases hlt : j < l.length
        · have hlt' : (j : Int) < l.length := by omega
          have HRr : Hid (wr.ownsRow 0 3 1 (.slice ga0 l.length c0) l.length (ints l)) := ⟨Bp.ownsRow_same HR4.out (fun x e => HFr.out.block x (HR4.out.lt x e).2 (by rw [T1.out x e]; nofun))⟩
          obtain ⟨ga1, gc1, e1, it⟩ := row_item HRr.out
          obtain ⟨b, e2, hb, ck⟩ := it j hlt
          simp only [Value.slice.injEq] at e1
          obtain ⟨rfl, en, rfl⟩ := e1
          clear en
          subst e2
          rw [show (ints l)[j]? = some (.int .i64 l[j]) by unfold ints; rw [List.getElem?_map, List.getElem?_eq_getElem hlt]; rfl] at ck
          have EN := enlist_any HMr.out l[j] (HR.out _ (List.getElem_mem hlt))
          have HES := Hid.mk (enS_succ { H with f := frN H.c.b H.f K.old } l j hlt)
          generalize l[j] = y at ck EN HES
          clear it
          go_wp2_with (go_at_call 83; refine EN.mono ?_; rintro e w6 ⟨rfl, γ3, F6, Q6⟩; have HF6 := Hid.mk (HFr.out.trans F6); have HQ6 := Hid.mk Q6; clear F6 Q6 EN)
          go_roundw
          case rel => exact ⟨j + 1, γ3, by go_num, by omega, ⟨by rw [HES.out]; exact HQ6.out⟩, HF6⟩
          case measure => show l.length - ((j : Int) + 1).toNat < l.length - ((j : Int)).toNat; omega
        · have ej : j = l.length := by omega
          have HM3 : Hid (Hm wr γ2 h (.pointer none) A (enS { H with f := frN H.c.b H.f K.old } l)) := ⟨by have := HMr.out; rwa [List.take_of_length_le (by omega)] at this⟩
          have nlt : ¬ (j : Int) < l.length := by omega
          go_wp2
          go_ret
          exact ⟨rfl, γ2, HF5.out.trans (HFr.out.mono (fun t e => tlm_hTn e)), HM3.out⟩
end
end Go.Proofs.YtbdoekffadmejaaGreatDoor
