/- The document's own Used and Free. -/
import Derived.Test.YtcallmfdigfhnaaBqa
namespace Go.Proofs.Ytcallmfdigfhnaa
open Go.RowKit
set_option linter.unusedVariables false
set_option linter.unusedSimpArgs false

set_option maxHeartbeats 1000000 in
theorem rused_any {w : World} {x y M : Nat} {r : Nat → Value} {S : S0} (h : Rs w x y M r S) (hU : Us S) (hl : S.l.length ≤ 1000) :
    Calls Try.prog 32 #[.pointer (some ⟨x, 0, none⟩)] w fun e w' => e = .returned (.int .i64 (S.us : Int)) ∧ w' = w := by
  unfold Rs at h
  obtain ⟨ga, cap, e, hc, el⟩ := h.form 2 (by omega)
  have c5 := h.cells.2.2.2.2.2.1
  rw [e] at c5
  have e1 : lsI S.l 2 = nsI S.l := rfl
  rw [e1] at c5 hc el
  have ll : (nsI S.l).length = S.l.length := by simp [nsI]
  have el2 : ∀ j (hj : j < S.l.length), ∃ g, ga = some ⟨g, 0, none⟩ ∧ w.cell? ⟨g, j, none⟩ = some (.int .i64 (((S.l[j]).2 : Nat) : Int)) := fun j hj => by
    obtain ⟨g, z1, z2⟩ := el j (by rw [ll]; exact hj)
    exact ⟨g, z1, by simpa [nsI] using z2⟩
  rw [ll] at c5 hc
  have hus := hU.1
  have hall := hU.2
  clear el
  generalize S.us = U at *
  generalize S.l = l at *
  have HEL := Hid.mk el2
  have HAL := Hid.mk hall
  have HUS := Hid.mk hus
  obtain ⟨m, hm⟩ : ∃ m, l.length = m := ⟨_, rfl⟩
  have HM := Hid.mk hm
  rw [hm] at c5 hc hl
  clear e el2 h e1 ll hU hall hus hm
  go_enter Try.func32, Try.ntmps32
  go_wp2
  go_loop [4, 3] (fun i z => ∃ k : Nat, k ≤ m ∧ i = .int .i64 (k : Int) ∧ z = .int .i64 (tot (l.take k) : Int)) (fun i _ => m - (intOf i).toNat)
  case atStart => exact ⟨0, Nat.zero_le _, rfl, rfl⟩
  case round =>
    obtain ⟨k, hk, rfl, rfl⟩ := hrel
    by_cases hlt : k < m
    · have hl2 : k < l.length := by rw [HM.out]; exact hlt
      obtain ⟨g, rfl, ck⟩ := HEL.out k hl2
      have b1 := HAL.out (l[k]) (List.getElem_mem hl2)
      have b2 := tot_le (l.take k) (fun y hy => HAL.out y (List.mem_of_mem_take hy))
      have b3 : (l.take k).length ≤ 1000 := by simp; omega
      have HT := Hid.mk (tot_take l k hl2)
      have hlt' : (k : Int) < m := by omega
      obtain ⟨z, hz⟩ : ∃ z, (l[k]).2 = z := ⟨_, rfl⟩
      rw [hz] at ck b1 HT
      obtain ⟨t, ht⟩ : ∃ t, tot (l.take k) = t := ⟨_, rfl⟩
      rw [ht] at b2 HT ⊢
      have b4 : t ≤ 4096000 := by omega
      clear hz ht b2 b3 hl2
      go_wp2
      go_round
      case rel => exact ⟨k + 1, by omega, by go_num, by rw [HT.out]; simp⟩
      case measure => simp [intOf]; omega
    · obtain rfl : k = m := by omega
      have q : l.take k = l := List.take_of_length_le (by rw [HM.out]; exact Nat.le_refl _)
      rw [q, ← HUS.out]
      go_wp2
      go_ret
      exact ⟨rfl, rfl⟩
theorem Rs.self {w0 W : World} {x y M : Nat} {r0 r : Nat → Value} {S : S0} (h : Rh w0 W x y M r0 r (lsI S.l) S.bl S.nx (S.nx + lft S.nx)) : Rs W x y M r S := h.self
theorem Rh.setl {w0 W : World} {x y M : Nat} {r0 r : Nat → Value} {L : Nat → List Int} {bl nx en : Nat} (h : Rh w0 W x y M r0 r L bl nx en) (i : Nat) (hi : i < 3) (j : Nat)
    (hx : (#[pt y, .int .i64 (M : Int), r 0, .int .i64 (bl : Int), r 1, r 2, .int .i64 (nx : Int), .int .i64 (en : Int)] : Array Value).setIfInBounds j nilS = #[pt y, .int .i64 (M : Int), updV3 r i nilS 0, .int .i64 (bl : Int), updV3 r i nilS 1, updV3 r i nilS 2, .int .i64 (nx : Int), .int .i64 (en : Int)]) :
    Rh w0 (W.setCell ⟨x, j, none⟩ nilS) x y M r0 (updV3 r i nilS) (fun k => if k = i then [] else L k) bl nx en := by
  have far : ∀ k, k ≠ x → (W.setCell ⟨x, j, none⟩ nilS).heap[k]? = W.heap[k]? := fun k hk => Below.heap_setCell _ _ _ _ hk
  have own : ∀ k, ow (updV3 r i nilS) k → ow r k := by
    rintro k ⟨t, ht, e⟩
    unfold updV3 at e
    split at e
    · simp [Value.ownBlock] at e
    · exact ⟨t, ht, e⟩
  refine ⟨by rw [Joins.block_setCell h.box, hx], fun t ht => ?_, fun z => h.nox (own x z), fun a b ha hb hab => ?_, fun k z => h.old k (own k z), h.chg.trans ⟨rfl, rfl, rfl, by simp, fun k hk hx => far k (fun q => hx (.inl q))⟩⟩
  · by_cases e : t = i
    · subst e
      rw [updV3_same, if_pos rfl]
      exact World.ownsRow_nil _ _ _ _
    · rw [updV3_ne r i nilS t e, if_neg e]
      exact ownsRow_same (h.row t ht) (fun b z => far b (fun q => h.nox ⟨t, ht, q ▸ z⟩))
  · by_cases e : a = i
    · subst e; rw [updV3_same]; exact .inl rfl
    · by_cases e2 : b = i
      · subst e2
        rw [updV3_same, updV3_ne r b nilS a e]
        cases q : (r a).ownBlock with
        | none => exact .inl rfl
        | some z => exact .inr (by simp [Value.ownBlock])
      · rw [updV3_ne r i nilS a e, updV3_ne r i nilS b e2]; exact h.ap a b ha hb hab
set_option maxRecDepth 100000 in
set_option maxHeartbeats 4000000 in
theorem rfree_space {w : World} {x y yb M N c : Nat} {r : Nat → Value} {S : S0} {f : Nat → Int} (h : Rs w x y M r S) (hl : S.l.length ≤ 1000) (hR : Ref w y yb f N c) (G : Good f N) (hx : ∀ k, rO1 x r k → k ≠ y ∧ k ≠ yb) :
    Calls Try.prog 29 #[.pointer (some ⟨x, 0, none⟩)] w fun e w' => (∃ u, e = .returned u) ∧ ∃ r', Rs w' x y M r' S0.none ∧ Ref w' y yb (frees N f S.l) N c ∧ (∀ k, ow r' k → ow r k ∨ w.heap.size ≤ k) ∧ Chg (fun k => rO1 x r k ∨ k = yb) w w' := by
  have HH := Hid.mk h
  have HG := Hid.mk G
  have HX := Hid.mk hx
  have hgl : (grp S.l).length ≤ 1000 := Nat.le_trans (grp_len S.l) hl
  have HF := Hid.mk (freeG_is N S.l f)
  have e1 : lsI S.l 0 = grp S.l := rfl
  obtain ⟨ga, cap, e, hc, el⟩ := Rh.form h 0 (by omega)
  rw [e1] at e hc el
  have HEL := Hid.mk el
  have HR0 := Hid.mk hR
  have HE := Hid.mk e
  obtain ⟨gs, hgs⟩ : ∃ gs, grp S.l = gs := ⟨_, rfl⟩
  have HGS := Hid.mk hgs
  rw [hgs] at e hc HEL hgl HF HE
  obtain ⟨m, hm⟩ : ∃ m, gs.length = m := ⟨_, rfl⟩
  have HM := Hid.mk hm
  rw [hm] at e hc hgl HE
  clear h el hR G hx e1 hgs hm e
  go_enter Try.func29, Try.ntmps29
  go_wp2
  go_loopw [2] (fun i wr => ∃ k : Nat, k ≤ m ∧ i = .int .i64 (k : Int) ∧ Hid (Ref wr y yb (freeG N f (gs.take k)) N c) ∧ Hid (w.grownBy wr (some yb))) (fun i _ => m - (intOf i).toNat)
  case atStart => exact ⟨0, Nat.zero_le _, rfl, HR0, ⟨grown_refl _ _⟩⟩
  case round =>
    obtain ⟨k, hk, rfl, HR, HGr⟩ := hrel
    have HHr := Hid.mk (HH.out.kept (Chg.one (X := fun j => j = yb) HGr.out rfl) (fun j z => (HX.out j z).2))
    obtain ⟨c0, c1, c2, c3, c4, c5, c6, c7⟩ := Rh.cells HHr.out
    rw [HE.out] at c2
    by_cases hlt : k < m
    · have hl2 : k < gs.length := by rw [HM.out]; exact hlt
      obtain ⟨g, rfl, ck⟩ := HEL.out k hl2
      have gx : g ≠ yb := fun z => (HX.out g (.inr ⟨0, by omega, by rw [HE.out]; rfl⟩)).2 z
      have ck2 : wr.cell? ⟨g, k, none⟩ = some (.int .i64 (gs[k])) := (World.cell?_of_block (w := w) (a := ⟨g, k, none⟩) (HGr.out.block g (World.block_lt_of_cell? _ _ ck) (by simpa using gx))).trans ck
      have hlt' : (k : Int) < m := by omega
      have HT := Hid.mk (freeG_take N f gs k hl2)
      obtain ⟨z, hz⟩ : ∃ z, gs[k] = z := ⟨_, rfl⟩
      rw [hz] at ck2 HT
      have FR : Calls Try.prog 48 #[.pointer (some ⟨y, 0, none⟩), .int .i64 z] wr.drew fun e w' => ∃ E, e = .returned (.int .i64 E) ∧ Hid (Ref w' y yb (freeG N f (gs.take (k + 1))) N c ∧ wr.grownBy w' (some yb)) ∧ w'.cell? ⟨x, 0, none⟩ = some (pt y) ∧ w'.cell? ⟨x, 2, none⟩ = some (.slice (some ⟨g, 0, none⟩) m cap) ∧ w'.cell? ⟨g, k, none⟩ = some (.int .i64 z) := by
        refine (rfree_any (HR.out.later ⟨rfl, rfl, rfl, Nat.le_refl _, fun _ _ => rfl⟩ : Ref wr.drew y yb _ N c) (freeG_good _ _ HG.out) z).mono ?_
        rintro e w' ⟨rfl, R', g'⟩
        have g2 : wr.grownBy w' (some yb) := ⟨g'.os, g'.tape, g'.output, g'.size, g'.block⟩
        have kx : w'.heap[x]? = wr.heap[x]? := g2.block x HHr.out.ltx (by have := (HX.out x (.inl rfl)).2; simpa using this)
        have kg : w'.heap[g]? = wr.heap[g]? := g2.block g (World.block_lt_of_cell? _ _ ck2) (by simpa using gx)
        refine ⟨_, rfl, ⟨by rw [HT.out]; exact R', g2⟩, ?_, ?_, ?_⟩
        · exact (World.cell?_of_block (w := wr) (a := ⟨x, 0, none⟩) kx).trans c0
        · exact (World.cell?_of_block (w := wr) (a := ⟨x, 2, none⟩) kx).trans c2
        · exact (World.cell?_of_block (w := wr) (a := ⟨g, k, none⟩) kg).trans ck2
      clear hl2 hz ck c1 c3 c4 c5 c6 c7
      unfold pt at *
      go_wp2
      go_region_held3 (fun W' => W'.cell? ⟨x, 0, none⟩ = some (.pointer (some ⟨y, 0, none⟩)) ∧ W'.cell? ⟨x, 2, none⟩ = some (.slice (some ⟨g, 0, none⟩) m cap) ∧ W'.cell? ⟨g, k, none⟩ = some (.int .i64 z)) (go_keep) (first | (go_at_call 48; refine FR.mono ?_; rintro e w4 ⟨E, rfl, H4, r1, r2, r3⟩))
      have HR4 := Hid.mk H4.out.1
      have HG4 := Hid.mk (grown_trans HGr.out H4.out.2)
      clear r1 r2 r3 FR H4
      go_wp2
      go_roundw
      case rel => exact ⟨k + 1, by omega, by go_num, HR4, HG4⟩
      case measure => simp [intOf]; omega
    · obtain rfl : k = m := by omega
      have hlt' : ¬ (k : Int) < (k : Int) := by omega
      have hE : freeG N f (gs.take k) = frees N f S.l := by rw [List.take_of_length_le (by rw [HM.out]; exact Nat.le_refl _), HF.out]
      have HR2 : Hid (Ref wr y yb (frees N f S.l) N c) := ⟨by rw [← hE]; exact HR.out⟩
      have R0 : Rh wr wr x y M r r (lsI S.l) S.bl S.nx (S.nx + lft S.nx) := HHr.out
      have R1 := R0.setl 0 (by omega) 2 (by simp [updV3])
      have R2 := R1.setl 1 (by omega) 4 (by simp [updV3])
      have R3 := R2.setl 2 (by omega) 5 (by simp [updV3])
      have R4 := R3.set (bl' := 0) (nx' := S.nx) (en' := S.nx + lft S.nx) 3 (.int .i64 0) (by simp)
      have R5 := R4.set (bl' := 0) (nx' := 0) (en' := S.nx + lft S.nx) 6 (.int .i64 0) (by simp)
      have R6 := R5.set (bl' := 0) (nx' := 0) (en' := 0) 7 (.int .i64 0) (by simp)
      have q0 := R0.cells.2.2.1
      have q1 := R1.cells.2.2.2.2.1
      have q2 := R2.cells.2.2.2.2.2.1
      have q3 := R3.cells.2.2.2.1
      have q4 := R4.cells.2.2.2.2.2.2.1
      have q5 := R5.cells.2.2.2.2.2.2.2
      have z0 := R0.zf 2
      have z1 := R1.zf 4
      have z2 := R2.zf 5
      have z3 := R3.zf 3
      have z4 := R4.zf 6
      have z5 := R5.zf 7
      have HR6 := Hid.mk R6
      clear R0 R1 R2 R3 R4 R5 R6 c0 c1 c3 c4 c5 c6 c7 hE
      go_wp2
      go_end0
      refine ⟨⟨_, rfl⟩, updV3 (updV3 (updV3 r 0 nilS) 1 nilS) 2 nilS, ?_, ?_, ?_, ?_⟩
      · have e : (fun k => if k = 2 then [] else if k = 1 then [] else if k = 0 then [] else lsI S.l k) = lsI S0.none.l := by
          funext k
          match k with
          | 0 => rfl
          | 1 => rfl
          | 2 => rfl
          | k + 3 => rfl
        have := HR6.out.self
        rw [e] at this
        exact this
      · exact HR2.out.chg HR6.out.chg (fun z => (HX.out y z).1 rfl) (fun z => (HX.out yb z).2 rfl)
      · intro k z
        rcases HR6.out.old k z with z | z
        · exact .inl z
        · exact .inr (Nat.le_trans HGr.out.size z)
      · exact (Chg.one (X := fun k => rO1 x r k ∨ k = yb) HGr.out (.inr rfl)).trans (HR6.out.chg.mono (fun k _ z => .inl z))
end Go.Proofs.Ytcallmfdigfhnaa
