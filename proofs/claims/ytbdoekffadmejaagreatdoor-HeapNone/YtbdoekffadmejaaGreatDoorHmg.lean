/- Package heap: lists that are handed in; what is wrong with a closure that is to be laid. -/
import Derived.Test.YtbdoekffadmejaaGreatDoorHmf
namespace Go.Proofs.YtbdoekffadmejaaGreatDoor
open Go.RowKit
set_option linter.unusedVariables false
set_option linter.unusedSimpArgs false
set_option maxRecDepth 100000

/-- Blocks that no heap has. -/
def safe (t : Tg) : Prop := t = .no ∨ ∃ n, t = .x n
/-- A list of numbers in memory, in blocks that no heap has. -/
def LsA (w : World) (γ : Nat → Tg) (kd : IntKind) (v : Value) (xs : List Int) : Prop :=
  ∃ ga cap, v = .slice ga xs.length cap ∧ ∀ j, j < xs.length → ∃ b o, ga = some ⟨b, o, none⟩ ∧ w.cell? ⟨b, o + j, none⟩ = some (.int kd (xs.getD j 0)) ∧ safe (γ b)
theorem LsA.fr {T : Tg → Prop} {w w' : World} {γ γ' : Nat → Tg} {kd : IntKind} {v : Value} {xs : List Int} (h : LsA w γ kd v xs) (F : Fr T w w' γ γ') (t : ∀ u, safe u → ¬ T u) : LsA w' γ' kd v xs := by
  obtain ⟨ga, cap, rfl, q⟩ := h
  refine ⟨ga, cap, rfl, fun j hj => ?_⟩
  obtain ⟨b, o, e, c, s⟩ := q j hj
  exact ⟨b, o, e, cell_fr F c (t _ s), by rw [F.tag b (World.block_lt_of_cell? _ _ c)]; exact s⟩
theorem LsA.later {w w' : World} {γ : Nat → Tg} {kd : IntKind} {v : Value} {xs : List Int} (h : LsA w γ kd v xs) (b : Below w.heap.size w w') : LsA w' γ kd v xs := h.fr (Fr.later (fun _ => False) γ b) (fun _ _ e => e)
/-- What Lay says is wrong. -/
def wrongE (H : Hs) (x i p n : Int) (ps : List Int) (ns : Nat) : Int :=
  if Sh.rightE x i p n ≠ 0 then Sh.rightE x i p n else if (ps.length : Int) ≠ p ∨ (ns : Int) ≠ n then 7 else if ps.all (mayP H) = true then 0 else 4
section
variable {w : World} {γ : Nat → Tg} {h : Nat} {kv : Value} {A : Ad} {H : Hs}
set_option maxHeartbeats 1000000 in
theorem wrong_any (q : Hm w γ h kv A H) (x i p n : Int) {vp vn : Value} {ps ns : List Int} (hp : LsA w γ .i64 vp ps) (hn : LsA w γ .u64 vn ns) (hI : ∀ y ∈ ps, isI y) (hl : ps.length ≤ 1000000 ∧ ns.length ≤ 9223372036854775807) :
    Calls Tryz.prog 59 #[pt h, hd x i p n, vp, vn] w fun e w' => e = .returned (.int .i64 (wrongE H x i p n ps ns.length)) ∧ Below w.heap.size w w' := by
  have B0 := (Below.refl _ w).alloc (Nat.le_refl _) (.cells #[.int .i64 x, .int .i64 i, .int .i64 p, .int .i64 n] 30)
  have RT := Sh.right_any x i p n _ (q.later B0).gl.tb
  obtain ⟨ga, ca, rfl, qp⟩ := hp
  obtain ⟨gb, cb, rfl, qn⟩ := hn
  unfold wrongE
  have MP := fun (W : World) (b : Below w.heap.size w W) (y : Int) (hy : isI y) => may_any (q.later b) y hy
  have hb0 := heap_alloc_new w (.cells #[.int .i64 x, .int .i64 i, .int .i64 p, .int .i64 n] 30)
  have HQP := Hid.mk qp
  have HI := Hid.mk hI
  have hl1 := hl.1
  have hl2 := hl.2
  obtain ⟨m, hm⟩ : ∃ m, ps.length = m := ⟨_, rfl⟩
  obtain ⟨m2, hm2⟩ : ∃ m, ns.length = m := ⟨_, rfl⟩
  have HM := Hid.mk hm
  rw [hm] at hl1 ⊢
  rw [hm2] at hl2 ⊢
  by_cases hr : Sh.rightE x i p n = 0
  · rw [hr] at RT
    rw [if_neg (by simp [hr])]
    by_cases hs : (m : Int) ≠ p ∨ (m2 : Int) ≠ n
    · rw [if_pos hs]
      by_cases h1 : (m : Int) = p
      · have h2 : ((m2 : Int) != n) = true := by rcases hs with e | e <;> simp_all
        have h3 : ((m : Int) != p) = false := by simpa using h1
        clear q qp qn hI hl hr hs hm hm2 MP h1
        go_enter Tryz.func59, Tryz.ntmps59
        go_wp2_with (go_at_call 117; refine RT.mono ?_; rintro e w1 ⟨rfl, B1⟩; have HB := Hid.mk (B0.trans (B1.mono (by simp))); have b1 := (B1.block w.heap.size (by simp)).trans hb0; have p2 := hd4 b1 2; have p3 := hd4 b1 3; simp only [List.getElem?_toArray, List.getElem?_cons_zero, List.getElem?_cons_succ] at p2 p3; clear b1 B1)
        go_ret
        exact ⟨rfl, HB.out⟩
      · have h3 : ((m : Int) != p) = true := by simpa using h1
        clear q qp qn hI hl hr hs hm hm2 MP h1
        go_enter Tryz.func59, Tryz.ntmps59
        go_wp2_with (go_at_call 117; refine RT.mono ?_; rintro e w1 ⟨rfl, B1⟩; have HB := Hid.mk (B0.trans (B1.mono (by simp))); have b1 := (B1.block w.heap.size (by simp)).trans hb0; have p2 := hd4 b1 2; have p3 := hd4 b1 3; simp only [List.getElem?_toArray, List.getElem?_cons_zero, List.getElem?_cons_succ] at p2 p3; clear b1 B1)
        go_ret
        exact ⟨rfl, HB.out⟩
    · rw [if_neg hs]
      have h3 : ((m : Int) != p) = false := by simp only [not_or, Decidable.not_not] at hs; simpa using hs.1
      have h2 : ((m2 : Int) != n) = false := by simp only [not_or, Decidable.not_not] at hs; simpa using hs.2
      obtain ⟨zz, hzz⟩ : ∃ zz : Int, (if ps.all (mayP H) = true then (0 : Int) else 4) = zz := ⟨_, rfl⟩
      rw [hzz]
      have HZZ := Hid.mk hzz
      clear q qp qn hI hl hr hs hm2 hzz
      go_enter Tryz.func59, Tryz.ntmps59
      go_wp2_with (go_at_call 117; refine RT.mono ?_; rintro e w1 ⟨rfl, B1⟩; have HB := Hid.mk (B0.trans (B1.mono (by simp))); have b1 := (B1.block w.heap.size (by simp)).trans hb0; have p2 := hd4 b1 2; have p3 := hd4 b1 3; simp only [List.getElem?_toArray, List.getElem?_cons_zero, List.getElem?_cons_succ] at p2 p3; clear b1 B1)
      clear hm
      go_loopw [31] (fun i' wr => ∃ j : Nat, i' = .int .i64 j ∧ j ≤ m ∧ Hid ((ps.take j).all (mayP H) = true) ∧ Hid (Below w.heap.size w wr)) (fun i' _ => m - (RowKit.intOf i').toNat)
      case atStart => exact ⟨0, rfl, Nat.zero_le _, ⟨rfl⟩, HB⟩
      case round =>
        obtain ⟨j, rfl, hj, HA, HBr⟩ := hrel
        by_cases hlt : j < m
        · have hlt' : (j : Int) < m := by omega
          have hjl : j < ps.length := by rw [HM.out]; exact hlt
          obtain ⟨b, o, rfl, ck, _⟩ := HQP.out j hjl
          have ck := (HBr.out.cell (p := ⟨b, o + j, none⟩) (World.block_lt_of_cell? _ _ ck)).trans ck
          have e0 : ps.getD j 0 = ps[j] := by simp [List.getD_eq_getElem?_getD, List.getElem?_eq_getElem hjl]
          have hIj := HI.out _ (List.getElem_mem hjl)
          have HT := Hid.mk (List.take_succ_eq_append_getElem hjl)
          have HD := Hid.mk (List.drop_eq_getElem_cons hjl)
          rw [e0] at ck
          obtain ⟨z, hz⟩ : ∃ z, ps[j] = z := ⟨_, rfl⟩
          rw [hz] at ck hIj HT HD
          clear hz e0 hjl
          have MJ := MP _ HBr.out z hIj
          cases hmz : mayP H z with
          | true =>
            rw [hmz] at MJ
            have HA2 : Hid ((ps.take (j + 1)).all (mayP H) = true) := ⟨by rw [HT.out, List.all_append, HA.out]; simp [hmz]⟩
            clear hmz
            go_wp2_with (go_at_call 118; refine MJ.mono ?_; rintro e w2 ⟨rfl, B2⟩; have HB2 := Hid.mk (HBr.out.trans (B2.mono HBr.out.size)); clear B2)
            go_roundw
            case rel => exact ⟨j + 1, by go_num, by omega, HA2, HB2⟩
            case measure => simp [RowKit.intOf]; omega
          | false =>
            rw [hmz] at MJ
            have HA2 : Hid (ps.all (mayP H) = false) := ⟨by rw [← List.take_append_drop j ps, HD.out, List.all_append]; simp [hmz]⟩
            clear hmz
            go_wp2_with (go_at_call 118; refine MJ.mono ?_; rintro e w2 ⟨rfl, B2⟩; have HB2 := Hid.mk (HBr.out.trans (B2.mono HBr.out.size)); clear B2)
            go_ret
            exact ⟨by rw [← HZZ.out, HA2.out]; rfl, HB2.out⟩
        · obtain rfl : j = m := by omega
          have HA2 : Hid (ps.all (mayP H) = true) := ⟨by have := HA.out; rwa [List.take_of_length_le (by rw [HM.out]; exact Nat.le_refl _)] at this⟩
          go_wp2
          go_ret
          exact ⟨by rw [← HZZ.out, HA2.out]; rfl, HBr.out⟩
  · rw [if_pos hr]
    have b0 : (Sh.rightE x i p n != 0) = true := by simpa using hr
    generalize Sh.rightE x i p n = y at *
    clear q qp qn hI hl hr hm hm2 MP
    go_enter Tryz.func59, Tryz.ntmps59
    go_wp2_with (go_at_call 117; refine RT.mono ?_; rintro e w1 ⟨rfl, B1⟩; have HB := Hid.mk (B0.trans (B1.mono (by simp))); clear B1)
    go_ret
    exact ⟨rfl, HB.out⟩
end
end Go.Proofs.YtbdoekffadmejaaGreatDoor
