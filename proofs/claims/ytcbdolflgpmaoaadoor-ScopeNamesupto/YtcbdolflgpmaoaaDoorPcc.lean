/- Package scope: the first double of a list. -/
import Derived.Test.YtcbdolflgpmaoaaDoorPcb
namespace Go.Proofs.YtcbdolflgpmaoaaDoor
open Go.RowKit
open Go.Maps (Keyed string_keyed)
set_option linter.unusedVariables false
set_option linter.unusedSimpArgs false

section
variable {κ : Type} [BEq κ]
/-- the place of the first of which one ahead is the same -/
def fdI (ahead : List κ) : List κ → Nat → Int
  | [], _ => -1
  | x :: r, i => if ahead.contains x = true then (i : Int) else fdI (ahead ++ [x]) r (i + 1)
def firstD (l : List κ) : Int := fdI [] l 0
def noD (l : List κ) (i : Nat) : Prop := ∀ j, j < i → ∀ h : j < l.length, (l.take j).contains (l[j]'h) = false
theorem noD_zero (l : List κ) : noD l 0 := fun j h => absurd h (Nat.not_lt_zero _)
theorem noD_succ {l : List κ} {i : Nat} (h : noD l i) (hi : i < l.length) (q : (l.take i).contains (l[i]'hi) = false) : noD l (i + 1) := fun j hj hl => by
  by_cases e : j = i
  · subst e; exact q
  · exact h j (by omega) hl
theorem fd_spec (l : List κ) : ∀ k, k ≤ l.length → noD l k → firstD l = fdI (l.take k) (l.drop k) k
  | 0, _, _ => by rw [List.take_zero, List.drop_zero]; rfl
  | k + 1, hk, h => by
    have kl : k < l.length := by omega
    rw [fd_spec l k (by omega) (fun j hj hl => h j (by omega) hl), List.drop_eq_getElem_cons kl, fdI, if_neg (by rw [h k (by omega) kl]; simp), ← List.take_succ_eq_append_getElem kl]
theorem fdI_ge : ∀ (l ahead : List κ) (k : Nat), fdI ahead l k = -1 ∨ (k : Int) ≤ fdI ahead l k
  | [], _, _ => .inl rfl
  | x :: r, ahead, k => by
    rw [fdI]
    by_cases e : ahead.contains x = true
    · rw [if_pos e]; exact .inr (Int.le_refl _)
    · rw [if_neg e]
      rcases fdI_ge r (ahead ++ [x]) (k + 1) with h | h
      · exact .inl h
      · exact .inr (by omega)
theorem fd_at {l : List κ} {i : Nat} (hi : i < l.length) (h : noD l i) : ((i : Int) == firstD l) = (l.take i).contains (l[i]'hi) := by
  rw [fd_spec l i (by omega) h, List.drop_eq_getElem_cons hi, fdI]
  cases q : (l.take i).contains (l[i]'hi)
  · rw [if_neg (by simp)]
    have e := fdI_ge (l.drop (i + 1)) (l.take i ++ [l[i]'hi]) (i + 1)
    generalize fdI (l.take i ++ [l[i]'hi]) (l.drop (i + 1)) (i + 1) = t at e
    exact beq_eq_false_iff_ne.2 (by rcases e with e | e <;> omega)
  · rw [if_pos rfl]; simp
end
theorem fdI_twice : ∀ (l ahead : List Nm) (k : Nat), decide (0 ≤ fdI ahead l k) = twR ahead l
  | [], _, _ => rfl
  | x :: r, ahead, k => by
    rw [fdI, twR]
    cases e : ahead.contains x
    · rw [if_neg (by simp), Bool.false_or]
      exact fdI_twice r _ _
    · rw [if_pos rfl, Bool.true_or]
      simp
theorem fd_twice (l : List Nm) : decide (0 ≤ firstD l) = twiceN l := (fdI_twice l [] 0).trans (twR_nil l)
/-- the keys that have been met -/
def Seen (w : World) (z i : Nat) (l : List Nm) : Prop := ∃ g, Mp w z i g ∧ ∀ s, (g s).isSome = l.contains s
theorem Seen.later {w w' : World} {z i : Nat} {l : List Nm} (h : Seen w z i l) (k : Below (z + 1) w w') : Seen w' z i l := by
  obtain ⟨g, h, q⟩ := h
  exact ⟨g, h.of_block (k.block z (Nat.lt_succ_self _)), q⟩
theorem Seen.grow {w' : World} {z i : Nat} {l : List Nm} {g : Nm → Option Int} {D : DataW Unit} {s : Nm} {v : Int} (q0 : ∀ s, (g s).isSome = l.contains s) (q : ∀ s : Nm, Maps.has D (.string s) = (g s).isSome ∧ D.atKey (.string s) (.lit (.int .i64 0)) = .lit (.int .i64 ((g s).getD 0))) (hm : Maps.IsMap D)
    (hw : w'.ownsMap Tryd.prog 9 (plainElem Tryd.prog 3) z i (D.put (.string s) (.lit (.int .i64 v)))) : Seen w' z i (l ++ [s]) := by
  refine ⟨updG g s v, Mp.put q hm s v hw, fun x => ?_⟩
  unfold updG
  rw [has_snoc]
  by_cases e : x = s
  · rw [if_pos e]; simp [e]
  · rw [if_neg e, q0 x, show (x == s) = false from beq_eq_false_iff_ne.2 e, Bool.or_false]
set_option maxHeartbeats 1000000 in
theorem key71 (s : ByteArray) (w : World) : Calls Tryd.prog 71 #[.string s] w fun e w' => e = .returned (.string s) ∧ w' = w := by
  go_enter Tryd.func71, Tryd.ntmps71
  go_wp2
  go_ret
  exact ⟨rfl, rfl⟩
set_option maxHeartbeats 1000000 in
theorem fd70_any {w : World} {ok : Nat → Prop} (l : List Nm) (v : Value) (R : IsRow w ok (strC l) l.length v) (hl : ∀ s ∈ l, s.length ≤ maxLen) :
    Calls Tryd.prog 70 #[v, .func (.func 71) #[] #[]] w fun e w' => e = .returned (.int .i64 (firstD l)) ∧ Below w.heap.size w w' := by
  obtain ⟨ga, cap, rfl, hc, hx⟩ := R
  obtain ⟨r, hr⟩ : ∃ r, firstD l = r := ⟨_, rfl⟩
  have HR : Hid (fdI (l.take 0) (l.drop 0) 0 = r) := ⟨by rw [List.take_zero, List.drop_zero]; exact hr⟩
  have HX := Hid.mk hx
  have HL := Hid.mk hl
  rw [hr]
  obtain ⟨k, hk⟩ : ∃ k, l.length = k := ⟨_, rfl⟩
  have HN := Hid.mk hk
  rw [hk] at hc ⊢
  have S0 : Seen (w.alloc (.map #[] 0)) w.heap.size 0 (l.take 0) := ⟨_, Mp.made w, fun s => by simp⟩
  have B0 := Joins.below_alloc1 w (.map #[] 0)
  have hmm := @run_makeMap Tryd.prog
  clear hx hl hk hr
  go_enter Tryd.func70, Tryd.ntmps70
  go_wp2
  generalize hz : w.heap.size = z at *
  generalize w.alloc (.map #[] 0) = w1 at *
  go_loopw [13] (fun c wr => ∃ i : Nat, c = .int .i64 i ∧ i ≤ k ∧ Below z w wr ∧ Hid (fdI (l.take i) (l.drop i) i = r) ∧ Hid (Seen wr z i (l.take i))) (fun c _ => k - (intOf c).toNat)
  case atStart => exact ⟨0, rfl, Nat.zero_le _, B0, HR, ⟨S0⟩⟩
  case round =>
    obtain ⟨i, rfl, hi, B, HF, HS⟩ := hrel
    by_cases hlt : i < k
    · have kl : i < l.length := by rw [HN.out]; exact hlt
      obtain ⟨p, off, rfl, hp, hx⟩ := HX.out (by rw [HN.out]; omega)
      have c0 := hx i _ (strC_get l i kl)
      have c0' := (B.cell (by rw [← hz]; exact World.block_lt_of_cell? _ _ c0)).trans c0
      have hs : (l[i]'kl).length ≤ maxLen := HL.out _ (List.getElem_mem kl)
      obtain ⟨g, ⟨D, hD, q⟩, q0⟩ := HS.out
      have HH : Hid (Maps.has D (.string (l[i]'kl)) = (l.take i).contains (l[i]'kl)) := ⟨(q _).1.trans (q0 _)⟩
      have HQ := Hid.mk q
      have HQ0 := Hid.mk q0
      have hf := HF.out
      rw [List.drop_eq_getElem_cons kl, fdI, ← List.take_succ_eq_append_getElem kl] at hf
      have HT : Hid (l.take i ++ [l[i]'kl] = l.take (i + 1)) := ⟨(List.take_succ_eq_append_getElem kl).symm⟩
      have hlt' : (i : Int) < k := by omega
      have K := fun W => key71 (str (l[i]'kl)) W
      generalize l[i]'kl = s at *
      clear c0 hx q q0
      cases e : (l.take i).contains s
      · rw [e, if_neg (by simp)] at hf
        rw [e] at HH
        have HF' := Hid.mk hf
        clear hf e
        go_wp2_with (first
          | (go_at_call 71; refine (K _).mono ?_; rintro e w6 ⟨rfl, rfl⟩)
          | (at_lookup; refine wpList_lookup_own_ok_int _ rfl _ _ 51 rfl 9 3 .i64 law9 Tryd.underlying51 Tryd.underlying3 (zero3 _) z i D rfl hD _ _ rfl (key_str hs) ?_; intro c hat hwc; rw [HH.out])
          | (at_mapUpdate; refine wpList_mapUpdate_own _ rfl _ _ _ 51 rfl 9 3 law9 Tryd.underlying51 _ z i _ rfl hD (by unfold maxLen; omega) _ _ _ rfl rfl (key_str hs) _ [] (plainElem_int Tryd.underlying3 (WalkArith.wf_i64 (by omega))) ?_; intro w1 hown1 hgrow1))
        have S1 : Seen w1 z (i + 1) (l.take (i + 1)) := by rw [← HT.out]; exact Seen.grow HQ0.out HQ.out hD.isMap hown1
        exact ⟨⟨i + 1, by go_num, by omega, B.grown hgrow1 (by rw [← hz]; exact B.size) (fun j hj => by cases hj; exact Nat.le_refl _), HF', ⟨S1⟩⟩, by simp [intOf]; omega⟩
      · rw [e, if_pos rfl] at hf
        rw [e] at HH
        have HF' := Hid.mk hf
        clear hf e
        go_wp2_with (first
          | (go_at_call 71; refine (K _).mono ?_; rintro e w6 ⟨rfl, rfl⟩)
          | (at_lookup; refine wpList_lookup_own_ok_int _ rfl _ _ 51 rfl 9 3 .i64 law9 Tryd.underlying51 Tryd.underlying3 (zero3 _) z i D rfl hD _ _ rfl (key_str hs) ?_; intro c hat hwc; rw [HH.out]))
        go_ret
        exact ⟨by rw [HF'.out]; rfl, by rw [hz]; exact B⟩
    · obtain rfl : i = k := by omega
      have HT : Hid (r = -1) := ⟨by have := HF.out; rw [List.drop_eq_nil_of_le (by rw [HN.out]; omega), fdI] at this; exact this.symm⟩
      clear HF HS
      go_wp2
      go_ret
      exact ⟨by rw [HT.out]; rfl, by rw [hz]; exact B⟩
end Go.Proofs.YtcbdolflgpmaoaaDoor
