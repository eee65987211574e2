/- Package show's printer: signs, words, numbers, names; the first fault. -/
import Derived.Test.YtofgnpehlheeiaaGreatDoorPut
import Derived.Test.YtofgnpehlheeiaaGreatDoorJust
import Derived.Deep.RegionHeld3
namespace Go.Proofs.YtofgnpehlheeiaaGreatDoor
open Go.RowKit
set_option linter.unusedVariables false
set_option linter.unusedSimpArgs false

theorem seqO_assoc (a b c : OT) : seqO (seqO a b) c = seqO a (seqO b c) := by
  rcases a with e | x
  · rfl
  · rcases b with e | y
    · rfl
    · rcases c with e | z
      · rfl
      · simp [seqO]
theorem seqO_nil (a : OT) : seqO a (.ok []) = a := by
  rcases a with e | x
  · rfl
  · simp [seqO]
theorem nil_seqO (a : OT) : seqO (.ok []) a = a := by
  rcases a with e | x
  · rfl
  · simp [seqO]
theorem oL_snoc {α : Type} (f : α → OT) : ∀ (l : List α) (x : α), oL f (l ++ [x]) = seqO (oL f l) (f x)
  | [], x => by simp [oL, seqO_nil, nil_seqO]
  | y :: l, x => by
    simp only [List.cons_append, oL, oL_snoc f l x, seqO_assoc]
theorem oNames_L : ∀ l, oNames l = oL (oName 1) l
  | [] => rfl
  | s :: r => by simp only [oNames, oL, oNames_L r]
theorem oAtoms_L : ∀ l, oAtoms l = oL oAtom l
  | [] => rfl
  | s :: r => by simp only [oAtoms, oL, oAtoms_L r]
theorem oL_take {α : Type} (f : α → OT) (l : List α) (i : Nat) (h : i < l.length) : oL f (l.take (i + 1)) = seqO (oL f (l.take i)) (f (l[i]'h)) := by
  rw [List.take_succ_eq_append_getElem h, oL_snoc]

section
variable {w : World} {b : Nat} {ts : List ATok} {es : List Nat} {e : Int}
theorem Did.step {w1 w2 : World} {ts1 : List ATok} {e1 : Int} {n m : Nat} {o p : OT} {r : Ending} (F : Fp b w w1) (h1 : Aft ts e o ts1 e1) (l1 : ts1.length ≤ ts.length + n) (h : Did b w1 ts1 es e1 m p r w2) : Did b w ts es e (n + m) (seqO o p) r w2 := by
  obtain ⟨rfl, F2, ts2, e2, P2, A2, l2⟩ := h
  exact ⟨rfl, F.trans F2, ts2, e2, P2, h1.seq A2, by omega⟩
theorem fit_sg {k : Int} {s : List UInt8} (hk : In64 k) (hs : s.length ≤ 1000000000) : Fit ⟨k, s, 0, 0⟩ := ⟨hk, ⟨by simp, by simp⟩, by simp only; omega⟩
theorem fit_nu {n : Int} (hn : In64 n) : Fit (nuT n) := ⟨⟨by simp, by simp⟩, hn, by simp⟩

set_option maxHeartbeats 1000000 in
theorem sign_any (P : Pr w b ts es e) (s : List UInt8) (hs : s.length ≤ 1000000000) (hn : ts.length ≤ 2000000) : Calls Tryz.prog 36 #[ptr b, .string (str s)] w (Did b w ts es e 1 (.ok [sgT s])) := by
  have Q := put_any P (sgT s) (fit_sg ⟨by decide, by decide⟩ hs) hn
  clear P
  go_enter Tryz.func36, Tryz.ntmps36
  go_wp2_with (go_at_call 56; refine Q.mono ?_; rintro r w1 ⟨rfl, P1, F1⟩)
  go_end0
  exact ⟨rfl, F1, _, _, P1, Aft.ok _ _ _, by simp⟩
set_option maxHeartbeats 1000000 in
theorem pword_any (P : Pr w b ts es e) (s : List UInt8) (hs : s.length ≤ 1000000000) (hn : ts.length ≤ 2000000) : Calls Tryz.prog 33 #[ptr b, .string (str s)] w (Did b w ts es e 1 (.ok [wdT s])) := by
  have Q := put_any P (wdT s) (fit_sg ⟨by decide, by decide⟩ hs) hn
  clear P
  go_enter Tryz.func33, Tryz.ntmps33
  go_wp2_with (go_at_call 56; refine Q.mono ?_; rintro r w1 ⟨rfl, P1, F1⟩)
  go_end0
  exact ⟨rfl, F1, _, _, P1, Aft.ok _ _ _, by simp⟩
set_option maxHeartbeats 1000000 in
theorem pnumber_any (P : Pr w b ts es e) (n : Int) (hs : In64 n) (hn : ts.length ≤ 2000000) : Calls Tryz.prog 35 #[ptr b, .int .i64 n] w (Did b w ts es e 1 (.ok [nuT n])) := by
  have Q := put_any P (nuT n) (fit_nu hs) hn
  rw [show str (nuT n).text = ⟨#[]⟩ from rfl] at Q
  clear P
  go_enter Tryz.func35, Tryz.ntmps35
  go_wp2_with (go_at_call 56; refine Q.mono ?_; rintro r w1 ⟨rfl, P1, F1⟩)
  go_end0
  exact ⟨rfl, F1, _, _, P1, Aft.ok _ _ _, by simp⟩
theorem Pr.wrong (h : Pr w b ts es e) (c : Int) : Pr (w.setCell ⟨b, 2, none⟩ (.int .i64 c)) b ts es c := by
  obtain ⟨v, a0, o0⟩ := h.c0
  obtain ⟨u, a1, o1⟩ := h.c1
  exact ⟨⟨v, (set_other (off_ne (by decide))).trans a0, ownsRow_setCell_below o0 (Nat.lt_succ_self _) _⟩, ⟨u, (set_other (off_ne (by decide))).trans a1, ownsRow_setCell_below o1 (Nat.lt_succ_self _) _⟩, set_same h.c2, fun j => by rw [World.frozen?_setCell]; exact h.z j, h.fit, laid_set h _ (((Fp.refl b w).set 2 _).low' (Nat.le_of_lt h.lt))⟩
set_option maxHeartbeats 1000000 in
theorem fail_any (P : Pr w b ts es e) (c : Int) (hc : c ≠ 0) : Calls Tryz.prog 58 #[ptr b, .int .i64 c] w (Did b w ts es e 0 (.error c)) := by
  have c2 := P.c2
  have z := P.z 2
  by_cases he : e = 0
  · have he' : (e == 0) = true := by simp [he]
    go_enter Tryz.func58, Tryz.ntmps58
    go_wp2
    go_end0
    exact ⟨rfl, (Fp.refl b w).set 2 _, ts, c, P.wrong c, ⟨fun q => absurd he q, fun _ => ⟨rfl, hc⟩⟩, by simp⟩
  · have he' : (e == 0) = false := by simp [he]
    go_enter Tryz.func58, Tryz.ntmps58
    go_wp2
    go_end0
    exact ⟨rfl, Fp.refl b w, ts, e, P, ⟨fun _ => rfl, fun q => absurd q he⟩, by simp⟩
set_option maxRecDepth 100000 in
set_option maxHeartbeats 2000000 in
theorem name_any (P : Pr w b ts es e) (k : Int) (hk : In64 k) (s : List UInt8) (hs : s.length ≤ 1000000000) (hn : ts.length ≤ 2000000) : Calls Tryz.prog 34 #[ptr b, .int .i64 k, .string (str s)] w (Did b w ts es e 1 (oName k s)) := by
  have W := word_any (str s) (by rw [str_size]; omega) k w P.L
  rw [str_list] at W
  have lt := P.lt
  unfold oName
  cases hw : wordB s k with
  | false =>
    rw [hw] at W
    rw [if_neg (by decide)]
    have HP : Hid (Pr w b ts es e) := ⟨P⟩
    clear P hw
    go_enter Tryz.func34, Tryz.ntmps34
    go_wp2_with (first
      | (go_at_call 57; refine W.mono ?_; rintro r w1 ⟨rfl, B1⟩; have Q := fail_any (HP.out.below B1) 2 (by decide))
      | (go_at_call 58; refine Q.mono ?_; rintro r w2 ⟨rfl, F2, ts2, e2, P2, A2, l2⟩))
    go_end0
    exact ⟨rfl, ((Fp.refl b w).below B1).trans F2, ts2, e2, P2, A2, by omega⟩
  | true =>
    rw [hw] at W
    rw [if_pos rfl]
    have HP : Hid (Pr w b ts es e) := ⟨P⟩
    have CL := fun w' => clone_any (str s) w' (by rw [str_size]; omega)
    clear P hw
    go_enter Tryz.func34, Tryz.ntmps34
    go_wp2_with (first
      | (go_at_call 57; refine W.mono ?_; rintro r w1 ⟨rfl, B1⟩))
    have lt1 : b < w1.heap.size := by have := B1.size; omega
    go_region_held3 (fun _ => True) (trivial) (first
      | (go_at_call 59; refine (CL _).mono ?_; rintro r w2 ⟨rfl, B2⟩; have HQ := put_any ((HP.out.below B1).drew.below B2) (naT k s) (fit_sg hk hs) hn)
      | (go_at_call 56; refine HQ.mono ?_; rintro r w3 ⟨rfl, P3, F3⟩))
    all_goals go_wp2
    all_goals go_end0
    all_goals exact ⟨rfl, (((Fp.refl b w).below B1).drew.below B2).trans F3, _, _, P3, Aft.ok _ _ _, by simp⟩
end

end Go.Proofs.YtofgnpehlheeiaaGreatDoor
