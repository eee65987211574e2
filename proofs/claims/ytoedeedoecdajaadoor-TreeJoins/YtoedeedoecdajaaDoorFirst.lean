/- What stands behind a blank changes nothing ahead of it: of no program. -/
import Derived.Test.YtoedeedoecdajaaDoorFroms
namespace Go.Proofs.YtoedeedoecdajaaDoor

theorem bl_cases {c : UInt8} (h : bl c.toNat = true) : c.toNat = 9 ∨ c.toNat = 10 ∨ c.toNat = 13 ∨ c.toNat = 32 := by
  simp only [bl, decide_eq_true_eq] at h
  omega
theorem run_app (p : Int → Bool) (c : UInt8) (hp : p c.toNat = false) (more : List UInt8) : ∀ l : List UInt8, runN p (l ++ c :: more) = runN p l
  | [] => by simp [runN, hp]
  | d :: r => by
    rw [List.cons_append, runN, runN, run_app p c hp more r]
theorem rn_blank {c : UInt8} (h : bl c.toNat = true) : rn c.toNat = false := by
  have := bl_cases h
  simp only [rn, decide_eq_false_iff_not]
  omega
theorem dg_blank {c : UInt8} (h : bl c.toNat = true) : dg c.toNat = false := by
  have := bl_cases h
  simp only [dg, decide_eq_false_iff_not]
  omega
theorem nxt_app {c : UInt8} (h : bl c.toNat = true) (more : List UInt8) (r : List UInt8) :
    sm (nxt (r ++ c :: more)) = sm (nxt r) ∧ dg (nxt (r ++ c :: more)) = dg (nxt r) ∧ (nxt (r ++ c :: more) = 62 ↔ nxt r = 62) := by
  cases r with
  | nil =>
    have := bl_cases h
    refine ⟨?_, ?_, ?_⟩
    · show sm c.toNat = sm 0
      simp only [sm, decide_eq_decide]; omega
    · show dg c.toNat = dg 0
      simp only [dg, decide_eq_decide]; omega
    · show c.toNat = 62 ↔ (0 : Nat) = 62
      omega
  | cons d r => exact ⟨rfl, rfl, Iff.rfl⟩
theorem one_app {c : UInt8} (h : bl c.toNat = true) (more : List UInt8) (d : UInt8) (r : List UInt8) : one (d :: r ++ c :: more) = one (d :: r) := by
  have r1 := run_app rn c (rn_blank h) more (d :: r)
  have r2 := run_app rn c (rn_blank h) more r
  have r3 := run_app dg c (dg_blank h) more r
  have l1 := runN_le rn (d :: r)
  have l2 := runN_le rn r
  have l3 := runN_le dg r
  obtain ⟨n1, n2, n3⟩ := nxt_app h more r
  have t1 : (d :: r ++ c :: more).take (runN rn (d :: r)) = (d :: r).take (runN rn (d :: r)) := List.take_append_of_le_length l1
  have t2 : (d :: r ++ c :: more).take (runN rn r + 1) = (d :: r).take (runN rn r + 1) := List.take_append_of_le_length (by simp only [List.length_cons]; omega)
  have t3 : (d :: r ++ c :: more).take (runN dg r + 1) = (d :: r).take (runN dg r + 1) := List.take_append_of_le_length (by simp only [List.length_cons]; omega)
  rw [List.cons_append] at r1 t1 t2 t3 ⊢
  unfold one
  simp only [r1, r2, r3, t1, t2, t3, n1, n2, n3]
theorem readT_app {c : UInt8} (h : bl c.toNat = true) (more : List UInt8) {l : List UInt8} (hl : l ≠ []) : readT (l ++ c :: more) = readT l := by
  cases l with
  | nil => exact absurd rfl hl
  | cons d r => unfold readT; rw [one_app h more d r]
theorem skip_app (more : List UInt8) : ∀ (b : Bool) (l : List UInt8), skipN b (l ++ 10 :: more) = if skipN b l < l.length then skipN b l else l.length + 1 + skipN false more
  | true, [] => by simp [skipN]; omega
  | false, [] => by simp [skipN, bl]; omega
  | true, d :: r => by
    have i1 := skip_app more true r
    have i2 := skip_app more false r
    rw [List.cons_append, skipN, skipN, i1, i2]
    simp only [List.length_cons]
    by_cases q : d.toNat = 10
    · rw [if_pos q, if_pos q]
      split
      · rw [if_pos (by omega)]
      · rw [if_neg (by omega)]; omega
    · rw [if_neg q, if_neg q]
      split
      · rw [if_pos (by omega)]
      · rw [if_neg (by omega)]; omega
  | false, d :: r => by
    have i1 := skip_app more true r
    have i2 := skip_app more false r
    have hh : ((r ++ 10 :: more).head?.map (·.toNat)) = some 45 ↔ (r.head?.map (·.toNat)) = some 45 := by
      cases r with
      | nil => simp
      | cons e r => simp
    rw [List.cons_append, skipN, skipN, i1, i2]
    simp only [List.length_cons, hh]
    by_cases q : bl d.toNat = true
    · rw [if_pos q, if_pos q]
      split
      · rw [if_pos (by omega)]
      · rw [if_neg (by omega)]; omega
    · rw [if_neg q, if_neg q]
      by_cases q2 : d.toNat = 45 ∧ r.head?.map (·.toNat) = some 45
      · rw [if_pos q2, if_pos q2]
        split
        · rw [if_pos (by omega)]
        · rw [if_neg (by omega)]; omega
      · rw [if_neg q2, if_neg q2, if_pos (by omega)]

theorem scanF_place : ∀ (f : Nat) (l : List UInt8) (a p : Nat) (e : Int), scanF f l a = .error (p, e) → a ≤ p
  | 0, _, _, _, _, h => by cases h
  | f + 1, l, a, p, e, h => by
    by_cases hk : skipN false l < l.length
    · cases hr : readT (l.drop (skipN false l)) with
      | error er => rw [scanF_err _ _ _ hk hr] at h; cases h; omega
      | ok t =>
        rw [scanF_ok _ _ _ hk hr] at h
        cases hs : scanF f ((l.drop (skipN false l)).drop t.len) (a + skipN false l + t.len) with
        | ok us => rw [hs] at h; cases h
        | error q =>
          rw [hs] at h
          cases h
          have := scanF_place f _ _ _ _ hs
          omega
    · rw [scanF_end _ _ _ hk] at h; cases h

theorem scan_first (more : List UInt8) : ∀ (f : Nat) (l : List UInt8) (a : Nat) (ts : List Tok), l.length < f → scanF f l a = .ok ts → ∀ F, (l ++ 10 :: more).length < F →
    scanF F (l ++ 10 :: more) a = ahead ts (scanF F more (a + l.length + 1))
  | 0, _, _, _, h, _, _, _ => absurd h (Nat.not_lt_zero _)
  | f + 1, l, a, ts, hf, h, F, hF => by
    simp only [List.length_append, List.length_cons] at hF
    obtain ⟨G, rfl⟩ : ∃ G, F = G + 1 := ⟨F - 1, by omega⟩
    have hs := skip_app more false l
    by_cases hk : skipN false l < l.length
    · rw [if_pos hk] at hs
      have hd : (l ++ 10 :: more).drop (skipN false l) = l.drop (skipN false l) ++ 10 :: more := List.drop_append_of_le_length (by omega)
      have hne : l.drop (skipN false l) ≠ [] := fun q => by
        have := congrArg List.length q
        simp only [List.length_drop, List.length_nil] at this
        omega
      cases hr : readT (l.drop (skipN false l)) with
      | error er => rw [scanF_err _ _ _ hk hr] at h; cases h
      | ok t =>
        have hl := readT_len hr
        simp only [List.length_drop] at hl
        rw [scanF_ok _ _ _ hk hr] at h
        cases hq : scanF f ((l.drop (skipN false l)).drop t.len) (a + skipN false l + t.len) with
        | error q => rw [hq] at h; cases h
        | ok us =>
          rw [hq] at h
          cases h
          have ih := scan_first more f _ _ _ (by simp only [List.length_drop]; omega) hq (G + 1) (by simp only [List.length_append, List.length_drop, List.length_cons]; omega)
          have hr' : readT ((l ++ 10 :: more).drop (skipN false (l ++ 10 :: more))) = .ok t := by rw [hs, hd, readT_app (by decide) more hne]; exact hr
          rw [scanF_ok _ _ _ (by rw [hs]; simp only [List.length_append]; omega) hr', hs, hd]
          have hdd : (l.drop (skipN false l) ++ 10 :: more).drop t.len = (l.drop (skipN false l)).drop t.len ++ 10 :: more := List.drop_append_of_le_length (by simp only [List.length_drop]; omega)
          rw [hdd, scanF_more G (G + 1) _ _ (by simp only [List.length_append, List.length_drop, List.length_cons]; omega) (by simp only [List.length_append, List.length_drop, List.length_cons]; omega), ih, ahead_ahead]
          simp only [List.length_drop]
          rw [show a + skipN false l + t.len + (l.length - skipN false l - t.len) + 1 = a + l.length + 1 by omega]
    · rw [if_neg hk] at hs
      rw [scanF_end _ _ _ hk] at h
      cases h
      rw [ahead_nil]
      have hd : (l ++ 10 :: more).drop (l.length + 1 + skipN false more) = more.drop (skipN false more) := by
        rw [show l.length + 1 + skipN false more = l.length + (skipN false more + 1) by omega, List.drop_append, List.drop_eq_nil_of_le (by omega), List.nil_append, show l.length + (skipN false more + 1) - l.length = skipN false more + 1 by omega, List.drop_succ_cons]
      by_cases hm : skipN false more < more.length
      · cases hr : readT (more.drop (skipN false more)) with
        | error er =>
          rw [scanF_err _ _ _ hm hr, scanF_err _ _ _ (by rw [hs]; simp only [List.length_append, List.length_cons]; omega) (e := er) (by rw [hs, hd]; exact hr), hs]
          congr 2
          omega
        | ok t =>
          rw [scanF_ok _ _ _ hm hr, scanF_ok _ _ _ (by rw [hs]; simp only [List.length_append, List.length_cons]; omega) (t := t) (by rw [hs, hd]; exact hr), hs, hd]
          rw [show a + (l.length + 1 + skipN false more) = a + l.length + 1 + skipN false more by omega]
      · rw [scanF_end _ _ _ hm, scanF_end _ _ _ (by rw [hs]; simp only [List.length_append, List.length_cons]; omega)]

/-- two texts in two lines -/
theorem scan_two {l more : List UInt8} {ts : List Tok} (h : scanAll l = .ok ts) (hl : l.length + more.length < 16384) :
    (∃ us, scanAll (l ++ 10 :: more) = .ok (ts ++ us)) ∨ ∃ p e, scanAll (l ++ 10 :: more) = .error (p, e) ∧ l.length < p := by
  unfold scanAll at h ⊢
  rw [if_neg (by omega)] at h
  rw [if_neg (by simp only [List.length_append, List.length_cons]; omega)]
  have q := scan_first more _ l 0 ts (Nat.lt_succ_self _) h ((l ++ 10 :: more).length + 1) (Nat.lt_succ_self _)
  rw [q]
  cases e : scanF ((l ++ 10 :: more).length + 1) more (0 + l.length + 1) with
  | ok us => exact .inl ⟨us, rfl⟩
  | error x =>
    obtain ⟨p, er⟩ := x
    have := scanF_place _ _ _ _ _ e
    exact .inr ⟨p, er, rfl, by omega⟩
theorem scan_err {l : List UInt8} {p : Nat} {e : Int} : ∀ (f a : Nat), scanF f l a = .error (p, e) → e = 20 ∨ e = 21 ∨ e = 22 := by
  intro f
  induction f generalizing l with
  | zero => intro a h; cases h
  | succ f ih =>
    intro a h
    by_cases hk : skipN false l < l.length
    · cases hr : readT (l.drop (skipN false l)) with
      | error er =>
        rw [scanF_err _ _ _ hk hr] at h
        cases h
        unfold readT at hr
        split at hr
        · split at hr
          · cases hr; exact .inr (.inl rfl)
          · cases hr
        · rename_i e' he
          cases hr
          unfold one at he
          split at he
          · cases he; exact .inl rfl
          · simp only at he
            repeat' split at he
            all_goals first | (cases he; first | exact .inl rfl | exact .inr (.inr rfl)) | cases he
      | ok t =>
        rw [scanF_ok _ _ _ hk hr] at h
        cases hs : scanF f ((l.drop (skipN false l)).drop t.len) (a + skipN false l + t.len) with
        | ok us => rw [hs] at h; cases h
        | error q => rw [hs] at h; cases h; exact ih _ hs
    · rw [scanF_end _ _ _ hk] at h; cases h
theorem scanAll_err {l : List UInt8} {p : Nat} {e : Int} (h : scanAll l = .error (p, e)) : e ≠ 0 := by
  unfold scanAll at h
  split at h
  · cases h; decide
  · have := scan_err _ _ h; omega
end Go.Proofs.YtoedeedoecdajaaDoor
