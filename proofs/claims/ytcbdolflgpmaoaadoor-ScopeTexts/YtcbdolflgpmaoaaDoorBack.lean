/- What stands behind a blank changes nothing ahead of it: of no program. -/
import Derived.Test.YtcbdolflgpmaoaaDoorTreeGood
import Derived.Lib.ItoaLen
namespace Go.Proofs.YtcbdolflgpmaoaaDoor

theorem bl_cases {c : UInt8} (h : bl c.toNat = true) : c.toNat = 9 ∨ c.toNat = 10 ∨ c.toNat = 13 ∨ c.toNat = 32 := by
  simp only [bl, decide_eq_true_eq] at h
  omega
theorem run_app (p : Int → Bool) (c : UInt8) (hp : p c.toNat = false) (more : List UInt8) : ∀ l : List UInt8, runN p (l ++ c :: more) = runN p l
  | [] => by simp [runN, hp]
  | d :: r => by
    rw [List.cons_append, runN, runN, run_app p c hp more r]
theorem rn_blank {c : UInt8} (h : bl c.toNat = true) : rn c.toNat = false := by
  have := bl_cases h
  simp only [rn, decide_eq_false_iff_not]
  omega
theorem dg_blank {c : UInt8} (h : bl c.toNat = true) : dg c.toNat = false := by
  have := bl_cases h
  simp only [dg, decide_eq_false_iff_not]
  omega
theorem nxt_app {c : UInt8} (h : bl c.toNat = true) (more : List UInt8) (r : List UInt8) :
    sm (nxt (r ++ c :: more)) = sm (nxt r) ∧ dg (nxt (r ++ c :: more)) = dg (nxt r) ∧ (nxt (r ++ c :: more) = 62 ↔ nxt r = 62) := by
  cases r with
  | nil =>
    have := bl_cases h
    refine ⟨?_, ?_, ?_⟩
    · show sm c.toNat = sm 0
      simp only [sm, decide_eq_decide]; omega
    · show dg c.toNat = dg 0
      simp only [dg, decide_eq_decide]; omega
    · show c.toNat = 62 ↔ (0 : Nat) = 62
      omega
  | cons d r => exact ⟨rfl, rfl, Iff.rfl⟩
theorem one_app {c : UInt8} (h : bl c.toNat = true) (more : List UInt8) (d : UInt8) (r : List UInt8) : one (d :: r ++ c :: more) = one (d :: r) := by
  have r1 := run_app rn c (rn_blank h) more (d :: r)
  have r2 := run_app rn c (rn_blank h) more r
  have r3 := run_app dg c (dg_blank h) more r
  have l1 := runN_le rn (d :: r)
  have l2 := runN_le rn r
  have l3 := runN_le dg r
  obtain ⟨n1, n2, n3⟩ := nxt_app h more r
  have t1 : (d :: r ++ c :: more).take (runN rn (d :: r)) = (d :: r).take (runN rn (d :: r)) := List.take_append_of_le_length l1
  have t2 : (d :: r ++ c :: more).take (runN rn r + 1) = (d :: r).take (runN rn r + 1) := List.take_append_of_le_length (by simp only [List.length_cons]; omega)
  have t3 : (d :: r ++ c :: more).take (runN dg r + 1) = (d :: r).take (runN dg r + 1) := List.take_append_of_le_length (by simp only [List.length_cons]; omega)
  rw [List.cons_append] at r1 t1 t2 t3 ⊢
  unfold one
  simp only [r1, r2, r3, t1, t2, t3, n1, n2, n3]
theorem readT_app {c : UInt8} (h : bl c.toNat = true) (more : List UInt8) {l : List UInt8} (hl : l ≠ []) : readT (l ++ c :: more) = readT l := by
  cases l with
  | nil => exact absurd rfl hl
  | cons d r => unfold readT; rw [one_app h more d r]
theorem skip_app (more : List UInt8) : ∀ (b : Bool) (l : List UInt8), skipN b (l ++ 10 :: more) = if skipN b l < l.length then skipN b l else l.length + 1 + skipN false more
  | true, [] => by simp [skipN]; omega
  | false, [] => by simp [skipN, bl]; omega
  | true, d :: r => by
    have i1 := skip_app more true r
    have i2 := skip_app more false r
    rw [List.cons_append, skipN, skipN, i1, i2]
    simp only [List.length_cons]
    by_cases q : d.toNat = 10
    · rw [if_pos q, if_pos q]
      split
      · rw [if_pos (by omega)]
      · rw [if_neg (by omega)]; omega
    · rw [if_neg q, if_neg q]
      split
      · rw [if_pos (by omega)]
      · rw [if_neg (by omega)]; omega
  | false, d :: r => by
    have i1 := skip_app more true r
    have i2 := skip_app more false r
    have hh : ((r ++ 10 :: more).head?.map (·.toNat)) = some 45 ↔ (r.head?.map (·.toNat)) = some 45 := by
      cases r with
      | nil => simp
      | cons e r => simp
    rw [List.cons_append, skipN, skipN, i1, i2]
    simp only [List.length_cons, hh]
    by_cases q : bl d.toNat = true
    · rw [if_pos q, if_pos q]
      split
      · rw [if_pos (by omega)]
      · rw [if_neg (by omega)]; omega
    · rw [if_neg q, if_neg q]
      by_cases q2 : d.toNat = 45 ∧ r.head?.map (·.toNat) = some 45
      · rw [if_pos q2, if_pos q2]
        split
        · rw [if_pos (by omega)]
        · rw [if_neg (by omega)]; omega
      · rw [if_neg q2, if_neg q2, if_pos (by omega)]

theorem scanF_place : ∀ (f : Nat) (l : List UInt8) (a p : Nat) (e : Int), scanF f l a = .error (p, e) → a ≤ p
  | 0, _, _, _, _, h => by cases h
  | f + 1, l, a, p, e, h => by
    by_cases hk : skipN false l < l.length
    · cases hr : readT (l.drop (skipN false l)) with
      | error er => rw [scanF_err _ _ _ hk hr] at h; cases h; omega
      | ok t =>
        rw [scanF_ok _ _ _ hk hr] at h
        cases hs : scanF f ((l.drop (skipN false l)).drop t.len) (a + skipN false l + t.len) with
        | ok us => rw [hs] at h; cases h
        | error q =>
          rw [hs] at h
          cases h
          have := scanF_place f _ _ _ _ hs
          omega
    · rw [scanF_end _ _ _ hk] at h; cases h

theorem scan_first (more : List UInt8) : ∀ (f : Nat) (l : List UInt8) (a : Nat) (ts : List Tok), l.length < f → scanF f l a = .ok ts → ∀ F, (l ++ 10 :: more).length < F →
    scanF F (l ++ 10 :: more) a = ahead ts (scanF F more (a + l.length + 1))
  | 0, _, _, _, h, _, _, _ => absurd h (Nat.not_lt_zero _)
  | f + 1, l, a, ts, hf, h, F, hF => by
    simp only [List.length_append, List.length_cons] at hF
    obtain ⟨G, rfl⟩ : ∃ G, F = G + 1 := ⟨F - 1, by omega⟩
    have hs := skip_app more false l
    by_cases hk : skipN false l < l.length
    · rw [if_pos hk] at hs
      have hd : (l ++ 10 :: more).drop (skipN false l) = l.drop (skipN false l) ++ 10 :: more := List.drop_append_of_le_length (by omega)
      have hne : l.drop (skipN false l) ≠ [] := fun q => by
        have := congrArg List.length q
        simp only [List.length_drop, List.length_nil] at this
        omega
      cases hr : readT (l.drop (skipN false l)) with
      | error er => rw [scanF_err _ _ _ hk hr] at h; cases h
      | ok t =>
        have hl := readT_len hr
        simp only [List.length_drop] at hl
        rw [scanF_ok _ _ _ hk hr] at h
        cases hq : scanF f ((l.drop (skipN false l)).drop t.len) (a + skipN false l + t.len) with
        | error q => rw [hq] at h; cases h
        | ok us =>
          rw [hq] at h
          cases h
          have ih := scan_first more f _ _ _ (by simp only [List.length_drop]; omega) hq (G + 1) (by simp only [List.length_append, List.length_drop, List.length_cons]; omega)
          have hr' : readT ((l ++ 10 :: more).drop (skipN false (l ++ 10 :: more))) = .ok t := by rw [hs, hd, readT_app (by decide) more hne]; exact hr
          rw [scanF_ok _ _ _ (by rw [hs]; simp only [List.length_append]; omega) hr', hs, hd]
          have hdd : (l.drop (skipN false l) ++ 10 :: more).drop t.len = (l.drop (skipN false l)).drop t.len ++ 10 :: more := List.drop_append_of_le_length (by simp only [List.length_drop]; omega)
          rw [hdd, scanF_more G (G + 1) _ _ (by simp only [List.length_append, List.length_drop, List.length_cons]; omega) (by simp only [List.length_append, List.length_drop, List.length_cons]; omega), ih, ahead_ahead]
          simp only [List.length_drop]
          rw [show a + skipN false l + t.len + (l.length - skipN false l - t.len) + 1 = a + l.length + 1 by omega]
    · rw [if_neg hk] at hs
      rw [scanF_end _ _ _ hk] at h
      cases h
      rw [ahead_nil]
      have hd : (l ++ 10 :: more).drop (l.length + 1 + skipN false more) = more.drop (skipN false more) := by
        rw [show l.length + 1 + skipN false more = l.length + (skipN false more + 1) by omega, List.drop_append, List.drop_eq_nil_of_le (by omega), List.nil_append, show l.length + (skipN false more + 1) - l.length = skipN false more + 1 by omega, List.drop_succ_cons]
      by_cases hm : skipN false more < more.length
      · cases hr : readT (more.drop (skipN false more)) with
        | error er =>
          rw [scanF_err _ _ _ hm hr, scanF_err _ _ _ (by rw [hs]; simp only [List.length_append, List.length_cons]; omega) (e := er) (by rw [hs, hd]; exact hr), hs]
          congr 2
          omega
        | ok t =>
          rw [scanF_ok _ _ _ hm hr, scanF_ok _ _ _ (by rw [hs]; simp only [List.length_append, List.length_cons]; omega) (t := t) (by rw [hs, hd]; exact hr), hs, hd]
          rw [show a + (l.length + 1 + skipN false more) = a + l.length + 1 + skipN false more by omega]
      · rw [scanF_end _ _ _ hm, scanF_end _ _ _ (by rw [hs]; simp only [List.length_append, List.length_cons]; omega)]

/-- two texts in two lines -/
theorem scan_two {l more : List UInt8} {ts : List Tok} (h : scanAll l = .ok ts) (hl : l.length + more.length < 16384) :
    (∃ us, scanAll (l ++ 10 :: more) = .ok (ts ++ us)) ∨ ∃ p e, scanAll (l ++ 10 :: more) = .error (p, e) ∧ l.length < p := by
  unfold scanAll at h ⊢
  rw [if_neg (by omega)] at h
  rw [if_neg (by simp only [List.length_append, List.length_cons]; omega)]
  have q := scan_first more _ l 0 ts (Nat.lt_succ_self _) h ((l ++ 10 :: more).length + 1) (Nat.lt_succ_self _)
  rw [q]
  cases e : scanF ((l ++ 10 :: more).length + 1) more (0 + l.length + 1) with
  | ok us => exact .inl ⟨us, rfl⟩
  | error x =>
    obtain ⟨p, er⟩ := x
    have := scanF_place _ _ _ _ _ e
    exact .inr ⟨p, er, rfl, by omega⟩
theorem scan_err {l : List UInt8} {p : Nat} {e : Int} : ∀ (f a : Nat), scanF f l a = .error (p, e) → e = 20 ∨ e = 21 ∨ e = 22 := by
  intro f
  induction f generalizing l with
  | zero => intro a h; cases h
  | succ f ih =>
    intro a h
    by_cases hk : skipN false l < l.length
    · cases hr : readT (l.drop (skipN false l)) with
      | error er =>
        rw [scanF_err _ _ _ hk hr] at h
        cases h
        unfold readT at hr
        split at hr
        · split at hr
          · cases hr; exact .inr (.inl rfl)
          · cases hr
        · rename_i e' he
          cases hr
          unfold one at he
          split at he
          · cases he; exact .inl rfl
          · simp only at he
            repeat' split at he
            all_goals first | (cases he; first | exact .inl rfl | exact .inr (.inr rfl)) | cases he
      | ok t =>
        rw [scanF_ok _ _ _ hk hr] at h
        cases hs : scanF f ((l.drop (skipN false l)).drop t.len) (a + skipN false l + t.len) with
        | ok us => rw [hs] at h; cases h
        | error q => rw [hs] at h; cases h; exact ih _ hs
    · rw [scanF_end _ _ _ hk] at h; cases h
theorem scanAll_err {l : List UInt8} {p : Nat} {e : Int} (h : scanAll l = .error (p, e)) : e ≠ 0 := by
  unfold scanAll at h
  split at h
  · cases h; decide
  · have := scan_err _ _ h; omega
end Go.Proofs.YtcbdolflgpmaoaaDoor


/- Tokens as texts, there and back; just one token; words, signs, numbers: of no program. -/
namespace Go.Proofs.YtcbdolflgpmaoaaDoor
/-- Is a list just one token of a kind? -/
def justT (l : List UInt8) (kind : Int) : Bool :=
  match readT l with
  | .ok t => decide (t.kind = kind) && decide (t.len = l.length)
  | .error _ => false
theorem readT_err {l : List UInt8} {e : Int} (h : readT l = .error e) : e = 20 ∨ e = 21 ∨ e = 22 := by
  unfold readT at h
  split at h
  · split at h
    · cases h; exact .inr (.inl rfl)
    · cases h
  · rename_i e' he
    cases h
    unfold one at he
    split at he
    · cases he; exact .inl rfl
    · simp only at he
      repeat' split at he
      all_goals first | (cases he; first | exact .inl rfl | exact .inr (.inr rfl)) | cases he

def wordB (l : List UInt8) (kind : Int) : Bool := (decide (kind = 1) || (decide (kind = 2) || decide (kind = 3))) && justT l kind
/-- what digits spell, behind others -/
def putD (a : Nat) (c : UInt8) : Nat := a * 10 + (c.toNat - 48)
def valN (acc : Nat) (l : List UInt8) : Nat := l.foldl putD acc
theorem valN_nil (acc : Nat) : valN acc [] = acc := rfl
theorem valN_cons (acc : Nat) (c : UInt8) (r : List UInt8) : valN acc (c :: r) = valN (acc * 10 + (c.toNat - 48)) r := by
  unfold valN
  rw [List.foldl_cons, putD]
theorem valN_ge : ∀ (l : List UInt8) (acc : Nat), acc ≤ valN acc l
  | [], acc => by rw [valN_nil]; exact Nat.le_refl _
  | c :: r, acc => by
    have := valN_ge r (acc * 10 + (c.toNat - 48))
    rw [valN_cons]
    omega
theorem parse_val : ∀ (l : List UInt8) (acc : Nat), (∀ c ∈ l, dg c.toNat = true) → acc ≤ 18446744073709551615 →
    Lib.parseUintM (2 ^ 64 - 1) acc l = if valN acc l ≤ 18446744073709551615 then .ok (valN acc l) else .range
  | [], acc, _, h => by rw [Lib.parseUintM, valN_nil, if_pos h]
  | c :: r, acc, hd, h => by
    have hc := hd c (List.mem_cons_self ..)
    simp only [dg, decide_eq_true_eq] at hc
    have hm := valN_ge r (acc * 10 + (c.toNat - 48))
    rw [Lib.parseUintM, if_pos ⟨by omega, by omega⟩, valN_cons]
    by_cases h1 : 1844674407370955162 ≤ acc
    · rw [if_pos h1, if_neg (by omega)]
    · rw [if_neg h1]
      by_cases h2 : 2 ^ 64 - 1 < acc * 10 + (c.toNat - 48)
      · rw [if_pos h2, if_neg (by omega)]
      · rw [if_neg h2]
        exact parse_val r _ (fun d hd' => hd d (List.mem_cons_of_mem _ hd')) (by omega)
theorem numOf_pos {c : UInt8} {r : List UInt8} (h : ∀ d ∈ c :: r, dg d.toNat = true) : numOf (c :: r) = if valN 0 (c :: r) < 9223372036854775808 then some (valN 0 (c :: r) : Int) else none := by
  have hc := h c (List.mem_cons_self ..)
  simp only [dg, decide_eq_true_eq] at hc
  unfold numOf Lib.parseIntB
  simp only
  rw [if_neg (show ¬ (c.toNat = 43 ∨ c.toNat = 45) by omega)]
  unfold Lib.parseUintB
  rw [if_neg (by simp), parse_val _ _ h (by omega)]
  by_cases h1 : valN 0 (c :: r) ≤ 18446744073709551615
  · rw [if_pos h1]
    simp only
    by_cases h2 : valN 0 (c :: r) < 9223372036854775808
    · rw [if_neg (by omega), if_neg (by omega), if_neg (by omega), if_pos h2]
    · rw [if_pos ⟨by omega, by omega⟩, if_neg h2]
  · rw [if_neg h1, if_neg (by omega)]
theorem numOf_neg {c : UInt8} {r : List UInt8} (hc : c.toNat = 45) (hr : r ≠ []) (h : ∀ d ∈ r, dg d.toNat = true) : numOf (c :: r) = if valN 0 r ≤ 9223372036854775808 then some (-(valN 0 r : Int)) else none := by
  unfold numOf Lib.parseIntB
  simp only
  rw [if_pos (show c.toNat = 43 ∨ c.toNat = 45 from .inr hc)]
  unfold Lib.parseUintB
  rw [if_neg hr, parse_val _ _ h (by omega)]
  by_cases h1 : valN 0 r ≤ 18446744073709551615
  · rw [if_pos h1]
    simp only
    by_cases h2 : valN 0 r ≤ 9223372036854775808
    · rw [if_neg (by omega), if_neg (by omega), if_pos hc, if_pos h2]
    · rw [if_neg (by omega), if_pos ⟨by omega, by omega⟩, if_neg h2]
  · rw [if_neg h1, if_neg (by omega)]
def signB (t : List UInt8) : Bool := t == [45, 62] || t == [61] || t == [92] || t == [123] || t == [125] || t == [59] || t == [40] || t == [41]
theorem dg_bounds {c : UInt8} (h : dg c.toNat = true) : 48 ≤ c.toNat ∧ c.toNat ≤ 57 := by
  simp only [dg, decide_eq_true_eq] at h
  omega
theorem one_small {c : UInt8} {r : List UInt8} (h : sm c.toNat = true) : one (c :: r) = .ok ⟨if resv ((c :: r).take (runN rn (c :: r))) then 6 else 1, (c :: r).take (runN rn (c :: r)), 0, runN rn (c :: r)⟩ := by
  unfold one; simp only [h, if_true]
theorem one_great {c : UInt8} {r : List UInt8} (h1 : sm c.toNat = false) (h : gr c.toNat = true) : one (c :: r) = .ok ⟨2, (c :: r).take (runN rn (c :: r)), 0, runN rn (c :: r)⟩ := by
  unfold one; simp only [h1, h, if_true, Bool.false_eq_true, if_false]
theorem one_prim {c : UInt8} {r : List UInt8} (h : c.toNat = 35) (h2 : sm (nxt r) = true) : one (c :: r) = .ok ⟨3, (c :: r).take (runN rn r + 1), 0, runN rn r + 1⟩ := by
  have h1 : sm c.toNat = false := by rw [h]; decide
  have h3 : gr c.toNat = false := by rw [h]; decide
  unfold one
  simp only [h1, h3, Bool.false_eq_true, if_false]
  rw [if_pos ⟨h, h2⟩]
theorem one_num {c : UInt8} {r : List UInt8} (h1 : sm c.toNat = false) (h2 : gr c.toNat = false) (h3 : ¬ (c.toNat = 35 ∧ sm (nxt r) = true)) (h : dg c.toNat = true ∨ (c.toNat = 45 ∧ dg (nxt r) = true)) :
    one (c :: r) = match numOf ((c :: r).take (runN dg r + 1)) with | some v => .ok ⟨4, [], v, runN dg r + 1⟩ | none => .error 22 := by
  unfold one
  simp only [h1, h2, Bool.false_eq_true, if_false]
  rw [if_neg h3, if_pos h]
  rfl
theorem one_sign {c : UInt8} {r : List UInt8} (h1 : sm c.toNat = false) (h2 : gr c.toNat = false) (h3 : ¬ (c.toNat = 35 ∧ sm (nxt r) = true)) (h : ¬ (dg c.toNat = true ∨ (c.toNat = 45 ∧ dg (nxt r) = true))) :
    one (c :: r) = if c.toNat = 45 ∧ nxt r = 62 then .ok ⟨5, [45, 62], 0, 2⟩ else if sg c.toNat then .ok ⟨5, [c], 0, 1⟩ else .error 20 := by
  unfold one
  simp only [h1, h2, Bool.false_eq_true, if_false]
  rw [if_neg h3, if_neg h]
theorem signB_fin : ∀ x : Fin 256, signB [UInt8.ofNat x.val] = sg ((x.val : Nat) : Int) := by decide +kernel
theorem signB_one (c : UInt8) : signB [c] = sg c.toNat := by
  have := signB_fin ⟨c.toNat, c.toNat_lt⟩
  simpa using this

/-- A token that came in: whatever its fields are. -/
structure ATok where
  kind : Int
  text : List UInt8
  num : Int
  at' : Int
def okT (t : ATok) : Bool := decide (t.kind = 4) || ((decide (t.kind = 1) || (decide (t.kind = 2) || (decide (t.kind = 3) || (decide (t.kind = 5) || decide (t.kind = 6))))) && justT t.text t.kind)
def writ (t : ATok) : List UInt8 := if t.kind = 4 then Lib.itoa t.num else t.text
def joinL (ts : List ATok) : List UInt8 := ts.flatMap fun t => writ t ++ [32]
def joinR (ts : List ATok) : Except Int (List UInt8) := if ts.all okT then (if 16384 < (joinL ts).length then .error 3 else .ok (joinL ts)) else .error 2
/-- kind, text and number, as the kind has them -/
structure T3 where
  kind : Int
  text : List UInt8
  num : Int
def nameT (t : ATok) : T3 := if t.kind = 4 then ⟨4, [], t.num⟩ else ⟨t.kind, t.text, 0⟩
def three (t : Tok) : T3 := ⟨t.kind, t.text, t.num⟩

theorem readT_full {l : List UInt8} {t : Tk} (h : readT l = .ok t) (hl : t.len = l.length) (hk : t.kind ≠ 4) : t.text = l ∧ t.num = 0 := by
  obtain ⟨h1, _⟩ := readT_one h
  cases l with
  | nil => cases h1
  | cons c r =>
    unfold one at h1
    simp only at h1
    split at h1
    · cases h1; simp only at hl ⊢; rw [hl]; exact ⟨List.take_length, trivial⟩
    · split at h1
      · cases h1; simp only at hl ⊢; rw [hl]; exact ⟨List.take_length, trivial⟩
      · split at h1
        · cases h1; simp only at hl ⊢; rw [hl]; exact ⟨List.take_length, trivial⟩
        · split at h1
          · split at h1
            · cases h1; exact absurd rfl hk
            · cases h1
          · split at h1
            · rename_i _ hh
              cases h1
              obtain ⟨q1, q2⟩ := hh
              cases r with
              | nil => exact absurd q2 (by decide)
              | cons d r =>
                simp only [List.length_cons] at hl
                have : r = [] := List.eq_nil_of_length_eq_zero (by omega)
                subst this
                have e1 : c = 45 := UInt8.toNat.inj q1
                have e2 : d = 62 := UInt8.toNat.inj q2
                subst e1 e2
                exact ⟨rfl, rfl⟩
            · split at h1
              · cases h1
                simp only [List.length_cons] at hl
                have : r = [] := List.eq_nil_of_length_eq_zero (by omega)
                subst this
                exact ⟨rfl, rfl⟩
              · cases h1
theorem readT_head {c : UInt8} {r : List UInt8} {t : Tk} (h : readT (c :: r) = .ok t) : bl c.toNat = false ∧ ¬ (c.toNat = 45 ∧ nxt r = 45) := by
  obtain ⟨h1, _⟩ := readT_one h
  unfold one at h1
  simp only at h1
  split at h1
  · rename_i q
    simp only [sm, decide_eq_true_eq] at q
    simp only [bl, decide_eq_false_iff_not]
    omega
  · split at h1
    · rename_i q
      simp only [gr, decide_eq_true_eq] at q
      simp only [bl, decide_eq_false_iff_not]
      omega
    · split at h1
      · rename_i q
        simp only [bl, decide_eq_false_iff_not]
        omega
      · split at h1
        · rename_i q
          simp only [dg, decide_eq_true_eq] at q
          simp only [bl, decide_eq_false_iff_not]
          omega
        · split at h1
          · rename_i q
            simp only [bl, decide_eq_false_iff_not]
            omega
          · split at h1
            · rename_i q
              simp only [sg, decide_eq_true_eq] at q
              simp only [bl, decide_eq_false_iff_not]
              omega
            · cases h1

/-! ### numbers -/
theorem val_snoc (l : List UInt8) (acc : Nat) (d : UInt8) : valN acc (l ++ [d]) = valN acc l * 10 + (d.toNat - 48) := by
  unfold valN
  rw [List.foldl_append, List.foldl_cons, List.foldl_nil, putD]
theorem digit_byte {k : Nat} (h : k < 10) : (UInt8.ofNat (48 + k)).toNat = 48 + k := by simp; omega
theorem dec_val : ∀ (u : Nat), valN 0 (Lib.decDigits u) = u ∧ (∀ d ∈ Lib.decDigits u, dg d.toNat = true) ∧ Lib.decDigits u ≠ [] := by
  intro u
  induction u using Nat.strongRecOn with
  | ind u ih =>
    rw [Lib.decDigits]
    split
    · rename_i h
      refine ⟨?_, fun d hd => ?_, by simp⟩
      · rw [show ([UInt8.ofNat (48 + u)] : List UInt8) = [] ++ [UInt8.ofNat (48 + u)] from rfl, val_snoc, valN_nil, digit_byte h]; omega
      · simp only [List.mem_singleton] at hd
        rw [hd, digit_byte h]
        simp only [dg, decide_eq_true_eq]
        omega
    · rename_i h
      obtain ⟨i1, i2, i3⟩ := ih (u / 10) (by omega)
      have hm : u % 10 < 10 := Nat.mod_lt _ (by decide)
      refine ⟨?_, fun d hd => ?_, by simp⟩
      · rw [val_snoc, i1, digit_byte hm]; omega
      · rcases List.mem_append.1 hd with q | q
        · exact i2 d q
        · simp only [List.mem_singleton] at q
          rw [q, digit_byte hm]
          simp only [dg, decide_eq_true_eq]
          omega
theorem run_full (p : Int → Bool) : ∀ l : List UInt8, (∀ c ∈ l, p c.toNat = true) → runN p l = l.length
  | [], _ => rfl
  | c :: r, h => by
    rw [runN, if_pos (h c (List.mem_cons_self ..)), run_full p r (fun d hd => h d (List.mem_cons_of_mem _ hd)), List.length_cons]
theorem one_itoa (n : Int) (h0 : -9223372036854775808 ≤ n) (h1 : n ≤ 9223372036854775807) : one (Lib.itoa n) = .ok ⟨4, [], n, (Lib.itoa n).length⟩ ∧ Lib.itoa n ≠ [] := by
  unfold Lib.itoa
  by_cases hn : n < 0
  · rw [if_pos hn]
    obtain ⟨v, a, ne⟩ := dec_val n.natAbs
    generalize Lib.decDigits n.natAbs = D at *
    refine ⟨?_, by simp⟩
    have hx : dg (nxt D) = true := by
      cases D with
      | nil => exact absurd rfl ne
      | cons d r => exact a d (List.mem_cons_self ..)
    rw [one_num (c := 45) (r := D) (by decide) (by decide) (fun q => absurd q.1 (by decide)) (.inr ⟨rfl, hx⟩), run_full dg D a, List.take_of_length_le (by simp), numOf_neg (c := 45) rfl ne a, v]
    rw [if_pos (by omega)]
    simp only [List.length_cons]
    congr 2
    omega
  · rw [if_neg hn]
    obtain ⟨v, a, ne⟩ := dec_val n.toNat
    generalize Lib.decDigits n.toNat = D at *
    refine ⟨?_, ne⟩
    cases D with
    | nil => exact absurd rfl ne
    | cons d r =>
      have hd := a d (List.mem_cons_self ..)
      have hb := dg_bounds hd
      rw [one_num (c := d) (r := r) (by simp only [sm, decide_eq_false_iff_not]; omega) (by simp only [gr, decide_eq_false_iff_not]; omega) (by omega) (.inl hd), run_full dg r (fun c hc => a c (List.mem_cons_of_mem _ hc)), List.take_of_length_le (by simp), numOf_pos a, v]
      rw [if_pos (by omega)]
      simp only [List.length_cons]
      congr 2
      omega

/-- what a token is written as is read as it is -/
theorem writ_read {t : ATok} (h : okT t = true) (hn : -9223372036854775808 ≤ t.num ∧ t.num ≤ 9223372036854775807) :
    readT (writ t) = .ok ⟨(nameT t).kind, (nameT t).text, (nameT t).num, (writ t).length⟩ ∧ writ t ≠ [] ∧ (writ t).length ≤ 32 := by
  unfold writ nameT
  by_cases hk : t.kind = 4
  · simp only [hk, if_true]
    obtain ⟨a, b⟩ := one_itoa t.num hn.1 hn.2
    have := Lib.itoa_length_le t.num hn.1 hn.2
    refine ⟨?_, b, by omega⟩
    unfold readT
    rw [a]
    simp
  · simp only [hk, if_false]
    unfold okT at h
    simp only [hk, decide_false, Bool.false_or, Bool.and_eq_true] at h
    have hj := h.2
    unfold justT at hj
    cases e : readT t.text with
    | error er => rw [e] at hj; cases hj
    | ok k =>
      rw [e] at hj
      simp only [Bool.and_eq_true, decide_eq_true_eq] at hj
      obtain ⟨q1, q2⟩ := readT_full e hj.2 (by rw [hj.1]; exact hk)
      have hl := readT_len e
      refine ⟨?_, fun q => ?_, ?_⟩
      · obtain ⟨kk, kt, kn, kl⟩ := k
        simp only at hj q1 q2
        obtain ⟨rfl, rfl⟩ := hj
        subst q1 q2
        rfl
      · rw [q] at hl; simp at hl; omega
      · have := (readT_one e).2
        rw [q1] at this
        exact this

/-! ### blanks and remarks between -/
def Gap (g : List UInt8) : Prop := ∀ r, skipN false (g ++ r) = g.length + skipN false r
theorem gap_nil : Gap [] := fun r => by simp
theorem gap_blank {c : UInt8} (h : bl c.toNat = true) {g : List UInt8} (hg : Gap g) : Gap (c :: g) := fun r => by
  rw [List.cons_append, skipN, if_pos h, hg r, List.length_cons]; omega
theorem skip_remark : ∀ (x : List UInt8) (r : List UInt8), (∀ c ∈ x, c.toNat ≠ 10) → skipN true (x ++ 10 :: r) = x.length + 1 + skipN false r
  | [], r, _ => by simp [skipN]; omega
  | c :: x, r, h => by
    rw [List.cons_append, skipN, if_neg (h c (List.mem_cons_self ..)), skip_remark x r (fun d hd => h d (List.mem_cons_of_mem _ hd)), List.length_cons]
    omega
theorem gap_remark {c : UInt8} (h : c.toNat ≠ 10) {g : List UInt8} (hg : Gap g) : Gap ([45, 45, c, 61, 10] ++ g) := fun r => by
  have := skip_remark [45, c, 61] (g ++ r) (by
    intro d hd
    simp only [List.mem_cons, List.not_mem_nil, or_false] at hd
    rcases hd with rfl | rfl | rfl
    · decide
    · exact h
    · decide)
  show skipN false (45 :: ([45, c, 61] ++ 10 :: (g ++ r))) = _
  rw [skipN, if_neg (by decide), if_pos ⟨rfl, rfl⟩, this, hg r]
  simp only [List.length_append, List.length_cons, List.length_nil]
  omega
theorem gap_app {g h : List UInt8} (hg : Gap g) (hh : Gap h) : Gap (g ++ h) := fun r => by
  rw [List.append_assoc, hg, hh, List.length_append]; omega

theorem scan_gap {g : List UInt8} (hg : Gap g) (X : List UInt8) (F a : Nat) : scanF F (g ++ X) a = scanF F X (a + g.length) := by
  cases F with
  | zero => rfl
  | succ F =>
    have hs := hg X
    have hd : (g ++ X).drop (g.length + skipN false X) = X.drop (skipN false X) := by rw [List.drop_append, List.drop_eq_nil_of_le (by omega), List.nil_append, Nat.add_sub_cancel_left]
    by_cases hk : skipN false X < X.length
    · cases hr : readT (X.drop (skipN false X)) with
      | error er =>
        rw [scanF_err _ _ _ hk hr, scanF_err _ _ _ (by rw [hs, List.length_append]; omega) (e := er) (by rw [hs, hd]; exact hr), hs, Nat.add_assoc]
      | ok t =>
        rw [scanF_ok _ _ _ hk hr, scanF_ok _ _ _ (by rw [hs, List.length_append]; omega) (t := t) (by rw [hs, hd]; exact hr), hs, hd, ← Nat.add_assoc]
    · rw [scanF_end _ _ _ hk, scanF_end _ _ _ (by rw [hs, List.length_append]; omega)]

/-- gaps and tokens, each with a blank behind it -/
def pieces : List (List UInt8 × ATok) → List UInt8
  | [] => []
  | p :: r => p.1 ++ (writ p.2 ++ 32 :: pieces r)
theorem scan_pieces : ∀ (ps : List (List UInt8 × ATok)) (F a : Nat), (∀ p ∈ ps, Gap p.1 ∧ okT p.2 = true ∧ -9223372036854775808 ≤ p.2.num ∧ p.2.num ≤ 9223372036854775807) → (pieces ps).length < F →
    ∃ ms, scanF F (pieces ps) a = .ok ms ∧ ms.map three = ps.map fun p => nameT p.2
  | [], F, a, _, _ => ⟨[], scanF_end _ _ _ (by simp [pieces, skipN]), rfl⟩
  | p :: r, F, a, h, hF => by
    obtain ⟨hg, ho, hn⟩ := h p (List.mem_cons_self ..)
    obtain ⟨w1, w2, w3⟩ := writ_read ho hn
    simp only [pieces, List.length_append, List.length_cons] at hF
    obtain ⟨G, rfl⟩ : ∃ G, F = G + 1 := ⟨F - 1, by omega⟩
    rw [pieces, scan_gap hg]
    obtain ⟨ms, i1, i2⟩ := scan_pieces r G (a + p.1.length + (writ p.2).length + 1) (fun q hq => h q (List.mem_cons_of_mem _ hq)) (by omega)
    have b32 : bl ((32 : UInt8).toNat) = true := by decide
    have hr : readT (writ p.2 ++ 32 :: pieces r) = .ok ⟨(nameT p.2).kind, (nameT p.2).text, (nameT p.2).num, (writ p.2).length⟩ := by rw [readT_app b32 _ w2]; exact w1
    have hs : skipN false (writ p.2 ++ 32 :: pieces r) = 0 := by
      cases e : writ p.2 with
      | nil => exact absurd e w2
      | cons c x =>
        rw [e] at w1
        obtain ⟨q1, q2⟩ := readT_head w1
        rw [List.cons_append, skipN, if_neg (by rw [q1]; decide), if_neg]
        rintro ⟨q3, q4⟩
        cases x with
        | nil => simp at q4
        | cons d y =>
          refine q2 ⟨q3, ?_⟩
          show d.toNat = 45
          simpa using q4
    refine ⟨⟨(nameT p.2).kind, (nameT p.2).text, (nameT p.2).num, a + p.1.length⟩ :: ms, ?_, ?_⟩
    · rw [scanF_ok G _ _ (by rw [hs, List.length_append, List.length_cons]; omega) (by rw [hs, List.drop_zero]; exact hr), hs, List.drop_zero]
      simp only [Nat.add_zero]
      rw [List.drop_left, show (32 :: pieces r : List UInt8) = [32] ++ pieces r from rfl, scan_gap (gap_blank b32 gap_nil)]
      simp only [List.length_cons, List.length_nil, Nat.zero_add]
      rw [i1]
      rfl
    · simp only [List.map_cons, i2, three]
theorem join_pieces : ∀ ts : List ATok, joinL ts = pieces (ts.map fun t => ([], t))
  | [] => rfl
  | t :: r => by
    have := join_pieces r
    unfold joinL at this ⊢
    rw [List.flatMap_cons, this, List.map_cons, pieces, List.nil_append, List.append_assoc, List.singleton_append]
theorem scan_join (ts : List ATok) (h : ts.all okT = true) (hn : ∀ t ∈ ts, -9223372036854775808 ≤ t.num ∧ t.num ≤ 9223372036854775807) (hl : (joinL ts).length ≤ 16384) :
    ∃ ms, scanAll (joinL ts) = .ok ms ∧ ms.map three = ts.map nameT := by
  unfold scanAll
  rw [if_neg (by omega), join_pieces]
  rw [join_pieces] at hl
  obtain ⟨ms, a, b⟩ := scan_pieces (ts.map fun t => ([], t)) _ 0 (fun p hp => by
    obtain ⟨t, ht, rfl⟩ := List.mem_map.1 hp
    exact ⟨gap_nil, List.all_eq_true.1 h t ht, hn t ht⟩) (Nat.lt_succ_self _)
  exact ⟨ms, a, by rw [b, List.map_map]; rfl⟩

/-! ### which texts are signs, and words -/
theorem just_sign (l : List UInt8) : justT l 5 = signB l := by
  apply Bool.eq_iff_iff.2
  constructor
  · intro h
    unfold justT at h
    cases e : readT l with
    | error er => rw [e] at h; cases h
    | ok t =>
      rw [e] at h
      simp only [Bool.and_eq_true, decide_eq_true_eq] at h
      obtain ⟨h1, _⟩ := readT_one e
      cases l with
      | nil => cases h1
      | cons c r =>
        unfold one at h1
        simp only at h1
        split at h1
        · cases h1; simp only at h; split at h <;> omega
        · split at h1
          · cases h1; simp at h
          · split at h1
            · cases h1; simp at h
            · split at h1
              · split at h1
                · cases h1; simp at h
                · cases h1
              · split at h1
                · rename_i _ hh
                  cases h1
                  obtain ⟨q1, q2⟩ := hh
                  cases r with
                  | nil => exact absurd q2 (by decide)
                  | cons d r =>
                    simp only [List.length_cons] at h
                    have : r = [] := List.eq_nil_of_length_eq_zero (by omega)
                    subst this
                    have e1 : c = 45 := UInt8.toNat.inj q1
                    have e2 : d = 62 := UInt8.toNat.inj q2
                    subst e1 e2
                    rfl
                · split at h1
                  · rename_i hg
                    cases h1
                    simp only [List.length_cons] at h
                    have : r = [] := List.eq_nil_of_length_eq_zero (by omega)
                    subst this
                    rw [signB_one]
                    exact hg
                  · cases h1
  · intro h
    simp only [signB, Bool.or_eq_true, beq_iff_eq] at h
    rcases h with ((((((rfl | rfl) | rfl) | rfl) | rfl) | rfl) | rfl) | rfl <;> rfl
theorem just_resv (l : List UInt8) : justT l 6 = resv l := by
  apply Bool.eq_iff_iff.2
  constructor
  · intro h
    unfold justT at h
    cases e : readT l with
    | error er => rw [e] at h; cases h
    | ok t =>
      rw [e] at h
      simp only [Bool.and_eq_true, decide_eq_true_eq] at h
      obtain ⟨h1, _⟩ := readT_one e
      obtain ⟨q1, _⟩ := readT_full e h.2 (by omega)
      cases l with
      | nil => cases h1
      | cons c r =>
        unfold one at h1
        simp only at h1
        split at h1
        · cases h1
          simp only at h q1
          rw [q1] at h
          split at h
          · assumption
          · omega
        · split at h1
          · cases h1; simp at h
          · split at h1
            · cases h1; simp at h
            · split at h1
              · split at h1
                · cases h1; simp at h
                · cases h1
              · split at h1
                · cases h1; simp at h
                · split at h1
                  · cases h1; simp at h
                  · cases h1
  · intro h
    simp only [resv, Bool.or_eq_true, beq_iff_eq] at h
    rcases h with (((rfl | rfl) | rfl) | rfl) | rfl <;> rfl
end Go.Proofs.YtcbdolflgpmaoaaDoor

