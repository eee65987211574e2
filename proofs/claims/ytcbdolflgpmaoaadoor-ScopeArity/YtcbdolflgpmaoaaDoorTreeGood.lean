/- Scanning from a place within a text on: of no program. -/
import Derived.Test.YtcbdolflgpmaoaaDoorPure
import Derived.Test.YtcbdolflgpmaoaaDoorTree
namespace Go.Proofs.YtcbdolflgpmaoaaDoor

theorem skip_idem : ∀ (b : Bool) (l : List UInt8), skipN false (l.drop (skipN b l)) = 0
  | true, [] => rfl
  | false, [] => rfl
  | true, c :: r => by
    rw [skipN]
    split
    · rw [List.drop_succ_cons]; exact skip_idem false r
    · rw [List.drop_succ_cons]; exact skip_idem true r
  | false, c :: r => by
    by_cases h1 : bl c.toNat = true
    · rw [skipN, if_pos h1, List.drop_succ_cons]; exact skip_idem false r
    · by_cases h2 : c.toNat = 45 ∧ (r.head?.map (·.toNat)) = some 45
      · rw [skipN, if_neg h1, if_pos h2, List.drop_succ_cons]; exact skip_idem true r
      · have : skipN false (c :: r) = 0 := by rw [skipN, if_neg h1, if_neg h2]
        rw [this, List.drop_zero, this]

theorem scanF_end (f : Nat) (l : List UInt8) (a : Nat) (h : ¬ skipN false l < l.length) : scanF f l a = .ok [] := by
  cases f with
  | zero => rfl
  | succ f => rw [scanF]; simp only [h, if_false]
theorem scanF_err (f : Nat) (l : List UInt8) (a : Nat) (h : skipN false l < l.length) {e : Int} (hr : readT (l.drop (skipN false l)) = .error e) : scanF (f + 1) l a = .error (a + skipN false l, e) := by
  rw [scanF]; simp only [h, if_true, hr]
theorem scanF_ok (f : Nat) (l : List UInt8) (a : Nat) (h : skipN false l < l.length) {t : Tk} (hr : readT (l.drop (skipN false l)) = .ok t) :
    scanF (f + 1) l a = ahead [⟨t.kind, t.text, t.num, a + skipN false l⟩] (scanF f ((l.drop (skipN false l)).drop t.len) (a + skipN false l + t.len)) := by
  rw [scanF]; simp only [h, if_true, hr]
  cases scanF f ((l.drop (skipN false l)).drop t.len) (a + skipN false l + t.len) <;> rfl

theorem from_more (l : List UInt8) (i f : Nat) (h : (l.drop i).length < f) : scanF f (l.drop i) i = from' l i :=
  scanF_more _ _ _ _ h (by simp only [List.length_drop]; omega)
theorem from_end (l : List UInt8) (i : Nat) (h : l.length ≤ i) : from' l i = .ok [] := by
  unfold from'
  rw [List.drop_eq_nil_of_le h]
  exact scanF_end _ _ _ (by simp)
/-- blanks ahead change nothing -/
theorem from_skip (l : List UInt8) (i : Nat) : from' l (i + skipN false (l.drop i)) = from' l i := by
  have hle := skipN_le false (l.drop i)
  have hd : l.drop (i + skipN false (l.drop i)) = (l.drop i).drop (skipN false (l.drop i)) := by rw [List.drop_drop]
  have h0 : skipN false (l.drop (i + skipN false (l.drop i))) = 0 := by rw [hd]; exact skip_idem false _
  by_cases h : skipN false (l.drop i) < (l.drop i).length
  · have h' : skipN false (l.drop (i + skipN false (l.drop i))) < (l.drop (i + skipN false (l.drop i))).length := by
      rw [h0, hd]; simp only [List.length_drop] at h ⊢; omega
    unfold from'
    cases e : readT ((l.drop i).drop (skipN false (l.drop i))) with
    | error er =>
      rw [scanF_err _ _ _ h e, scanF_err _ _ _ h' (e := er) (by rw [h0, hd, List.drop_zero]; exact e), h0]
      rfl
    | ok t =>
      rw [scanF_ok _ _ _ h e, scanF_ok _ _ _ h' (t := t) (by rw [h0, hd, List.drop_zero]; exact e), h0, hd]
      rfl
  · have h' : ¬ skipN false (l.drop (i + skipN false (l.drop i))) < (l.drop (i + skipN false (l.drop i))).length := by
      rw [h0, hd]; simp only [List.length_drop] at h ⊢; omega
    unfold from'
    rw [scanF_end _ _ _ h, scanF_end _ _ _ h']
theorem from_err (l : List UInt8) (i : Nat) (h : i < l.length) (h0 : skipN false (l.drop i) = 0) {e : Int} (hr : readT (l.drop i) = .error e) : from' l i = .error (i, e) := by
  unfold from'
  rw [scanF_err _ _ _ (by rw [h0]; simp only [List.length_drop]; omega) (e := e) (by rw [h0, List.drop_zero]; exact hr), h0]
  rfl
theorem from_ok (l : List UInt8) (i : Nat) (h : i < l.length) (h0 : skipN false (l.drop i) = 0) {t : Tk} (hr : readT (l.drop i) = .ok t) :
    from' l i = ahead [⟨t.kind, t.text, t.num, i⟩] (from' l (i + t.len)) := by
  unfold from'
  have hl := readT_len hr
  rw [scanF_ok _ _ _ (by rw [h0]; simp only [List.length_drop]; omega) (t := t) (by rw [h0, List.drop_zero]; exact hr), h0, List.drop_zero, List.drop_drop]
  rw [show i + 0 = i from rfl, scanF_more l.length (l.length + 1) (l.drop (i + t.len)) (i + t.len) (by simp only [List.length_drop]; omega) (by simp only [List.length_drop]; omega)]
theorem scanAll_from (l : List UInt8) (h : l.length ≤ 16384) : scanAll l = from' l 0 := by
  unfold scanAll from'
  rw [if_neg (by omega), List.drop_zero]
end Go.Proofs.YtcbdolflgpmaoaaDoor

/- Layer 6: what tokens of a text are like: numbers have no text, no word but a reserved one has a reserved one's text: of no program. -/
namespace Go.Proofs.YtcbdolflgpmaoaaDoor

/-- a text with which a sign or a reserved word stands in the grammar -/
def isMark (s : List UInt8) : Bool :=
  resv s || match s with
    | [] => false
    | c :: _ => !(sm c.toNat) && !(gr c.toNat) && !(decide (c.toNat = 35))
structure GoodK (kind : Int) (text : List UInt8) (num : Int) : Prop where
  int : kind = 4 → text = []
  name : kind = 1 → num = 0
  mark : isMark text = true → kind = 5 ∨ kind = 6
  lo : -9223372036854775808 ≤ num
  hi : num ≤ 9223372036854775807
  kd : 1 ≤ kind ∧ kind ≤ 6
theorem numOf_bounds {t : List UInt8} {v : Int} (h : numOf t = some v) : -9223372036854775808 ≤ v ∧ v ≤ 9223372036854775807 := by
  unfold numOf at h
  split at h
  · rename_i v' e
    cases h
    unfold Lib.parseIntB at e
    simp only at e
    split at e
    · cases e
    · split at e
      · cases e
      · cases e
      · split at e
        · cases e
        · split at e
          · cases e
          · rename_i h1 h2
            cases e
            split <;> (simp_all; try omega)
  · cases h
theorem take_head {c : UInt8} {r : List UInt8} {n : Nat} (h : 0 < n) : ∃ q, (c :: r).take n = c :: q := by
  cases n with
  | zero => omega
  | succ n => exact ⟨r.take n, rfl⟩
theorem one_good {l : List UInt8} {t : Tk} (h : one l = .ok t) : GoodK t.kind t.text t.num := by
  cases l with
  | nil => cases h
  | cons c r =>
    unfold one at h
    simp only at h
    split at h
    · rename_i hs
      cases h
      have hn : 0 < runN rn (c :: r) := by
        have : rn c.toNat = true := by simp only [sm, rn, decide_eq_true_eq] at hs ⊢; exact .inl hs
        simp only [runN, this, if_true]; omega
      obtain ⟨q, e⟩ := take_head (c := c) (r := r) hn
      simp only [e]
      refine ⟨fun z => ?_, fun _ => rfl, fun z => ?_, by omega, by omega, by split <;> omega⟩
      · split at z <;> omega
      · simp only [isMark, hs, Bool.not_true, Bool.false_and, Bool.or_false] at z
        rw [if_pos z]
        exact .inr rfl
    · split at h
      · rename_i hs
        cases h
        have hn : 0 < runN rn (c :: r) := by
          have : rn c.toNat = true := by simp only [gr, rn, decide_eq_true_eq] at hs ⊢; exact .inr (.inl hs)
          simp only [runN, this, if_true]; omega
        obtain ⟨q, e⟩ := take_head (c := c) (r := r) hn
        simp only [e]
        refine ⟨fun z => by omega, fun _ => rfl, fun z => ?_, by omega, by omega, by omega⟩
        simp only [isMark, hs, Bool.not_true, Bool.and_false, Bool.false_and, Bool.or_false] at z
        exfalso
        simp only [resv, Bool.or_eq_true, beq_iff_eq, List.cons.injEq] at z
        simp only [gr, decide_eq_true_eq] at hs
        rcases z with (((⟨rfl, _⟩ | ⟨rfl, _⟩) | ⟨rfl, _⟩) | ⟨rfl, _⟩) | ⟨rfl, _⟩ <;> exact absurd hs (by decide)
      · split at h
        · rename_i hs
          cases h
          obtain ⟨q, e⟩ := take_head (c := c) (r := r) (Nat.succ_pos (runN rn r))
          simp only [e]
          refine ⟨fun z => by omega, fun _ => rfl, fun z => ?_, by omega, by omega, by omega⟩
          simp only [isMark, hs.1, decide_true, Bool.not_true, Bool.and_false, Bool.or_false] at z
          exfalso
          have hs := hs.1
          simp only [resv, Bool.or_eq_true, beq_iff_eq, List.cons.injEq] at z
          rcases z with (((⟨rfl, _⟩ | ⟨rfl, _⟩) | ⟨rfl, _⟩) | ⟨rfl, _⟩) | ⟨rfl, _⟩ <;> exact absurd hs (by decide)
        · split at h
          · split at h
            · rename_i v hv
              cases h
              have := numOf_bounds hv
              exact ⟨fun _ => rfl, fun z => by simp at z, fun z => by simp [isMark, resv] at z, this.1, this.2, by simp⟩
            · cases h
          · split at h
            · cases h; exact ⟨fun z => by simp at z, fun z => by simp at z, fun _ => .inl rfl, by simp, by simp, by simp⟩
            · split at h
              · cases h; exact ⟨fun z => by simp at z, fun z => by simp at z, fun _ => .inl rfl, by simp, by simp, by simp⟩
              · cases h
def Good (l : List Tok) : Prop := ∀ t ∈ l, GoodK t.kind t.text t.num
theorem scanF_good : ∀ f l a ts, scanF f l a = .ok ts → Good ts
  | 0, _, _, _, h => by cases h; exact fun t ht => by cases ht
  | f + 1, l, a, ts, h => by
    by_cases hk : skipN false l < l.length
    · rcases hr : readT (l.drop (skipN false l)) with e | t
      · rw [scanF_err _ _ _ hk hr] at h; cases h
      · rw [scanF_ok _ _ _ hk hr] at h
        rcases hq : scanF f ((l.drop (skipN false l)).drop t.len) (a + skipN false l + t.len) with e | us
        · rw [hq] at h; cases h
        · rw [hq] at h
          cases h
          have ih := scanF_good f _ _ _ hq
          intro u hu
          rcases List.mem_append.1 hu with z | z
          · rw [List.mem_singleton] at z; subst z; exact one_good (readT_one hr).1
          · exact ih u z
    · rw [scanF_end _ _ _ hk] at h
      cases h
      exact fun t ht => by cases ht
theorem scan_good {l : List UInt8} {ts : List Tok} (h : scanAll l = .ok ts) : Good ts := by
  unfold scanAll at h
  split at h
  · cases h
  · exact scanF_good _ _ _ _ h
theorem Good.tail {t : Tok} {l : List Tok} (h : Good (t :: l)) : Good l := fun u hu => h u (List.mem_cons_of_mem _ hu)
theorem Good.head {t : Tok} {l : List Tok} (h : Good (t :: l)) : GoodK t.kind t.text t.num := h t (List.mem_cons_self ..)
/-- the first token's text says whether a sign or a word stands there -/
theorem Good.stands {t : Tok} {l : List Tok} (h : Good (t :: l)) {s : List UInt8} (hs : isMark s = true) : isS s (t :: l) = decide (t.text = s) := by
  unfold isS
  by_cases e : t.text = s
  · subst e
    rcases h.head.mark hs with z | z <;> simp [z]
  · simp [e]
/-! what is left of good tokens is good -/
theorem good_suffix {l r : List Tok} (h : Good l) (k : Nat) (e : r = l.drop k) : Good r := by
  subst e
  exact fun t ht => h t (List.mem_of_mem_drop ht)

end Go.Proofs.YtcbdolflgpmaoaaDoor
