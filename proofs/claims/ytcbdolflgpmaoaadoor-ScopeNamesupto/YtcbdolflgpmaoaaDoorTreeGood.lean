/- Layer 6: what tokens of a text are like: numbers have no text, no word but a reserved one has a reserved one's text: of no program. -/
import Derived.Test.YtcbdolflgpmaoaaDoorTree
import Derived.Test.YtcbdolflgpmaoaaDoorFroms
namespace Go.Proofs.YtcbdolflgpmaoaaDoor

/-- a text with which a sign or a reserved word stands in the grammar -/
def isMark (s : List UInt8) : Bool :=
  resv s || match s with
    | [] => false
    | c :: _ => !(sm c.toNat) && !(gr c.toNat) && !(decide (c.toNat = 35))
structure GoodK (kind : Int) (text : List UInt8) (num : Int) : Prop where
  int : kind = 4 → text = []
  name : kind = 1 → num = 0
  mark : isMark text = true → kind = 5 ∨ kind = 6
  lo : -9223372036854775808 ≤ num
  hi : num ≤ 9223372036854775807
  kd : 1 ≤ kind ∧ kind ≤ 6
theorem numOf_bounds {t : List UInt8} {v : Int} (h : numOf t = some v) : -9223372036854775808 ≤ v ∧ v ≤ 9223372036854775807 := by
  unfold numOf at h
  split at h
  · rename_i v' e
    cases h
    unfold Lib.parseIntB at e
    simp only at e
    split at e
    · cases e
    · split at e
      · cases e
      · cases e
      · split at e
        · cases e
        · split at e
          · cases e
          · rename_i h1 h2
            cases e
            split <;> (simp_all; try omega)
  · cases h
theorem take_head {c : UInt8} {r : List UInt8} {n : Nat} (h : 0 < n) : ∃ q, (c :: r).take n = c :: q := by
  cases n with
  | zero => omega
  | succ n => exact ⟨r.take n, rfl⟩
theorem one_good {l : List UInt8} {t : Tk} (h : one l = .ok t) : GoodK t.kind t.text t.num := by
  cases l with
  | nil => cases h
  | cons c r =>
    unfold one at h
    simp only at h
    split at h
    · rename_i hs
      cases h
      have hn : 0 < runN rn (c :: r) := by
        have : rn c.toNat = true := by simp only [sm, rn, decide_eq_true_eq] at hs ⊢; exact .inl hs
        simp only [runN, this, if_true]; omega
      obtain ⟨q, e⟩ := take_head (c := c) (r := r) hn
      simp only [e]
      refine ⟨fun z => ?_, fun _ => rfl, fun z => ?_, by omega, by omega, by split <;> omega⟩
      · split at z <;> omega
      · simp only [isMark, hs, Bool.not_true, Bool.false_and, Bool.or_false] at z
        rw [if_pos z]
        exact .inr rfl
    · split at h
      · rename_i hs
        cases h
        have hn : 0 < runN rn (c :: r) := by
          have : rn c.toNat = true := by simp only [gr, rn, decide_eq_true_eq] at hs ⊢; exact .inr (.inl hs)
          simp only [runN, this, if_true]; omega
        obtain ⟨q, e⟩ := take_head (c := c) (r := r) hn
        simp only [e]
        refine ⟨fun z => by omega, fun _ => rfl, fun z => ?_, by omega, by omega, by omega⟩
        simp only [isMark, hs, Bool.not_true, Bool.and_false, Bool.false_and, Bool.or_false] at z
        exfalso
        simp only [resv, Bool.or_eq_true, beq_iff_eq, List.cons.injEq] at z
        simp only [gr, decide_eq_true_eq] at hs
        rcases z with (((⟨rfl, _⟩ | ⟨rfl, _⟩) | ⟨rfl, _⟩) | ⟨rfl, _⟩) | ⟨rfl, _⟩ <;> exact absurd hs (by decide)
      · split at h
        · rename_i hs
          cases h
          obtain ⟨q, e⟩ := take_head (c := c) (r := r) (Nat.succ_pos (runN rn r))
          simp only [e]
          refine ⟨fun z => by omega, fun _ => rfl, fun z => ?_, by omega, by omega, by omega⟩
          simp only [isMark, hs.1, decide_true, Bool.not_true, Bool.and_false, Bool.or_false] at z
          exfalso
          have hs := hs.1
          simp only [resv, Bool.or_eq_true, beq_iff_eq, List.cons.injEq] at z
          rcases z with (((⟨rfl, _⟩ | ⟨rfl, _⟩) | ⟨rfl, _⟩) | ⟨rfl, _⟩) | ⟨rfl, _⟩ <;> exact absurd hs (by decide)
        · split at h
          · split at h
            · rename_i v hv
              cases h
              have := numOf_bounds hv
              exact ⟨fun _ => rfl, fun z => by simp at z, fun z => by simp [isMark, resv] at z, this.1, this.2, by simp⟩
            · cases h
          · split at h
            · cases h; exact ⟨fun z => by simp at z, fun z => by simp at z, fun _ => .inl rfl, by simp, by simp, by simp⟩
            · split at h
              · cases h; exact ⟨fun z => by simp at z, fun z => by simp at z, fun _ => .inl rfl, by simp, by simp, by simp⟩
              · cases h
def Good (l : List Tok) : Prop := ∀ t ∈ l, GoodK t.kind t.text t.num
theorem scanF_good : ∀ f l a ts, scanF f l a = .ok ts → Good ts
  | 0, _, _, _, h => by cases h; exact fun t ht => by cases ht
  | f + 1, l, a, ts, h => by
    by_cases hk : skipN false l < l.length
    · rcases hr : readT (l.drop (skipN false l)) with e | t
      · rw [scanF_err _ _ _ hk hr] at h; cases h
      · rw [scanF_ok _ _ _ hk hr] at h
        rcases hq : scanF f ((l.drop (skipN false l)).drop t.len) (a + skipN false l + t.len) with e | us
        · rw [hq] at h; cases h
        · rw [hq] at h
          cases h
          have ih := scanF_good f _ _ _ hq
          intro u hu
          rcases List.mem_append.1 hu with z | z
          · rw [List.mem_singleton] at z; subst z; exact one_good (readT_one hr).1
          · exact ih u z
    · rw [scanF_end _ _ _ hk] at h
      cases h
      exact fun t ht => by cases ht
theorem scan_good {l : List UInt8} {ts : List Tok} (h : scanAll l = .ok ts) : Good ts := by
  unfold scanAll at h
  split at h
  · cases h
  · exact scanF_good _ _ _ _ h
theorem Good.tail {t : Tok} {l : List Tok} (h : Good (t :: l)) : Good l := fun u hu => h u (List.mem_cons_of_mem _ hu)
theorem Good.head {t : Tok} {l : List Tok} (h : Good (t :: l)) : GoodK t.kind t.text t.num := h t (List.mem_cons_self ..)
/-- the first token's text says whether a sign or a word stands there -/
theorem Good.stands {t : Tok} {l : List Tok} (h : Good (t :: l)) {s : List UInt8} (hs : isMark s = true) : isS s (t :: l) = decide (t.text = s) := by
  unfold isS
  by_cases e : t.text = s
  · subst e
    rcases h.head.mark hs with z | z <;> simp [z]
  · simp [e]
/-! what is left of good tokens is good -/
theorem good_suffix {l r : List Tok} (h : Good l) (k : Nat) (e : r = l.drop k) : Good r := by
  subst e
  exact fun t ht => h t (List.mem_of_mem_drop ht)

end Go.Proofs.YtcbdolflgpmaoaaDoor
