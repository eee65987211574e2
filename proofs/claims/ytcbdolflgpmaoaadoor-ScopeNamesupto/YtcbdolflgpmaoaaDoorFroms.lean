/- Scanning from a place within a text on: of no program. -/
import Derived.Test.YtcbdolflgpmaoaaDoorPure
namespace Go.Proofs.YtcbdolflgpmaoaaDoor

theorem skip_idem : ∀ (b : Bool) (l : List UInt8), skipN false (l.drop (skipN b l)) = 0
  | true, [] => rfl
  | false, [] => rfl
  | true, c :: r => by
    rw [skipN]
    split
    · rw [List.drop_succ_cons]; exact skip_idem false r
    · rw [List.drop_succ_cons]; exact skip_idem true r
  | false, c :: r => by
    by_cases h1 : bl c.toNat = true
    · rw [skipN, if_pos h1, List.drop_succ_cons]; exact skip_idem false r
    · by_cases h2 : c.toNat = 45 ∧ (r.head?.map (·.toNat)) = some 45
      · rw [skipN, if_neg h1, if_pos h2, List.drop_succ_cons]; exact skip_idem true r
      · have : skipN false (c :: r) = 0 := by rw [skipN, if_neg h1, if_neg h2]
        rw [this, List.drop_zero, this]

theorem scanF_end (f : Nat) (l : List UInt8) (a : Nat) (h : ¬ skipN false l < l.length) : scanF f l a = .ok [] := by
  cases f with
  | zero => rfl
  | succ f => rw [scanF]; simp only [h, if_false]
theorem scanF_err (f : Nat) (l : List UInt8) (a : Nat) (h : skipN false l < l.length) {e : Int} (hr : readT (l.drop (skipN false l)) = .error e) : scanF (f + 1) l a = .error (a + skipN false l, e) := by
  rw [scanF]; simp only [h, if_true, hr]
theorem scanF_ok (f : Nat) (l : List UInt8) (a : Nat) (h : skipN false l < l.length) {t : Tk} (hr : readT (l.drop (skipN false l)) = .ok t) :
    scanF (f + 1) l a = ahead [⟨t.kind, t.text, t.num, a + skipN false l⟩] (scanF f ((l.drop (skipN false l)).drop t.len) (a + skipN false l + t.len)) := by
  rw [scanF]; simp only [h, if_true, hr]
  cases scanF f ((l.drop (skipN false l)).drop t.len) (a + skipN false l + t.len) <;> rfl

theorem from_more (l : List UInt8) (i f : Nat) (h : (l.drop i).length < f) : scanF f (l.drop i) i = from' l i :=
  scanF_more _ _ _ _ h (by simp only [List.length_drop]; omega)
theorem from_end (l : List UInt8) (i : Nat) (h : l.length ≤ i) : from' l i = .ok [] := by
  unfold from'
  rw [List.drop_eq_nil_of_le h]
  exact scanF_end _ _ _ (by simp)
/-- blanks ahead change nothing -/
theorem from_skip (l : List UInt8) (i : Nat) : from' l (i + skipN false (l.drop i)) = from' l i := by
  have hle := skipN_le false (l.drop i)
  have hd : l.drop (i + skipN false (l.drop i)) = (l.drop i).drop (skipN false (l.drop i)) := by rw [List.drop_drop]
  have h0 : skipN false (l.drop (i + skipN false (l.drop i))) = 0 := by rw [hd]; exact skip_idem false _
  by_cases h : skipN false (l.drop i) < (l.drop i).length
  · have h' : skipN false (l.drop (i + skipN false (l.drop i))) < (l.drop (i + skipN false (l.drop i))).length := by
      rw [h0, hd]; simp only [List.length_drop] at h ⊢; omega
    unfold from'
    cases e : readT ((l.drop i).drop (skipN false (l.drop i))) with
    | error er =>
      rw [scanF_err _ _ _ h e, scanF_err _ _ _ h' (e := er) (by rw [h0, hd, List.drop_zero]; exact e), h0]
      rfl
    | ok t =>
      rw [scanF_ok _ _ _ h e, scanF_ok _ _ _ h' (t := t) (by rw [h0, hd, List.drop_zero]; exact e), h0, hd]
      rfl
  · have h' : ¬ skipN false (l.drop (i + skipN false (l.drop i))) < (l.drop (i + skipN false (l.drop i))).length := by
      rw [h0, hd]; simp only [List.length_drop] at h ⊢; omega
    unfold from'
    rw [scanF_end _ _ _ h, scanF_end _ _ _ h']
theorem from_err (l : List UInt8) (i : Nat) (h : i < l.length) (h0 : skipN false (l.drop i) = 0) {e : Int} (hr : readT (l.drop i) = .error e) : from' l i = .error (i, e) := by
  unfold from'
  rw [scanF_err _ _ _ (by rw [h0]; simp only [List.length_drop]; omega) (e := e) (by rw [h0, List.drop_zero]; exact hr), h0]
  rfl
theorem from_ok (l : List UInt8) (i : Nat) (h : i < l.length) (h0 : skipN false (l.drop i) = 0) {t : Tk} (hr : readT (l.drop i) = .ok t) :
    from' l i = ahead [⟨t.kind, t.text, t.num, i⟩] (from' l (i + t.len)) := by
  unfold from'
  have hl := readT_len hr
  rw [scanF_ok _ _ _ (by rw [h0]; simp only [List.length_drop]; omega) (t := t) (by rw [h0, List.drop_zero]; exact hr), h0, List.drop_zero, List.drop_drop]
  rw [show i + 0 = i from rfl, scanF_more l.length (l.length + 1) (l.drop (i + t.len)) (i + t.len) (by simp only [List.length_drop]; omega) (by simp only [List.length_drop]; omega)]
theorem scanAll_from (l : List UInt8) (h : l.length ≤ 16384) : scanAll l = from' l 0 := by
  unfold scanAll from'
  rw [if_neg (by omega), List.drop_zero]
end Go.Proofs.YtcbdolflgpmaoaaDoor
