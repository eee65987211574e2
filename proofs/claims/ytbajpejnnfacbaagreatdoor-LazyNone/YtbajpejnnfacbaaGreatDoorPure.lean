/- Layer 5 (lex): what a text's tokens are, as functions of lists of bytes: the plain side of the proofs, of no program. -/
import Derived.Lib.ParseIntB
namespace Go.Proofs.YtbajpejnnfacbaaGreatDoor

/-- small letters, great letters, digits, what a run is made of, blanks: by a byte's number -/
def sm (n : Int) : Bool := decide (97 ≤ n ∧ n ≤ 122)
def gr (n : Int) : Bool := decide (65 ≤ n ∧ n ≤ 90)
def dg (n : Int) : Bool := decide (48 ≤ n ∧ n ≤ 57)
def rn (n : Int) : Bool := decide ((97 ≤ n ∧ n ≤ 122) ∨ (65 ≤ n ∧ n ≤ 90) ∨ (48 ≤ n ∧ n ≤ 57) ∨ n = 95)
def bl (n : Int) : Bool := decide (n = 9 ∨ n = 10 ∨ n = 13 ∨ n = 32)
def sg (n : Int) : Bool := decide (n = 61 ∨ n = 92 ∨ n = 123 ∨ n = 125 ∨ n = 59 ∨ n = 40 ∨ n = 41)

/-- how many bytes of a kind a list begins with -/
def runN (p : Int → Bool) : List UInt8 → Nat
  | [] => 0
  | c :: r => if p c.toNat then runN p r + 1 else 0

/-- how many bytes blanks and remarks have at a list's beginning; 'true': within a remark -/
def skipN : Bool → List UInt8 → Nat
  | _, [] => 0
  | true, c :: r => if c.toNat = 10 then skipN false r + 1 else skipN true r + 1
  | false, c :: r =>
    if bl c.toNat then skipN false r + 1
    else if c.toNat = 45 ∧ (r.head?.map (·.toNat)) = some 45 then skipN true r + 1 else 0

/-- the five words -/
def resv (t : List UInt8) : Bool :=
  t == [108, 101, 116] || t == [105, 110] || t == [99, 97, 115, 101] || t == [111, 102] || t == [100, 97, 116, 97]

/-- the number that digits spell, with a sign perhaps; none: beyond 64 bits -/
def numOf (t : List UInt8) : Option Int :=
  match Lib.parseIntB 64 t with
  | .ok v => some v
  | _ => none

/-- a token, without its place -/
structure Tk where
  kind : Int
  text : List UInt8
  num : Int
  len : Nat

/-- the byte behind the first one; 0 at the end -/
def nxt : List UInt8 → Nat
  | [] => 0
  | c :: _ => c.toNat

/-- the token that a list begins with, whatever its length; none: ErrToken, or ErrNumber -/
def one (l : List UInt8) : Except Int Tk :=
  match l with
  | [] => .error 20
  | c :: r =>
    if sm c.toNat then
      let t := l.take (runN rn l)
      .ok ⟨if resv t then 6 else 1, t, 0, runN rn l⟩
    else if gr c.toNat then .ok ⟨2, l.take (runN rn l), 0, runN rn l⟩
    else if c.toNat = 35 ∧ sm (nxt r) = true then .ok ⟨3, l.take (runN rn r + 1), 0, runN rn r + 1⟩
    else if dg c.toNat = true ∨ (c.toNat = 45 ∧ dg (nxt r) = true) then
      match numOf (l.take (runN dg r + 1)) with
      | some v => .ok ⟨4, [], v, runN dg r + 1⟩
      | none => .error 22
    else if c.toNat = 45 ∧ nxt r = 62 then .ok ⟨5, [45, 62], 0, 2⟩
    else if sg c.toNat then .ok ⟨5, [c], 0, 1⟩
    else .error 20

/-- .. and not too long -/
def readT (l : List UInt8) : Except Int Tk :=
  match one l with
  | .ok t => if 32 < t.text.length then .error 21 else .ok t
  | .error e => .error e

/-- a token at its place -/
structure Tok where
  kind : Int
  text : List UInt8
  num : Int
  at' : Nat

/-- all tokens of a list that begins at a place; or the first fault, and where -/
def scanF : Nat → List UInt8 → Nat → Except (Nat × Int) (List Tok)
  | 0, _, _ => .ok []
  | f + 1, l, at' =>
    let k := skipN false l
    if k < l.length then
      match readT (l.drop k) with
      | .error e => .error (at' + k, e)
      | .ok t =>
        match scanF f ((l.drop k).drop t.len) (at' + k + t.len) with
        | .ok ts => .ok (⟨t.kind, t.text, t.num, at' + k⟩ :: ts)
        | .error e => .error e
    else .ok []

def scanAll (l : List UInt8) : Except (Nat × Int) (List Tok) :=
  if 16384 < l.length then .error (0, 3) else scanF (l.length + 1) l 0

theorem runN_le (p : Int → Bool) : ∀ l, runN p l ≤ l.length
  | [] => Nat.le_refl _
  | c :: r => by
    unfold runN
    split
    · have := runN_le p r; simp only [List.length_cons]; omega
    · exact Nat.zero_le _

theorem skipN_le : ∀ b l, skipN b l ≤ l.length
  | _, [] => by cases ‹Bool› <;> exact Nat.le_refl _
  | true, c :: r => by
    unfold skipN
    have h1 := skipN_le true r; have h2 := skipN_le false r
    split <;> simp only [List.length_cons] <;> omega
  | false, c :: r => by
    unfold skipN
    have h1 := skipN_le true r; have h2 := skipN_le false r
    split
    · simp only [List.length_cons]; omega
    · split <;> simp only [List.length_cons] <;> omega

theorem one_len {l : List UInt8} {t : Tk} (h : one l = .ok t) : 0 < t.len ∧ t.len ≤ l.length := by
  cases l with
  | nil => cases h
  | cons c r =>
    have hr := runN_le rn r
    have hrd := runN_le dg r
    have hl := runN_le rn (c :: r)
    unfold one at h
    simp only at h
    split at h
    · rename_i hs
      cases h
      refine ⟨?_, hl⟩
      have : rn c.toNat = true := by simp only [sm, rn, decide_eq_true_eq] at hs ⊢; exact .inl hs
      simp only [runN, this, if_true]; omega
    · split at h
      · rename_i hs
        cases h
        refine ⟨?_, hl⟩
        have : rn c.toNat = true := by simp only [gr, rn, decide_eq_true_eq] at hs ⊢; exact .inr (.inl hs)
        simp only [runN, this, if_true]; omega
      · split at h
        · cases h; simp only [List.length_cons]; omega
        · split at h
          · split at h
            · cases h; simp only [List.length_cons]; omega
            · cases h
          · split at h
            · rename_i _ hh
              cases h
              cases r with
              | nil => exact absurd hh.2 (by decide)
              | cons d r => simp only [List.length_cons]; omega
            · split at h
              · cases h; simp only [List.length_cons]; omega
              · cases h

theorem readT_one {l : List UInt8} {t : Tk} (h : readT l = .ok t) : one l = .ok t ∧ t.text.length ≤ 32 := by
  unfold readT at h
  split at h
  · rename_i t' e
    split at h
    · cases h
    · cases h; exact ⟨e, by omega⟩
  · cases h

theorem readT_len {l : List UInt8} {t : Tk} (h : readT l = .ok t) : 0 < t.len ∧ t.len ≤ l.length := one_len (readT_one h).1

/-- more fuel changes nothing -/
theorem scanF_more : ∀ (f g : Nat) (l : List UInt8) (a : Nat), l.length < f → l.length < g → scanF f l a = scanF g l a
  | 0, _, _, _, h, _ => absurd h (Nat.not_lt_zero _)
  | _ + 1, 0, _, _, _, h => absurd h (Nat.not_lt_zero _)
  | f + 1, g + 1, l, a, hf, hg => by
    unfold scanF
    simp only
    split
    · rename_i hk
      cases e : readT (l.drop (skipN false l)) with
      | error => rfl
      | ok t =>
        have ht := readT_len e
        have hd : ((l.drop (skipN false l)).drop t.len).length < l.length := by
          simp only [List.length_drop]; simp only [List.length_drop] at ht; omega
        simp only
        rw [scanF_more f g _ _ (by omega) (by omega)]
    · rfl

/-- the scan from a place within a text on -/
def from' (l : List UInt8) (i : Nat) : Except (Nat × Int) (List Tok) := scanF (l.length + 1) (l.drop i) i

/-- tokens ahead of what is told -/
def ahead (ts : List Tok) : Except (Nat × Int) (List Tok) → Except (Nat × Int) (List Tok)
  | .ok us => .ok (ts ++ us)
  | .error e => .error e

theorem ahead_nil (x) : ahead [] x = x := by cases x <;> rfl
theorem ahead_ahead (a b x) : ahead a (ahead b x) = ahead (a ++ b) x := by cases x <;> simp [ahead]

end Go.Proofs.YtbajpejnnfacbaaGreatDoor
