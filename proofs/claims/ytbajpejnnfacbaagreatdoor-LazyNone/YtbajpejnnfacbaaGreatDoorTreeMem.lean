/- Layer 5 (lex): what a text's tokens are, as functions of lists of bytes: the plain side of the proofs, of no program. -/
import Derived.Lib.ParseIntB
import Derived.Test.YtbajpejnnfacbaaGreatDoorProg
import Derived.WalkKit
import Derived.Handy
import Derived.BigQuiet
import Derived.Deep.QuietTactic
import Derived.Below
import Derived.WalkMore
import Derived.Lib.SmallJoins
import Derived.Laws.AppendOwn
namespace Go.Proofs.YtbajpejnnfacbaaGreatDoor

/-- small letters, great letters, digits, what a run is made of, blanks: by a byte's number -/
def sm (n : Int) : Bool := decide (97 ≤ n ∧ n ≤ 122)
def gr (n : Int) : Bool := decide (65 ≤ n ∧ n ≤ 90)
def dg (n : Int) : Bool := decide (48 ≤ n ∧ n ≤ 57)
def rn (n : Int) : Bool := decide ((97 ≤ n ∧ n ≤ 122) ∨ (65 ≤ n ∧ n ≤ 90) ∨ (48 ≤ n ∧ n ≤ 57) ∨ n = 95)
def bl (n : Int) : Bool := decide (n = 9 ∨ n = 10 ∨ n = 13 ∨ n = 32)
def sg (n : Int) : Bool := decide (n = 61 ∨ n = 92 ∨ n = 123 ∨ n = 125 ∨ n = 59 ∨ n = 40 ∨ n = 41)

/-- how many bytes of a kind a list begins with -/
def runN (p : Int → Bool) : List UInt8 → Nat
  | [] => 0
  | c :: r => if p c.toNat then runN p r + 1 else 0

/-- how many bytes blanks and remarks have at a list's beginning; 'true': within a remark -/
def skipN : Bool → List UInt8 → Nat
  | _, [] => 0
  | true, c :: r => if c.toNat = 10 then skipN false r + 1 else skipN true r + 1
  | false, c :: r =>
    if bl c.toNat then skipN false r + 1
    else if c.toNat = 45 ∧ (r.head?.map (·.toNat)) = some 45 then skipN true r + 1 else 0

/-- the five words -/
def resv (t : List UInt8) : Bool :=
  t == [108, 101, 116] || t == [105, 110] || t == [99, 97, 115, 101] || t == [111, 102] || t == [100, 97, 116, 97]

/-- the number that digits spell, with a sign perhaps; none: beyond 64 bits -/
def numOf (t : List UInt8) : Option Int :=
  match Lib.parseIntB 64 t with
  | .ok v => some v
  | _ => none

/-- a token, without its place -/
structure Tk where
  kind : Int
  text : List UInt8
  num : Int
  len : Nat

/-- the byte behind the first one; 0 at the end -/
def nxt : List UInt8 → Nat
  | [] => 0
  | c :: _ => c.toNat

/-- the token that a list begins with, whatever its length; none: ErrToken, or ErrNumber -/
def one (l : List UInt8) : Except Int Tk :=
  match l with
  | [] => .error 20
  | c :: r =>
    if sm c.toNat then
      let t := l.take (runN rn l)
      .ok ⟨if resv t then 6 else 1, t, 0, runN rn l⟩
    else if gr c.toNat then .ok ⟨2, l.take (runN rn l), 0, runN rn l⟩
    else if c.toNat = 35 ∧ sm (nxt r) = true then .ok ⟨3, l.take (runN rn r + 1), 0, runN rn r + 1⟩
    else if dg c.toNat = true ∨ (c.toNat = 45 ∧ dg (nxt r) = true) then
      match numOf (l.take (runN dg r + 1)) with
      | some v => .ok ⟨4, [], v, runN dg r + 1⟩
      | none => .error 22
    else if c.toNat = 45 ∧ nxt r = 62 then .ok ⟨5, [45, 62], 0, 2⟩
    else if sg c.toNat then .ok ⟨5, [c], 0, 1⟩
    else .error 20

/-- .. and not too long -/
def readT (l : List UInt8) : Except Int Tk :=
  match one l with
  | .ok t => if 32 < t.text.length then .error 21 else .ok t
  | .error e => .error e

/-- a token at its place -/
structure Tok where
  kind : Int
  text : List UInt8
  num : Int
  at' : Nat

/-- all tokens of a list that begins at a place; or the first fault, and where -/
def scanF : Nat → List UInt8 → Nat → Except (Nat × Int) (List Tok)
  | 0, _, _ => .ok []
  | f + 1, l, at' =>
    let k := skipN false l
    if k < l.length then
      match readT (l.drop k) with
      | .error e => .error (at' + k, e)
      | .ok t =>
        match scanF f ((l.drop k).drop t.len) (at' + k + t.len) with
        | .ok ts => .ok (⟨t.kind, t.text, t.num, at' + k⟩ :: ts)
        | .error e => .error e
    else .ok []

def scanAll (l : List UInt8) : Except (Nat × Int) (List Tok) :=
  if 16384 < l.length then .error (0, 3) else scanF (l.length + 1) l 0

theorem runN_le (p : Int → Bool) : ∀ l, runN p l ≤ l.length
  | [] => Nat.le_refl _
  | c :: r => by
    unfold runN
    split
    · have := runN_le p r; simp only [List.length_cons]; omega
    · exact Nat.zero_le _

theorem skipN_le : ∀ b l, skipN b l ≤ l.length
  | _, [] => by cases ‹Bool› <;> exact Nat.le_refl _
  | true, c :: r => by
    unfold skipN
    have h1 := skipN_le true r; have h2 := skipN_le false r
    split <;> simp only [List.length_cons] <;> omega
  | false, c :: r => by
    unfold skipN
    have h1 := skipN_le true r; have h2 := skipN_le false r
    split
    · simp only [List.length_cons]; omega
    · split <;> simp only [List.length_cons] <;> omega

theorem one_len {l : List UInt8} {t : Tk} (h : one l = .ok t) : 0 < t.len ∧ t.len ≤ l.length := by
  cases l with
  | nil => cases h
  | cons c r =>
    have hr := runN_le rn r
    have hrd := runN_le dg r
    have hl := runN_le rn (c :: r)
    unfold one at h
    simp only at h
    split at h
    · rename_i hs
      cases h
      refine ⟨?_, hl⟩
      have : rn c.toNat = true := by simp only [sm, rn, decide_eq_true_eq] at hs ⊢; exact .inl hs
      simp only [runN, this, if_true]; omega
    · split at h
      · rename_i hs
        cases h
        refine ⟨?_, hl⟩
        have : rn c.toNat = true := by simp only [gr, rn, decide_eq_true_eq] at hs ⊢; exact .inr (.inl hs)
        simp only [runN, this, if_true]; omega
      · split at h
        · cases h; simp only [List.length_cons]; omega
        · split at h
          · split at h
            · cases h; simp only [List.length_cons]; omega
            · cases h
          · split at h
            · rename_i _ hh
              cases h
              cases r with
              | nil => exact absurd hh.2 (by decide)
              | cons d r => simp only [List.length_cons]; omega
            · split at h
              · cases h; simp only [List.length_cons]; omega
              · cases h

theorem readT_one {l : List UInt8} {t : Tk} (h : readT l = .ok t) : one l = .ok t ∧ t.text.length ≤ 32 := by
  unfold readT at h
  split at h
  · rename_i t' e
    split at h
    · cases h
    · cases h; exact ⟨e, by omega⟩
  · cases h

theorem readT_len {l : List UInt8} {t : Tk} (h : readT l = .ok t) : 0 < t.len ∧ t.len ≤ l.length := one_len (readT_one h).1

/-- more fuel changes nothing -/
theorem scanF_more : ∀ (f g : Nat) (l : List UInt8) (a : Nat), l.length < f → l.length < g → scanF f l a = scanF g l a
  | 0, _, _, _, h, _ => absurd h (Nat.not_lt_zero _)
  | _ + 1, 0, _, _, _, h => absurd h (Nat.not_lt_zero _)
  | f + 1, g + 1, l, a, hf, hg => by
    unfold scanF
    simp only
    split
    · rename_i hk
      cases e : readT (l.drop (skipN false l)) with
      | error => rfl
      | ok t =>
        have ht := readT_len e
        have hd : ((l.drop (skipN false l)).drop t.len).length < l.length := by
          simp only [List.length_drop]; simp only [List.length_drop] at ht; omega
        simp only
        rw [scanF_more f g _ _ (by omega) (by omega)]
    · rfl

/-- the scan from a place within a text on -/
def from' (l : List UInt8) (i : Nat) : Except (Nat × Int) (List Tok) := scanF (l.length + 1) (l.drop i) i

/-- tokens ahead of what is told -/
def ahead (ts : List Tok) : Except (Nat × Int) (List Tok) → Except (Nat × Int) (List Tok)
  | .ok us => .ok (ts ++ us)
  | .error e => .error e

theorem ahead_nil (x) : ahead [] x = x := by cases x <;> rfl
theorem ahead_ahead (a b x) : ahead a (ahead b x) = ahead (a ++ b) x := by cases x <;> simp [ahead]

end Go.Proofs.YtbajpejnnfacbaaGreatDoor

/- The contracts of the functions that look at one byte: package lex's and the document's own. -/
namespace Go.Proofs.YtbajpejnnfacbaaGreatDoor
open Go.RowKit

theorem retInt {k : IntKind} {a b : Int} (h : a = b) : Ending.returned (.int k a) = .returned (.int k b) := by rw [h]
theorem retBool {a b : Bool} (h : a = b) : Ending.returned (.bool a) = .returned (.bool b) := by rw [h]
theorem rn_split (n : Int) : rn n = (sm n || (gr n || (dg n || decide (n = 95)))) := by
  simp only [rn, sm, gr, dg, Bool.decide_or]

end Go.Proofs.YtbajpejnnfacbaaGreatDoor

/- The contracts of the functions that go past bytes of a kind, blanks and remarks. -/
namespace Go.Proofs.YtbajpejnnfacbaaGreatDoor
open Go.RowKit
set_option linter.unusedVariables false

structure Hid (p : Prop) : Prop where
  out : p
def intOf : Value → Int
  | .int _ n => n
  | _ => 0

theorem get_list (s : ByteArray) (k : Nat) (h : k < s.size) : s.data.toList.drop k = s[k]'h :: s.data.toList.drop (k + 1) := by
  have h' : k < s.data.toList.length := by simpa using h
  rw [List.drop_eq_getElem_cons h']
  rfl
theorem run_step (p : Int → Bool) (s : ByteArray) (k : Nat) (h : k < s.size) : runN p (s.data.toList.drop k) = if p ((s[k]'h).toNat) then runN p (s.data.toList.drop (k + 1)) + 1 else 0 := by
  rw [get_list s k h]
  rfl

end Go.Proofs.YtbajpejnnfacbaaGreatDoor

/- Layer 6 (tree), made ready ahead of its landing: what a text's tree is, as functions of lists of tokens: the plain side, of no program. -/
namespace Go.Proofs.YtbajpejnnfacbaaGreatDoor

structure Atm where
  name : List UInt8
  num : Int
mutual
/-- an expression, a bind, an alternative: all fields, whatever the kind -/
inductive E where
  | mk (kind at' : Int) (name : List UInt8) (num : Int) (atoms : List Atm) (binds : List B) (kids : List E) (alts : List A) : E
inductive B where
  | mk (name : List UInt8) (at' : Int) (args : List (List UInt8)) (body : E) : B
inductive A where
  | mk (kind at' : Int) (name : List UInt8) (num : Int) (vars : List (List UInt8)) (body : E) : A
end
structure D where
  name : List UInt8
  arity : Int
  at' : Int
structure Pg where
  datas : List D
  binds : List B

/-- what a part of the grammar answers: a part and the tokens behind it; or the fault and the tokens from there on -/
abbrev PR (α : Type) := Except (Int × List Tok) (α × List Tok)
def andT {α β : Type} (p : PR α) (f : α → List Tok → PR β) : PR β :=
  match p with
  | .ok (a, r) => f a r
  | .error e => .error e
def pKind (k : Int) : List Tok → PR Tok
  | [] => .error (23, [])
  | t :: r => if t.kind = k then .ok (t, r) else .error (23, t :: r)
def isS (s : List UInt8) : List Tok → Bool
  | [] => false
  | t :: _ => (t.kind == 5 || t.kind == 6) && t.text == s
def pWant (s : List UInt8) (l : List Tok) : PR Unit := if isS s l then .ok ((), l.tail) else .error (23, l)
def pNames : List Tok → List (List UInt8) × List Tok
  | [] => ([], [])
  | t :: r => if t.kind = 1 then (t.text :: (pNames r).1, (pNames r).2) else ([], t :: r)
def pAtoms : List Tok → List Atm × List Tok
  | [] => ([], [])
  | t :: r => if t.kind = 1 ∨ t.kind = 4 then (⟨t.text, t.num⟩ :: (pAtoms r).1, (pAtoms r).2) else ([], t :: r)
def pArgs (l : List Tok) : PR (List (List UInt8)) :=
  if isS [92] l then andT (pKind 1 l.tail) fun t r => andT (pWant [45, 62] (pNames r).2) fun _ r2 => .ok (t.text :: (pNames r).1, r2) else .ok ([], l)
def pBind (ex : List Tok → PR E) (l : List Tok) : PR B :=
  andT (pKind 1 l) fun t r => andT (pWant [61] r) fun _ r => andT (pArgs r) fun as r => andT (ex r) fun x r => andT (pWant [59] r) fun _ r => .ok (.mk t.text t.at' as x, r)
/-- the beginning of an alternative: its kind, place, name, number, names -/
def pHead : List Tok → PR (Int × Int × List UInt8 × Int × List (List UInt8))
  | [] => .error (23, [])
  | t :: r =>
    if t.kind = 2 then .ok ((1, t.at', t.text, 0, (pNames r).1), (pNames r).2)
    else if t.kind = 4 then .ok ((2, t.at', [], t.num, []), r)
    else if t.kind = 1 then .ok ((3, t.at', t.text, 0, []), r)
    else .error (23, t :: r)
def pAlt (ex : List Tok → PR E) (l : List Tok) : PR A :=
  andT (pHead l) fun h r => andT (pWant [45, 62] r) fun _ r => andT (ex r) fun x r => andT (pWant [59] r) fun _ r => .ok (.mk h.1 h.2.1 h.2.2.1 h.2.2.2.1 h.2.2.2.2 x, r)
/-- one or more, and the brace behind them -/
def manyF {α : Type} (one : List Tok → PR α) : Nat → List Tok → PR (List α)
  | 0, l => .error (23, l)
  | n + 1, l => andT (one l) fun x r => if isS [125] r then .ok ([x], r.tail) else andT (manyF one n r) fun xs r => .ok (x :: xs, r)
def many {α : Type} (one : List Tok → PR α) (l : List Tok) : PR (List α) := manyF one (l.length + 1) l
/-- an expression; the number: how much deeper it may go -/
def pExp : Nat → List Tok → PR E
  | 0, [] => .error (23, [])
  | 0, t :: r => .error (24, t :: r)
  | _ + 1, [] => .error (23, [])
  | d + 1, t :: r =>
    if t.kind = 4 then .ok (.mk 4 t.at' [] t.num [] [] [] [], r)
    else if t.kind = 1 ∨ t.kind = 2 ∨ t.kind = 3 then .ok (.mk t.kind t.at' t.text 0 (pAtoms r).1 [] [] [], (pAtoms r).2)
    else if isS [108, 101, 116] (t :: r) then
      andT (pWant [123] r) fun _ r => andT (many (pBind (pExp d)) r) fun bs r => andT (pWant [105, 110] r) fun _ r => andT (pExp d r) fun x r => .ok (.mk 5 t.at' [] 0 [] bs [x] [], r)
    else if isS [99, 97, 115, 101] (t :: r) then
      andT (pExp d r) fun x r => andT (pWant [111, 102] r) fun _ r => andT (pWant [123] r) fun _ r => andT (many (pAlt (pExp d)) r) fun as r => .ok (.mk 6 t.at' [] 0 [] [] [x] as, r)
    else if isS [40] (t :: r) then andT (pExp d r) fun x r => andT (pWant [41] r) fun _ r => .ok (x, r)
    else .error (23, t :: r)
def pData (l : List Tok) : PR D :=
  andT (pKind 2 l) fun c r => andT (pKind 4 r) fun n r => andT (pWant [59] r) fun _ r => .ok (⟨c.text, n.num, c.at'⟩, r)
def pDatas : Nat → List Tok → PR (List D)
  | 0, l => .ok ([], l)
  | n + 1, l => if isS [100, 97, 116, 97] l then andT (pData l.tail) fun d r => andT (pDatas n r) fun ds r => .ok (d :: ds, r) else .ok ([], l)
def pBinds : Nat → List Tok → PR (List B)
  | 0, l => .ok ([], l)
  | _ + 1, [] => .ok ([], [])
  | n + 1, t :: r => andT (pBind (pExp 60) (t :: r)) fun b r => andT (pBinds n r) fun bs r => .ok (b :: bs, r)
def pProg (l : List Tok) : PR Pg :=
  andT (pDatas (l.length + 1) l) fun ds r => andT (pBinds (r.length + 1) r) fun bs r => .ok (⟨ds, bs⟩, r)
/-- the place of what is left: its first token's, or the text's end -/
def placeT (n : Nat) : List Tok → Nat
  | [] => n
  | t :: _ => t.at'
def parseT (s : List UInt8) : Except (Nat × Int) Pg :=
  match scanAll s with
  | .error e => .error e
  | .ok ts =>
    match pProg ts with
    | .ok (p, _) => .ok p
    | .error (e, r) => .error (placeT s.length r, e)

/-! ## What is left is shorter -/
def Eats {α : Type} (p : List Tok → PR α) : Prop := ∀ l a r, p l = .ok (a, r) → r.length < l.length
theorem andT_ok {α β : Type} {p : PR α} {f : α → List Tok → PR β} {b : β} {r : List Tok} (h : andT p f = .ok (b, r)) : ∃ a r1, p = .ok (a, r1) ∧ f a r1 = .ok (b, r) := by
  unfold andT at h
  split at h
  · exact ⟨_, _, rfl, h⟩
  · cases h
theorem pKind_eats {k : Int} {l r : List Tok} {t : Tok} (h : pKind k l = .ok (t, r)) : l = t :: r ∧ t.kind = k := by
  cases l with
  | nil => cases h
  | cons u q =>
    simp only [pKind] at h
    split at h
    · cases h; exact ⟨rfl, by assumption⟩
    · cases h
theorem pWant_eats {s : List UInt8} {l r : List Tok} {u : Unit} (h : pWant s l = .ok (u, r)) : isS s l = true ∧ ∃ t, l = t :: r := by
  unfold pWant at h
  split at h
  · rename_i hs
    cases l with
    | nil => cases hs
    | cons t q => cases h; exact ⟨hs, t, rfl⟩
  · cases h
theorem pNames_le : ∀ l : List Tok, (pNames l).2.length ≤ l.length
  | [] => Nat.le_refl _
  | t :: r => by
    unfold pNames
    have := pNames_le r
    split <;> simp only [List.length_cons] <;> omega
theorem pAtoms_le : ∀ l : List Tok, (pAtoms l).2.length ≤ l.length
  | [] => Nat.le_refl _
  | t :: r => by
    unfold pAtoms
    have := pAtoms_le r
    split <;> simp only [List.length_cons] <;> omega
theorem pArgs_le {l r : List Tok} {as : List (List UInt8)} (h : pArgs l = .ok (as, r)) : r.length ≤ l.length := by
  unfold pArgs at h
  split at h
  · obtain ⟨t, r1, h1, h⟩ := andT_ok h
    obtain ⟨u, r2, h2, h⟩ := andT_ok h
    obtain ⟨e1, _⟩ := pKind_eats h1
    obtain ⟨_, v, e2⟩ := pWant_eats h2
    cases h
    have a := pNames_le r1
    have b := congrArg List.length e1
    have c := congrArg List.length e2
    simp only [List.length_cons, List.length_tail] at b c
    omega
  · cases h; exact Nat.le_refl _
theorem pBind_eats {ex : List Tok → PR E} (he : ∀ l a r, ex l = .ok (a, r) → r.length ≤ l.length) : Eats (pBind ex) := fun l a r h => by
  unfold pBind at h
  obtain ⟨t, r1, h1, h⟩ := andT_ok h
  obtain ⟨_, r2, h2, h⟩ := andT_ok h
  obtain ⟨as, r3, h3, h⟩ := andT_ok h
  obtain ⟨x, r4, h4, h⟩ := andT_ok h
  obtain ⟨_, r5, h5, h⟩ := andT_ok h
  obtain ⟨e1, _⟩ := pKind_eats h1
  obtain ⟨_, v, e2⟩ := pWant_eats h2
  obtain ⟨_, v', e5⟩ := pWant_eats h5
  have a3 := pArgs_le h3
  have a4 := he _ _ _ h4
  cases h
  subst e1 e2 e5
  simp only [List.length_cons] at *
  omega
theorem pHead_eats {l r : List Tok} {a} (h : pHead l = .ok (a, r)) : r.length < l.length := by
  cases l with
  | nil => cases h
  | cons t q =>
    simp only [pHead] at h
    have := pNames_le q
    split at h
    · cases h; simp only [List.length_cons]; omega
    · split at h
      · cases h; simp only [List.length_cons]; omega
      · split at h
        · cases h; simp only [List.length_cons]; omega
        · cases h
theorem pAlt_eats {ex : List Tok → PR E} (he : ∀ l a r, ex l = .ok (a, r) → r.length ≤ l.length) : Eats (pAlt ex) := fun l a r h => by
  unfold pAlt at h
  obtain ⟨t, r1, h1, h⟩ := andT_ok h
  obtain ⟨_, r2, h2, h⟩ := andT_ok h
  obtain ⟨x, r4, h4, h⟩ := andT_ok h
  obtain ⟨_, r5, h5, h⟩ := andT_ok h
  have a1 := pHead_eats h1
  obtain ⟨_, v, e2⟩ := pWant_eats h2
  obtain ⟨_, v', e5⟩ := pWant_eats h5
  have a4 := he _ _ _ h4
  cases h
  subst e2 e5
  simp only [List.length_cons] at *
  omega
theorem manyF_eats {α : Type} {one : List Tok → PR α} (ho : Eats one) : ∀ n, Eats (manyF one n)
  | 0 => fun l a r h => by cases h
  | n + 1 => fun l a r h => by
    unfold manyF at h
    obtain ⟨x, r1, h1, h⟩ := andT_ok h
    have a1 := ho _ _ _ h1
    split at h
    · cases h; simp only [List.length_tail]; omega
    · obtain ⟨xs, r2, h2, h⟩ := andT_ok h
      have a2 := manyF_eats ho n _ _ _ h2
      cases h; omega
theorem manyF_more {α : Type} {one : List Tok → PR α} (ho : Eats one) : ∀ n l, l.length < n → manyF one n l = manyF one (l.length + 1) l
  | 0, _, h => absurd h (Nat.not_lt_zero _)
  | n + 1, l, h => by
    unfold manyF
    rcases e : one l with x | ⟨x, r⟩
    · rfl
    · have a1 := ho _ _ _ e
      simp only [andT]
      split
      · rfl
      · rw [manyF_more ho n r (by omega)]
        rcases Nat.lt_or_ge l.length 1 with z | z
        · omega
        · have := manyF_more ho l.length r (by omega)
          rw [this]
theorem many_step {α : Type} {one : List Tok → PR α} (ho : Eats one) (l : List Tok) : many one l = andT (one l) fun x r => if isS [125] r then .ok ([x], r.tail) else andT (many one r) fun xs r => .ok (x :: xs, r) := by
  conv => lhs; unfold many manyF
  rcases e : one l with x | ⟨x, r⟩
  · rfl
  · have a1 := ho _ _ _ e
    simp only [andT]
    split
    · rfl
    · rw [manyF_more ho l.length r (by omega)]
      rfl
theorem pExp_eats : ∀ d, Eats (pExp d)
  | 0 => fun l a r h => by cases l <;> cases h
  | d + 1 => fun l a r h => by
    have ih := pExp_eats d
    have il : ∀ l a r, pExp d l = .ok (a, r) → r.length ≤ l.length := fun l a r h => Nat.le_of_lt (ih l a r h)
    cases l with
    | nil => cases h
    | cons t q =>
      unfold pExp at h
      split at h
      · cases h; simp
      · split at h
        · cases h; have := pAtoms_le q; simp only [List.length_cons]; omega
        · split at h
          · obtain ⟨_, r1, h1, h⟩ := andT_ok h
            obtain ⟨bs, r2, h2, h⟩ := andT_ok h
            obtain ⟨_, r3, h3, h⟩ := andT_ok h
            obtain ⟨x, r4, h4, h⟩ := andT_ok h
            obtain ⟨_, v1, e1⟩ := pWant_eats h1
            obtain ⟨_, v3, e3⟩ := pWant_eats h3
            have a2 := manyF_eats (pBind_eats il) _ _ _ _ h2
            have a4 := ih _ _ _ h4
            cases h
            subst e1 e3
            simp only [List.length_cons] at *
            omega
          · split at h
            · obtain ⟨x, r1, h1, h⟩ := andT_ok h
              obtain ⟨_, r2, h2, h⟩ := andT_ok h
              obtain ⟨_, r3, h3, h⟩ := andT_ok h
              obtain ⟨as, r4, h4, h⟩ := andT_ok h
              obtain ⟨_, v2, e2⟩ := pWant_eats h2
              obtain ⟨_, v3, e3⟩ := pWant_eats h3
              have a1 := ih _ _ _ h1
              have a4 := manyF_eats (pAlt_eats il) _ _ _ _ h4
              cases h
              subst e2 e3
              simp only [List.length_cons] at *
              omega
            · split at h
              · obtain ⟨x, r1, h1, h⟩ := andT_ok h
                obtain ⟨_, r2, h2, h⟩ := andT_ok h
                obtain ⟨_, v2, e2⟩ := pWant_eats h2
                have a1 := ih _ _ _ h1
                cases h
                subst e2
                simp only [List.length_cons] at *
                omega
              · cases h
theorem bind_eats (d : Nat) : Eats (pBind (pExp d)) := pBind_eats fun l a r h => Nat.le_of_lt (pExp_eats d l a r h)
theorem alt_eats (d : Nat) : Eats (pAlt (pExp d)) := pAlt_eats fun l a r h => Nat.le_of_lt (pExp_eats d l a r h)

end Go.Proofs.YtbajpejnnfacbaaGreatDoor

/- Which programs are right: the document's check over trees, as a plain function; other names, and a bind more, change nothing. -/
namespace Go.Proofs.YtbajpejnnfacbaaGreatDoor
set_option linter.unusedVariables false
set_option linter.unusedSimpArgs false

abbrev Nm := List UInt8
/-- the first thing that is wrong: its place and its error -/
abbrev Flt := Option (Int × Int)
def orF (a b : Flt) : Flt := match a with | some x => some x | none => b
theorem orF_none {a b : Flt} : orF a b = none ↔ a = none ∧ b = none := by cases a <;> simp [orF]
theorem orF_left {b : Flt} : orF none b = b := rfl

def twiceN : List Nm → Bool
  | [] => false
  | x :: r => r.contains x || twiceN r
/-- the first data of that name -/
def arityN : List D → Nm → Option Int
  | [], _ => none
  | d :: r, c => if d.name = c then some d.arity else arityN r c
def atmF (a : Int) (sc : Nm → Bool) : List Atm → Flt
  | [] => none
  | t :: r => if (t.name ≠ [] ∧ sc t.name = false) then some (a, 31) else atmF a sc r
def conF (a : Int) (n : Option Int) (len : Nat) : Flt := match n with | none => some (a, 32) | some m => if m = len then none else some (a, 33)
/-- names of binds, one behind the other: those ahead -/
def namF (ahead : List Nm) : List B → Flt
  | [] => none
  | .mk n a _ _ :: r => if n = [] then some (a, 31) else if ahead.contains n then some (a, 30) else namF (n :: ahead) r
def argF (a : Int) (l : List Nm) : Flt := if 8 < l.length then some (a, 33) else if l.contains [] then some (a, 31) else if twiceN l then some (a, 30) else none
def nameB' : B → Nm | .mk n _ _ _ => n
/-- an alternative that is ahead: its kind, name and number -/
structure Hd3 where
  kind : Int
  name : Nm
  num : Int
def altF (ds : List D) (ahead : List Hd3) (k a : Int) (n : Nm) (m : Int) (vs : List Nm) : Flt :=
  if ahead.any (fun h => h.kind == 3) then some (a, 35)
  else if k = 1 then
    match arityN ds n with
    | none => some (a, 32)
    | some r => if r ≠ vs.length then some (a, 33) else if vs.contains [] then some (a, 31) else if twiceN vs then some (a, 30) else if ahead.any (fun h => h.kind == 1 && h.name == n) then some (a, 30) else none
  else if k = 2 then (if ahead.any (fun h => h.kind == 2 && h.num == m) then some (a, 30) else none)
  else if k = 3 then (if n = [] then some (a, 31) else none)
  else some (a, 2)
def altS (sc : Nm → Bool) (k : Int) (n : Nm) (vs : List Nm) : Nm → Bool := if k = 1 then (fun x => sc x || vs.contains x) else if k = 3 then (fun x => sc x || n == x) else sc
section
variable (ds : List D) (pr : Nm → Nat) (ar : Nat → Int)
mutual
def chE (sc : Nm → Bool) : E → Flt
  | .mk k a n m ts bs ks al =>
    if k = 1 then (if sc n = false then some (a, 31) else if 8 < ts.length then some (a, 33) else atmF a sc ts)
    else if k = 2 then orF (conF a (arityN ds n) ts.length) (atmF a sc ts)
    else if k = 3 then (if pr n = 0 then some (a, 34) else if ar (pr n) ≠ ts.length then some (a, 33) else atmF a sc ts)
    else if k = 4 then none
    else if k = 5 then (if bs.length = 0 ∨ ks.length = 0 then some (a, 2) else orF (namF [] bs) (orF (chBs (fun x => sc x || (bs.map nameB').contains x) bs) (chK (fun x => sc x || (bs.map nameB').contains x) ks)))
    else if k = 6 then (if ks.length = 0 ∨ al.length = 0 then some (a, 2) else orF (chK sc ks) (chAs sc [] al))
    else some (a, 2)
def chB (sc : Nm → Bool) : B → Flt
  | .mk _ a l x => orF (argF a l) (chE (fun y => sc y || l.contains y) x)
def chA (sc : Nm → Bool) (ahead : List Hd3) : A → Flt
  | .mk k a n m vs x => orF (altF ds ahead k a n m vs) (chE (altS sc k n vs) x)
def chK (sc : Nm → Bool) : List E → Flt
  | [] => none
  | x :: _ => chE sc x
def chBs (sc : Nm → Bool) : List B → Flt
  | [] => none
  | x :: r => orF (chB sc x) (chBs sc r)
def chAs (sc : Nm → Bool) (ahead : List Hd3) : List A → Flt
  | [] => none
  | .mk k a n m vs x :: r => orF (chA sc ahead (.mk k a n m vs x)) (chAs sc (⟨k, n, m⟩ :: ahead) r)
end
def datF (ahead : List Nm) : List D → Flt
  | [] => none
  | d :: r => if ahead.contains d.name then some (d.at', 30) else if d.arity < 0 ∨ 8 < d.arity then some (d.at', 33) else datF (d.name :: ahead) r
end
def mainN : Nm := [109, 97, 105, 110]
def checkP (pr : Nm → Nat) (ar : Nat → Int) (p : Pg) : Flt :=
  orF (datF [] p.datas) (orF (namF [] p.binds) (orF (chBs p.datas pr ar (fun x => (p.binds.map nameB').contains x) p.binds) (if (p.binds.map nameB').contains mainN then none else some (0, 36))))

/- other names -/
def turn (s : Nm) : Nm := if s = mainN ∨ s = [] then s else s ++ [39]
theorem turn_inj {a b : Nm} (h : turn a = turn b) : a = b := by
  unfold turn at h
  by_cases x : a = mainN ∨ a = [] <;> by_cases y : b = mainN ∨ b = []
  · rw [if_pos x, if_pos y] at h; exact h
  · rw [if_pos x, if_neg y] at h
    rcases x with x | x
    · have e := congrArg List.getLast? h
      rw [x] at e
      simp [mainN] at e
    · have e := congrArg List.length h
      rw [x] at e
      simp at e
  · rw [if_neg x, if_pos y] at h
    rcases y with y | y
    · have e := congrArg List.getLast? h
      rw [y] at e
      simp [mainN] at e
    · have e := congrArg List.length h
      rw [y] at e
      simp at e
  · rw [if_neg x, if_neg y] at h
    exact List.append_cancel_right h
theorem turn_nil {a : Nm} : turn a = [] ↔ a = [] := by
  constructor
  · intro h
    exact turn_inj (h.trans (by simp [turn]))
  · rintro rfl; simp [turn]
theorem turn_main : turn mainN = mainN := by simp [turn]
theorem beq_turn (x y : List UInt8) : (turn x == turn y) = (x == y) := by
  rw [Bool.eq_iff_iff, beq_iff_eq, beq_iff_eq]
  exact ⟨turn_inj, fun h => by rw [h]⟩
theorem turn_has (l : List Nm) (x : Nm) : (l.map turn).contains (turn x) = l.contains x := by
  induction l with
  | nil => rfl
  | cons y r ih =>
    simp only [List.map_cons, List.contains_cons, ih, beq_turn]
theorem turn_has_nil (l : List Nm) : (l.map turn).contains [] = l.contains [] := by
  have := turn_has l []
  rwa [show turn [] = [] by simp [turn]] at this
theorem turn_twice (l : List Nm) : twiceN (l.map turn) = twiceN l := by
  induction l with
  | nil => rfl
  | cons y r ih => simp only [List.map_cons, twiceN, ih, turn_has]
def turnT (t : Atm) : Atm := ⟨turn t.name, t.num⟩
mutual
def turnE : E → E
  | .mk k a n m ts bs ks al => .mk k a (if k = 1 then turn n else n) m (ts.map turnT) (turnBs bs) (turnEs ks) (turnAs al)
def turnB : B → B
  | .mk n a l x => .mk (turn n) a (l.map turn) (turnE x)
def turnA : A → A
  | .mk k a n m vs x => .mk k a (if k = 3 then turn n else n) m (vs.map turn) (turnE x)
def turnEs : List E → List E
  | [] => []
  | x :: r => turnE x :: turnEs r
def turnBs : List B → List B
  | [] => []
  | x :: r => turnB x :: turnBs r
def turnAs : List A → List A
  | [] => []
  | x :: r => turnA x :: turnAs r
end
theorem turnEs_len : ∀ l, (turnEs l).length = l.length
  | [] => rfl
  | x :: r => by rw [turnEs, List.length_cons, turnEs_len r, List.length_cons]
theorem turnBs_len : ∀ l, (turnBs l).length = l.length
  | [] => rfl
  | x :: r => by rw [turnBs, List.length_cons, turnBs_len r, List.length_cons]
theorem turnAs_len : ∀ l, (turnAs l).length = l.length
  | [] => rfl
  | x :: r => by rw [turnAs, List.length_cons, turnAs_len r, List.length_cons]
theorem turnBs_names : ∀ l, (turnBs l).map nameB' = (l.map nameB').map turn
  | [] => rfl
  | .mk n a l x :: r => by simp only [turnBs, turnB, List.map_cons, nameB', turnBs_names r]
theorem turn_atm (a : Int) (sc sc' : Nm → Bool) (h : ∀ x, sc' (turn x) = sc x) : ∀ l, atmF a sc' (l.map turnT) = atmF a sc l
  | [] => rfl
  | t :: r => by
    simp only [List.map_cons, atmF, turnT, h, turn_atm a sc sc' h r, ne_eq, turn_nil]
theorem turn_nam : ∀ (ahead : List Nm) (l : List B), namF (ahead.map turn) (turnBs l) = namF ahead l
  | _, [] => rfl
  | ahead, .mk n a l x :: r => by
    have ih := turn_nam (n :: ahead) r
    rw [List.map_cons] at ih
    simp only [turnBs, turnB, namF, turn_nil, turn_has, ih]
theorem turn_arg (a : Int) (l : List Nm) : argF a (l.map turn) = argF a l := by
  unfold argF
  rw [List.length_map, turn_has_nil, turn_twice]
def turnH (h : Hd3) : Hd3 := ⟨h.kind, if h.kind = 3 then turn h.name else h.name, h.num⟩
theorem turn_alt (ds : List D) (ahead : List Hd3) (k a : Int) (n : Nm) (m : Int) (vs : List Nm) : altF ds (ahead.map turnH) k a (if k = 3 then turn n else n) m (vs.map turn) = altF ds ahead k a n m vs := by
  have e1 : (ahead.map turnH).any (fun h => h.kind == 3) = ahead.any (fun h => h.kind == 3) := by rw [List.any_map]; rfl
  have e2 : (ahead.map turnH).any (fun h => h.kind == 2 && h.num == m) = ahead.any (fun h => h.kind == 2 && h.num == m) := by rw [List.any_map]; rfl
  have e3 : (ahead.map turnH).any (fun h => h.kind == 1 && h.name == n) = ahead.any (fun h => h.kind == 1 && h.name == n) := by
    rw [List.any_map]
    congr 1
    funext h
    simp only [Function.comp, turnH]
    by_cases q : h.kind = 1
    · rw [if_neg (by omega)]
    · rw [show (h.kind == 1) = false from beq_eq_false_iff_ne.2 q, Bool.false_and, Bool.false_and]
  unfold altF
  rw [e1, e2]
  by_cases k3 : k = 3
  · subst k3
    simp [turn_nil]
  · rw [if_neg k3, e3, List.length_map, turn_has_nil, turn_twice]
theorem turn_sc (sc sc' : Nm → Bool) (h : ∀ x, sc' (turn x) = sc x) (l : List Nm) : ∀ x, (fun y => sc' y || (l.map turn).contains y) (turn x) = (fun y => sc y || l.contains y) x := fun x => by
  simp only [h, turn_has]
theorem turn_altS (sc sc' : Nm → Bool) (h : ∀ x, sc' (turn x) = sc x) (k : Int) (n : Nm) (vs : List Nm) : ∀ x, altS sc' k (if k = 3 then turn n else n) (vs.map turn) (turn x) = altS sc k n vs x := fun x => by
  unfold altS
  by_cases k1 : k = 1
  · rw [if_pos k1, if_pos k1]; simp only [h, turn_has]
  · by_cases k3 : k = 3
    · rw [if_neg k1, if_pos k3, if_neg k1, if_pos k3, if_pos k3]
      simp only [h, beq_turn]
    · rw [if_neg k1, if_neg k3, if_neg k1, if_neg k3]; exact h x
mutual
theorem turn_E (ds : List D) (pr : Nm → Nat) (ar : Nat → Int) : ∀ (x : E) (sc sc' : Nm → Bool), (∀ x, sc' (turn x) = sc x) → chE ds pr ar sc' (turnE x) = chE ds pr ar sc x
  | .mk k a n m ts bs ks al, sc, sc', h => by
    have hs := turn_sc sc sc' h (bs.map nameB')
    have i1 := turn_Bs ds pr ar bs (fun x => sc x || (bs.map nameB').contains x) (fun x => sc' x || ((bs.map nameB').map turn).contains x) hs
    have i2 := turn_K ds pr ar ks (fun x => sc x || (bs.map nameB').contains x) (fun x => sc' x || ((bs.map nameB').map turn).contains x) hs
    have i3 := turn_K ds pr ar ks sc sc' h
    have i4 := turn_As ds pr ar al sc sc' h []
    simp only [turnE, chE, List.length_map, turnBs_len, turnEs_len, turnAs_len, turn_atm a sc sc' h, turnBs_names, i1, i2, i3]
    have i5 : namF [] (turnBs bs) = namF [] bs := turn_nam [] bs
    rw [i5, show chAs ds pr ar sc' [] (turnAs al) = chAs ds pr ar sc [] al from i4]
    by_cases k1 : k = 1
    · simp only [k1, if_true, h]
    · simp only [k1, if_false]
theorem turn_B (ds : List D) (pr : Nm → Nat) (ar : Nat → Int) : ∀ (x : B) (sc sc' : Nm → Bool), (∀ x, sc' (turn x) = sc x) → chB ds pr ar sc' (turnB x) = chB ds pr ar sc x
  | .mk n a l x, sc, sc', h => by
    simp only [turnB, chB, turn_arg, turn_E ds pr ar x (fun y => sc y || l.contains y) (fun y => sc' y || (l.map turn).contains y) (turn_sc sc sc' h l)]
theorem turn_A (ds : List D) (pr : Nm → Nat) (ar : Nat → Int) : ∀ (x : A) (sc sc' : Nm → Bool), (∀ x, sc' (turn x) = sc x) → ∀ ahead, chA ds pr ar sc' (ahead.map turnH) (turnA x) = chA ds pr ar sc ahead x
  | .mk k a n m vs x, sc, sc', h, ahead => by
    simp only [turnA, chA, turn_alt, turn_E ds pr ar x (altS sc k n vs) (altS sc' k (if k = 3 then turn n else n) (vs.map turn)) (turn_altS sc sc' h k n vs)]
theorem turn_K (ds : List D) (pr : Nm → Nat) (ar : Nat → Int) : ∀ (l : List E) (sc sc' : Nm → Bool), (∀ x, sc' (turn x) = sc x) → chK ds pr ar sc' (turnEs l) = chK ds pr ar sc l
  | [], _, _, _ => rfl
  | x :: r, sc, sc', h => by simp only [turnEs, chK, turn_E ds pr ar x sc sc' h]
theorem turn_Bs (ds : List D) (pr : Nm → Nat) (ar : Nat → Int) : ∀ (l : List B) (sc sc' : Nm → Bool), (∀ x, sc' (turn x) = sc x) → chBs ds pr ar sc' (turnBs l) = chBs ds pr ar sc l
  | [], _, _, _ => rfl
  | x :: r, sc, sc', h => by simp only [turnBs, chBs, turn_B ds pr ar x sc sc' h, turn_Bs ds pr ar r sc sc' h]
theorem turn_As (ds : List D) (pr : Nm → Nat) (ar : Nat → Int) : ∀ (l : List A) (sc sc' : Nm → Bool), (∀ x, sc' (turn x) = sc x) → ∀ ahead, chAs ds pr ar sc' (ahead.map turnH) (turnAs l) = chAs ds pr ar sc ahead l
  | [], _, _, _, _ => rfl
  | .mk k a n m vs x :: r, sc, sc', h, ahead => by
    have i1 := turn_A ds pr ar (.mk k a n m vs x) sc sc' h ahead
    have i2 := turn_As ds pr ar r sc sc' h (⟨k, n, m⟩ :: ahead)
    rw [List.map_cons] at i2
    simp only [turnAs, turnA, chAs] at i1 i2 ⊢
    rw [i1]
    exact congrArg _ i2
end
theorem turn_check (pr : Nm → Nat) (ar : Nat → Int) (p : Pg) : checkP pr ar ⟨p.datas, turnBs p.binds⟩ = checkP pr ar p := by
  have e := turn_has (p.binds.map nameB') mainN
  rw [turn_main] at e
  simp only [checkP, turnBs_names, e]
  rw [show namF [] (turnBs p.binds) = namF [] p.binds from turn_nam [] p.binds, turn_Bs p.datas pr ar p.binds (fun x => (p.binds.map nameB').contains x) (fun x => ((p.binds.map nameB').map turn).contains x) (fun x => turn_has (p.binds.map nameB') x)]
end Go.Proofs.YtbajpejnnfacbaaGreatDoor

/- Tokens as values; what the calls read of the library's variables; a word, a number, a sign. -/
namespace Go.Proofs.YtbajpejnnfacbaaGreatDoor
open Go.RowKit
set_option linter.unusedVariables false

def str (l : List UInt8) : ByteArray := ⟨l.toArray⟩
theorem str_eq {s : ByteArray} {l : List UInt8} (h : s.data.toList = l) : s = str l := by
  subst h; rfl
theorem str_list (l : List UInt8) : (str l).data.toList = l := by simp [str]
theorem str_size (l : List UInt8) : (str l).size = l.length := by simp [str, ByteArray.size]

/-- A token as a value. -/
def tokV (k : Int) (t : ByteArray) (n a : Int) : Value := .agg #[.int .i64 k, .string t, .int .i64 n, .int .i64 a]
theorem far1 {w w' : World} {o : Obj} (h : Below (w.alloc o).heap.size (w.alloc o) w') : Below w.heap.size w w' := (Joins.below_alloc1 w o).trans (Joins.below_le h (by simp))

/-- What reading a token answers. -/
def readV (r : Except Int Tk) (a : Nat) : Value :=
  match r with
  | .ok t => .tuple #[tokV t.kind (str t.text) t.num a, .int .i64 ((a + t.len : Nat) : Int), .int .i64 0]
  | .error e => .tuple #[tokV 0 ⟨#[]⟩ 0 0, .int .i64 0, .int .i64 e]
def wordR (k : Int) (t : List UInt8) : Except Int Tk := if 32 < t.length then .error 21 else .ok ⟨k, t, 0, t.length⟩
def numR (t : List UInt8) : Except Int Tk := match numOf t with
  | some v => .ok ⟨4, [], v, t.length⟩
  | none => .error 22

theorem size_list (t : ByteArray) : t.data.toList.length = t.size := by simp

end Go.Proofs.YtbajpejnnfacbaaGreatDoor

/- Layer 6, made ready: trees in memory: what the cells of an expression, a bind, an alternative are; what keeps them: of no program. -/
namespace Go.Proofs.YtbajpejnnfacbaaGreatDoor
open Go.RowKit
set_option linter.unusedVariables false

def strC (l : List (List UInt8)) : List Value := l.map fun s => .string (str s)
def atmC (l : List Atm) : List Value := l.flatMap fun a => [.string (str a.name), .int .i64 a.num]
def datC (l : List D) : List Value := l.flatMap fun d => [.string (str d.name), .int .i64 d.arity, .int .i64 d.at']
/-- a slice of n items whose cells are those: its block is one of 'ok' -/
def IsRow (w : World) (ok : Nat → Prop) (xs : List Value) (n : Nat) (v : Value) : Prop :=
  ∃ ga cap, v = .slice ga n cap ∧ (n ≤ cap ∧ n ≤ 1000000000) ∧ (0 < n → ∃ g off, ga = some ⟨g, off, none⟩ ∧ ok g ∧ ∀ j u, xs[j]? = some u → w.cell? ⟨g, off + j, none⟩ = some u)
mutual
def isE (w : World) (ok : Nat → Prop) : E → List Value → Prop
  | .mk k a n m ts bs ks al, c => ∃ vt vb vk va xb xk xa, c = [.int .i64 k, .int .i64 a, .string (str n), .int .i64 m, vt, vb, vk, va] ∧ IsRow w ok (atmC ts) ts.length vt ∧
      IsRow w ok xb bs.length vb ∧ isBs w ok bs xb ∧ IsRow w ok xk ks.length vk ∧ isEs w ok ks xk ∧ IsRow w ok xa al.length va ∧ isAs w ok al xa
def isB (w : World) (ok : Nat → Prop) : B → List Value → Prop
  | .mk n a al x, c => ∃ va d, c = [.string (str n), .int .i64 a, va] ++ d ∧ IsRow w ok (strC al) al.length va ∧ isE w ok x d
def isA (w : World) (ok : Nat → Prop) : A → List Value → Prop
  | .mk k a n m vs x, c => ∃ vv d, c = [.int .i64 k, .int .i64 a, .string (str n), .int .i64 m, vv] ++ d ∧ IsRow w ok (strC vs) vs.length vv ∧ isE w ok x d
def isEs (w : World) (ok : Nat → Prop) : List E → List Value → Prop
  | [], c => c = []
  | x :: r, c => ∃ c1 c2, c = c1 ++ c2 ∧ isE w ok x c1 ∧ isEs w ok r c2
def isBs (w : World) (ok : Nat → Prop) : List B → List Value → Prop
  | [], c => c = []
  | x :: r, c => ∃ c1 c2, c = c1 ++ c2 ∧ isB w ok x c1 ∧ isBs w ok r c2
def isAs (w : World) (ok : Nat → Prop) : List A → List Value → Prop
  | [], c => c = []
  | x :: r, c => ∃ c1 c2, c = c1 ++ c2 ∧ isA w ok x c1 ∧ isAs w ok r c2
end

/-- from w to w' nothing has turned in the blocks of 'ok', and they are of 'ok'' -/
structure Keeps (ok ok' : Nat → Prop) (w w' : World) : Prop where
  cell : ∀ g off u, ok g → w.cell? ⟨g, off, none⟩ = some u → w'.cell? ⟨g, off, none⟩ = some u
  ok : ∀ g, ok g → ok' g
theorem IsRow.keeps {ok ok' : Nat → Prop} {w w' : World} {xs : List Value} {n : Nat} {v : Value} (hk : Keeps ok ok' w w') (h : IsRow w ok xs n v) : IsRow w' ok' xs n v := by
  obtain ⟨ga, cap, rfl, hc, h⟩ := h
  refine ⟨ga, cap, rfl, hc, fun hn => ?_⟩
  obtain ⟨g, off, rfl, ho, hx⟩ := h hn
  exact ⟨g, off, rfl, hk.ok g ho, fun j u hj => hk.cell g _ u ho (hx j u hj)⟩
mutual
theorem isE_keeps {ok ok' : Nat → Prop} {w w' : World} (hk : Keeps ok ok' w w') : ∀ (x : E) (c : List Value), isE w ok x c → isE w' ok' x c
  | .mk k a n m ts bs ks al, c, h => by
    simp only [isE] at h ⊢
    obtain ⟨vt, vb, vk, va, xb, xk, xa, rfl, h1, h2, h3, h4, h5, h6, h7⟩ := h
    exact ⟨vt, vb, vk, va, xb, xk, xa, rfl, h1.keeps hk, h2.keeps hk, isBs_keeps hk bs xb h3, h4.keeps hk, isEs_keeps hk ks xk h5, h6.keeps hk, isAs_keeps hk al xa h7⟩
theorem isB_keeps {ok ok' : Nat → Prop} {w w' : World} (hk : Keeps ok ok' w w') : ∀ (x : B) (c : List Value), isB w ok x c → isB w' ok' x c
  | .mk n a al x, c, h => by
    simp only [isB] at h ⊢
    obtain ⟨va, d, rfl, h1, h2⟩ := h
    exact ⟨va, d, rfl, h1.keeps hk, isE_keeps hk x d h2⟩
theorem isA_keeps {ok ok' : Nat → Prop} {w w' : World} (hk : Keeps ok ok' w w') : ∀ (x : A) (c : List Value), isA w ok x c → isA w' ok' x c
  | .mk k a n m vs x, c, h => by
    simp only [isA] at h ⊢
    obtain ⟨va, d, rfl, h1, h2⟩ := h
    exact ⟨va, d, rfl, h1.keeps hk, isE_keeps hk x d h2⟩
theorem isEs_keeps {ok ok' : Nat → Prop} {w w' : World} (hk : Keeps ok ok' w w') : ∀ (x : List E) (c : List Value), isEs w ok x c → isEs w' ok' x c
  | [], c, h => by simp only [isEs] at h ⊢; exact h
  | x :: r, c, h => by
    simp only [isEs] at h ⊢
    obtain ⟨c1, c2, rfl, h1, h2⟩ := h
    exact ⟨c1, c2, rfl, isE_keeps hk x c1 h1, isEs_keeps hk r c2 h2⟩
theorem isBs_keeps {ok ok' : Nat → Prop} {w w' : World} (hk : Keeps ok ok' w w') : ∀ (x : List B) (c : List Value), isBs w ok x c → isBs w' ok' x c
  | [], c, h => by simp only [isBs] at h ⊢; exact h
  | x :: r, c, h => by
    simp only [isBs] at h ⊢
    obtain ⟨c1, c2, rfl, h1, h2⟩ := h
    exact ⟨c1, c2, rfl, isB_keeps hk x c1 h1, isBs_keeps hk r c2 h2⟩
theorem isAs_keeps {ok ok' : Nat → Prop} {w w' : World} (hk : Keeps ok ok' w w') : ∀ (x : List A) (c : List Value), isAs w ok x c → isAs w' ok' x c
  | [], c, h => by simp only [isAs] at h ⊢; exact h
  | x :: r, c, h => by
    simp only [isAs] at h ⊢
    obtain ⟨c1, c2, rfl, h1, h2⟩ := h
    exact ⟨c1, c2, rfl, isA_keeps hk x c1 h1, isAs_keeps hk r c2 h2⟩
end

/-! ## One more behind a list -/
theorem isEs_snoc {w : World} {ok : Nat → Prop} : ∀ (l : List E) (x : E) (c d : List Value), isEs w ok l c → isE w ok x d → isEs w ok (l ++ [x]) (c ++ d)
  | [], x, c, d, h, h' => by simp only [isEs] at h; subst h; simp only [List.nil_append, isEs]; exact ⟨d, [], by simp, h', rfl⟩
  | y :: r, x, c, d, h, h' => by
    simp only [isEs] at h
    obtain ⟨c1, c2, rfl, h1, h2⟩ := h
    simp only [List.cons_append, isEs]
    exact ⟨c1, c2 ++ d, List.append_assoc _ _ _, h1, isEs_snoc r x c2 d h2 h'⟩
theorem isBs_snoc {w : World} {ok : Nat → Prop} : ∀ (l : List B) (x : B) (c d : List Value), isBs w ok l c → isB w ok x d → isBs w ok (l ++ [x]) (c ++ d)
  | [], x, c, d, h, h' => by simp only [isBs] at h; subst h; simp only [List.nil_append, isBs]; exact ⟨d, [], by simp, h', rfl⟩
  | y :: r, x, c, d, h, h' => by
    simp only [isBs] at h
    obtain ⟨c1, c2, rfl, h1, h2⟩ := h
    simp only [List.cons_append, isBs]
    exact ⟨c1, c2 ++ d, List.append_assoc _ _ _, h1, isBs_snoc r x c2 d h2 h'⟩
theorem isAs_snoc {w : World} {ok : Nat → Prop} : ∀ (l : List A) (x : A) (c d : List Value), isAs w ok l c → isA w ok x d → isAs w ok (l ++ [x]) (c ++ d)
  | [], x, c, d, h, h' => by simp only [isAs] at h; subst h; simp only [List.nil_append, isAs]; exact ⟨d, [], by simp, h', rfl⟩
  | y :: r, x, c, d, h, h' => by
    simp only [isAs] at h
    obtain ⟨c1, c2, rfl, h1, h2⟩ := h
    simp only [List.cons_append, isAs]
    exact ⟨c1, c2 ++ d, List.append_assoc _ _ _, h1, isAs_snoc r x c2 d h2 h'⟩

/-! ## How many cells -/
theorem isE_length {w : World} {ok : Nat → Prop} : ∀ (x : E) (c : List Value), isE w ok x c → c.length = 8
  | .mk k a n m ts bs ks al, c, h => by
    simp only [isE] at h
    obtain ⟨vt, vb, vk, va, xb, xk, xa, rfl, _⟩ := h
    rfl
theorem isB_length {w : World} {ok : Nat → Prop} : ∀ (x : B) (c : List Value), isB w ok x c → c.length = 11
  | .mk n a al x, c, h => by
    simp only [isB] at h
    obtain ⟨va, d, rfl, h1, h2⟩ := h
    simp [isE_length x d h2]
theorem isA_length {w : World} {ok : Nat → Prop} : ∀ (x : A) (c : List Value), isA w ok x c → c.length = 13
  | .mk k a n m vs x, c, h => by
    simp only [isA] at h
    obtain ⟨va, d, rfl, h1, h2⟩ := h
    simp [isE_length x d h2]
theorem isEs_length {w : World} {ok : Nat → Prop} : ∀ (l : List E) (c : List Value), isEs w ok l c → c.length = l.length * 8
  | [], c, h => by simp only [isEs] at h; subst h; rfl
  | x :: r, c, h => by
    simp only [isEs] at h
    obtain ⟨c1, c2, rfl, h1, h2⟩ := h
    have a := isE_length x c1 h1
    have b := isEs_length r c2 h2
    simp only [List.length_append, List.length_cons]
    omega
theorem isBs_length {w : World} {ok : Nat → Prop} : ∀ (l : List B) (c : List Value), isBs w ok l c → c.length = l.length * 11
  | [], c, h => by simp only [isBs] at h; subst h; rfl
  | x :: r, c, h => by
    simp only [isBs] at h
    obtain ⟨c1, c2, rfl, h1, h2⟩ := h
    have a := isB_length x c1 h1
    have b := isBs_length r c2 h2
    simp only [List.length_append, List.length_cons]
    omega
theorem isAs_length {w : World} {ok : Nat → Prop} : ∀ (l : List A) (c : List Value), isAs w ok l c → c.length = l.length * 13
  | [], c, h => by simp only [isAs] at h; subst h; rfl
  | x :: r, c, h => by
    simp only [isAs] at h
    obtain ⟨c1, c2, rfl, h1, h2⟩ := h
    have a := isA_length x c1 h1
    have b := isAs_length r c2 h2
    simp only [List.length_append, List.length_cons]
    omega
/-! ## The i-th of a list -/
theorem isEs_get {w : World} {ok : Nat → Prop} : ∀ (l : List E) (c : List Value), isEs w ok l c → ∀ i (h : i < l.length), ∃ d, isE w ok (l[i]'h) d ∧ ∀ j u, d[j]? = some u → c[i * 8 + j]? = some u
  | [], _, _, i, h => absurd h (Nat.not_lt_zero _)
  | x :: r, c, hc, i, h => by
    simp only [isEs] at hc
    obtain ⟨c1, c2, rfl, h1, h2⟩ := hc
    have z := isE_length x c1 h1
    cases i with
    | zero =>
      refine ⟨c1, h1, fun j u hj => ?_⟩
      have : j < c1.length := (List.getElem?_eq_some_iff.1 hj).1
      rw [Nat.zero_mul, Nat.zero_add, List.getElem?_append_left this]
      exact hj
    | succ i =>
      obtain ⟨d, a, b⟩ := isEs_get r c2 h2 i (by simpa using h)
      refine ⟨d, a, fun j u hj => ?_⟩
      rw [List.getElem?_append_right (by omega), z, show (i + 1) * 8 + j - 8 = i * 8 + j by omega]
      exact b j u hj
theorem isBs_get {w : World} {ok : Nat → Prop} : ∀ (l : List B) (c : List Value), isBs w ok l c → ∀ i (h : i < l.length), ∃ d, isB w ok (l[i]'h) d ∧ ∀ j u, d[j]? = some u → c[i * 11 + j]? = some u
  | [], _, _, i, h => absurd h (Nat.not_lt_zero _)
  | x :: r, c, hc, i, h => by
    simp only [isBs] at hc
    obtain ⟨c1, c2, rfl, h1, h2⟩ := hc
    have z := isB_length x c1 h1
    cases i with
    | zero =>
      refine ⟨c1, h1, fun j u hj => ?_⟩
      have : j < c1.length := (List.getElem?_eq_some_iff.1 hj).1
      rw [Nat.zero_mul, Nat.zero_add, List.getElem?_append_left this]
      exact hj
    | succ i =>
      obtain ⟨d, a, b⟩ := isBs_get r c2 h2 i (by simpa using h)
      refine ⟨d, a, fun j u hj => ?_⟩
      rw [List.getElem?_append_right (by omega), z, show (i + 1) * 11 + j - 11 = i * 11 + j by omega]
      exact b j u hj
theorem isAs_get {w : World} {ok : Nat → Prop} : ∀ (l : List A) (c : List Value), isAs w ok l c → ∀ i (h : i < l.length), ∃ d, isA w ok (l[i]'h) d ∧ ∀ j u, d[j]? = some u → c[i * 13 + j]? = some u
  | [], _, _, i, h => absurd h (Nat.not_lt_zero _)
  | x :: r, c, hc, i, h => by
    simp only [isAs] at hc
    obtain ⟨c1, c2, rfl, h1, h2⟩ := hc
    have z := isA_length x c1 h1
    cases i with
    | zero =>
      refine ⟨c1, h1, fun j u hj => ?_⟩
      have : j < c1.length := (List.getElem?_eq_some_iff.1 hj).1
      rw [Nat.zero_mul, Nat.zero_add, List.getElem?_append_left this]
      exact hj
    | succ i =>
      obtain ⟨d, a, b⟩ := isAs_get r c2 h2 i (by simpa using h)
      refine ⟨d, a, fun j u hj => ?_⟩
      rw [List.getElem?_append_right (by omega), z, show (i + 1) * 13 + j - 13 = i * 13 + j by omega]
      exact b j u hj

/-! ## What keeps -/
theorem keeps_below {ok ok' : Nat → Prop} {w w' : World} (h : Below w.heap.size w w') (ho : ∀ g, ok g → ok' g) : Keeps ok ok' w w' :=
  ⟨fun g off u _ hu => (World.cell?_of_block (h.block g (World.block_lt_of_cell? _ _ hu))).trans hu, ho⟩
theorem keeps_grown {ok ok' : Nat → Prop} {w w' : World} {row : Option Nat} (h : w.grownBy w' row) (hne : ∀ g, ok g → some g ≠ row) (ho : ∀ g, ok g → ok' g) : Keeps ok ok' w w' :=
  ⟨fun g off u hg hu => h.cell hu (hne g hg), ho⟩
/-- nothing below n has turned but the block b -/
structure But (b n : Nat) (w w' : World) : Prop where
  os : w'.os = w.os
  tape : w'.tape = w.tape
  output : w'.output = w.output
  size : w.heap.size ≤ w'.heap.size
  block : ∀ k, k < n → k ≠ b → w'.heap[k]? = w.heap[k]?
theorem But.refl (b n : Nat) (w : World) : But b n w w := ⟨rfl, rfl, rfl, Nat.le_refl _, fun _ _ _ => rfl⟩
theorem But.trans {b n m : Nat} {w w1 w2 : World} (h : But b n w w1) (h' : But b m w1 w2) (hm : n ≤ m) : But b n w w2 :=
  ⟨h'.os.trans h.os, h'.tape.trans h.tape, h'.output.trans h.output, Nat.le_trans h.size h'.size, fun k hk hb => (h'.block k (Nat.lt_of_lt_of_le hk hm) hb).trans (h.block k hk hb)⟩
theorem But.of_below {b n m : Nat} {w w' : World} (h : Below m w w') (hm : n ≤ m) : But b n w w' := ⟨h.os, h.tape, h.output, h.size, fun k hk _ => h.block k (Nat.lt_of_lt_of_le hk hm)⟩
theorem But.of_grown {b n : Nat} {w w' : World} {row : Option Nat} (h : w.grownBy w' row) (hn : n ≤ w.heap.size) (hr : ∀ k, row = some k → n ≤ k ∨ k = b) : But b n w w' :=
  ⟨h.os, h.tape, h.output, h.size, fun k hk hb => h.block k (Nat.lt_of_lt_of_le hk hn) (fun e => by rcases hr k e.symm with z | z; omega; exact hb z)⟩
theorem keeps_but {ok ok' : Nat → Prop} {b : Nat} {w w' : World} (h : But b w.heap.size w w') (hne : ∀ g, ok g → g ≠ b) (ho : ∀ g, ok g → ok' g) : Keeps ok ok' w w' :=
  ⟨fun g off u hg hu => (World.cell?_of_block (h.block g (World.block_lt_of_cell? _ _ hu) (hne g hg))).trans hu, ho⟩
theorem row_of_owns {w : World} {base size n : Nat} {e : TypeId} {v : Value} {xs : List Value} {ok : Nat → Prop} (h : w.ownsRow base e size v n xs) (ho : ∀ g, v.ownBlock = some g → ok g) (hs : n ≤ 1000000000) : IsRow w ok xs n v := by
  rcases h.2 with ⟨rfl, h0⟩ | ⟨g, cap, cur, rfl, hb, hg, X⟩
  · subst h0
    exact ⟨none, 0, rfl, ⟨Nat.le_refl _, hs⟩, fun z => absurd z (Nat.lt_irrefl 0)⟩
  · refine ⟨_, cap, rfl, ⟨X.1, hs⟩, fun _ => ⟨g, 0, rfl, ho g rfl, fun j u hj => ?_⟩⟩
    have := h.cells (g := g) rfl j u hj
    simp only [Addr.add, Nat.zero_add] at this ⊢
    split at this
    · rename_i z; subst z; exact this
    · exact this

end Go.Proofs.YtbajpejnnfacbaaGreatDoor
