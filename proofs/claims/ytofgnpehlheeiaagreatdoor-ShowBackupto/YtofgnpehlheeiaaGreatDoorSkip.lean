/- Layer 5 (lex): what a text's tokens are, as functions of lists of bytes: the plain side of the proofs, of no program. -/
import Derived.Lib.ParseIntB
import Derived.Test.YtofgnpehlheeiaaGreatDoorProg
import Derived.WalkKit
import Derived.Handy
import Derived.BigQuiet
import Derived.Deep.QuietTactic
import Derived.Below
namespace Go.Proofs.YtofgnpehlheeiaaGreatDoor

/-- small letters, great letters, digits, what a run is made of, blanks: by a byte's number -/
def sm (n : Int) : Bool := decide (97 ≤ n ∧ n ≤ 122)
def gr (n : Int) : Bool := decide (65 ≤ n ∧ n ≤ 90)
def dg (n : Int) : Bool := decide (48 ≤ n ∧ n ≤ 57)
def rn (n : Int) : Bool := decide ((97 ≤ n ∧ n ≤ 122) ∨ (65 ≤ n ∧ n ≤ 90) ∨ (48 ≤ n ∧ n ≤ 57) ∨ n = 95)
def bl (n : Int) : Bool := decide (n = 9 ∨ n = 10 ∨ n = 13 ∨ n = 32)
def sg (n : Int) : Bool := decide (n = 61 ∨ n = 92 ∨ n = 123 ∨ n = 125 ∨ n = 59 ∨ n = 40 ∨ n = 41)

/-- how many bytes of a kind a list begins with -/
def runN (p : Int → Bool) : List UInt8 → Nat
  | [] => 0
  | c :: r => if p c.toNat then runN p r + 1 else 0

/-- how many bytes blanks and remarks have at a list's beginning; 'true': within a remark -/
def skipN : Bool → List UInt8 → Nat
  | _, [] => 0
  | true, c :: r => if c.toNat = 10 then skipN false r + 1 else skipN true r + 1
  | false, c :: r =>
    if bl c.toNat then skipN false r + 1
    else if c.toNat = 45 ∧ (r.head?.map (·.toNat)) = some 45 then skipN true r + 1 else 0

/-- the five words -/
def resv (t : List UInt8) : Bool :=
  t == [108, 101, 116] || t == [105, 110] || t == [99, 97, 115, 101] || t == [111, 102] || t == [100, 97, 116, 97]

/-- the number that digits spell, with a sign perhaps; none: beyond 64 bits -/
def numOf (t : List UInt8) : Option Int :=
  match Lib.parseIntB 64 t with
  | .ok v => some v
  | _ => none

/-- a token, without its place -/
structure Tk where
  kind : Int
  text : List UInt8
  num : Int
  len : Nat

/-- the byte behind the first one; 0 at the end -/
def nxt : List UInt8 → Nat
  | [] => 0
  | c :: _ => c.toNat

/-- the token that a list begins with, whatever its length; none: ErrToken, or ErrNumber -/
def one (l : List UInt8) : Except Int Tk :=
  match l with
  | [] => .error 20
  | c :: r =>
    if sm c.toNat then
      let t := l.take (runN rn l)
      .ok ⟨if resv t then 6 else 1, t, 0, runN rn l⟩
    else if gr c.toNat then .ok ⟨2, l.take (runN rn l), 0, runN rn l⟩
    else if c.toNat = 35 ∧ sm (nxt r) = true then .ok ⟨3, l.take (runN rn r + 1), 0, runN rn r + 1⟩
    else if dg c.toNat = true ∨ (c.toNat = 45 ∧ dg (nxt r) = true) then
      match numOf (l.take (runN dg r + 1)) with
      | some v => .ok ⟨4, [], v, runN dg r + 1⟩
      | none => .error 22
    else if c.toNat = 45 ∧ nxt r = 62 then .ok ⟨5, [45, 62], 0, 2⟩
    else if sg c.toNat then .ok ⟨5, [c], 0, 1⟩
    else .error 20

/-- .. and not too long -/
def readT (l : List UInt8) : Except Int Tk :=
  match one l with
  | .ok t => if 32 < t.text.length then .error 21 else .ok t
  | .error e => .error e

/-- a token at its place -/
structure Tok where
  kind : Int
  text : List UInt8
  num : Int
  at' : Nat

/-- all tokens of a list that begins at a place; or the first fault, and where -/
def scanF : Nat → List UInt8 → Nat → Except (Nat × Int) (List Tok)
  | 0, _, _ => .ok []
  | f + 1, l, at' =>
    let k := skipN false l
    if k < l.length then
      match readT (l.drop k) with
      | .error e => .error (at' + k, e)
      | .ok t =>
        match scanF f ((l.drop k).drop t.len) (at' + k + t.len) with
        | .ok ts => .ok (⟨t.kind, t.text, t.num, at' + k⟩ :: ts)
        | .error e => .error e
    else .ok []

def scanAll (l : List UInt8) : Except (Nat × Int) (List Tok) :=
  if 16384 < l.length then .error (0, 3) else scanF (l.length + 1) l 0

theorem runN_le (p : Int → Bool) : ∀ l, runN p l ≤ l.length
  | [] => Nat.le_refl _
  | c :: r => by
    unfold runN
    split
    · have := runN_le p r; simp only [List.length_cons]; omega
    · exact Nat.zero_le _

theorem skipN_le : ∀ b l, skipN b l ≤ l.length
  | _, [] => by cases ‹Bool› <;> exact Nat.le_refl _
  | true, c :: r => by
    unfold skipN
    have h1 := skipN_le true r; have h2 := skipN_le false r
    split <;> simp only [List.length_cons] <;> omega
  | false, c :: r => by
    unfold skipN
    have h1 := skipN_le true r; have h2 := skipN_le false r
    split
    · simp only [List.length_cons]; omega
    · split <;> simp only [List.length_cons] <;> omega

theorem one_len {l : List UInt8} {t : Tk} (h : one l = .ok t) : 0 < t.len ∧ t.len ≤ l.length := by
  cases l with
  | nil => cases h
  | cons c r =>
    have hr := runN_le rn r
    have hrd := runN_le dg r
    have hl := runN_le rn (c :: r)
    unfold one at h
    simp only at h
    split at h
    · rename_i hs
      cases h
      refine ⟨?_, hl⟩
      have : rn c.toNat = true := by simp only [sm, rn, decide_eq_true_eq] at hs ⊢; exact .inl hs
      simp only [runN, this, if_true]; omega
    · split at h
      · rename_i hs
        cases h
        refine ⟨?_, hl⟩
        have : rn c.toNat = true := by simp only [gr, rn, decide_eq_true_eq] at hs ⊢; exact .inr (.inl hs)
        simp only [runN, this, if_true]; omega
      · split at h
        · cases h; simp only [List.length_cons]; omega
        · split at h
          · split at h
            · cases h; simp only [List.length_cons]; omega
            · cases h
          · split at h
            · rename_i _ hh
              cases h
              cases r with
              | nil => exact absurd hh.2 (by decide)
              | cons d r => simp only [List.length_cons]; omega
            · split at h
              · cases h; simp only [List.length_cons]; omega
              · cases h

theorem readT_one {l : List UInt8} {t : Tk} (h : readT l = .ok t) : one l = .ok t ∧ t.text.length ≤ 32 := by
  unfold readT at h
  split at h
  · rename_i t' e
    split at h
    · cases h
    · cases h; exact ⟨e, by omega⟩
  · cases h

theorem readT_len {l : List UInt8} {t : Tk} (h : readT l = .ok t) : 0 < t.len ∧ t.len ≤ l.length := one_len (readT_one h).1

/-- more fuel changes nothing -/
theorem scanF_more : ∀ (f g : Nat) (l : List UInt8) (a : Nat), l.length < f → l.length < g → scanF f l a = scanF g l a
  | 0, _, _, _, h, _ => absurd h (Nat.not_lt_zero _)
  | _ + 1, 0, _, _, _, h => absurd h (Nat.not_lt_zero _)
  | f + 1, g + 1, l, a, hf, hg => by
    unfold scanF
    simp only
    split
    · rename_i hk
      cases e : readT (l.drop (skipN false l)) with
      | error => rfl
      | ok t =>
        have ht := readT_len e
        have hd : ((l.drop (skipN false l)).drop t.len).length < l.length := by
          simp only [List.length_drop]; simp only [List.length_drop] at ht; omega
        simp only
        rw [scanF_more f g _ _ (by omega) (by omega)]
    · rfl

/-- the scan from a place within a text on -/
def from' (l : List UInt8) (i : Nat) : Except (Nat × Int) (List Tok) := scanF (l.length + 1) (l.drop i) i

/-- tokens ahead of what is told -/
def ahead (ts : List Tok) : Except (Nat × Int) (List Tok) → Except (Nat × Int) (List Tok)
  | .ok us => .ok (ts ++ us)
  | .error e => .error e

theorem ahead_nil (x) : ahead [] x = x := by cases x <;> rfl
theorem ahead_ahead (a b x) : ahead a (ahead b x) = ahead (a ++ b) x := by cases x <;> simp [ahead]

end Go.Proofs.YtofgnpehlheeiaaGreatDoor

/- The contracts of the functions that look at one byte: package lex's and the document's own. -/
namespace Go.Proofs.YtofgnpehlheeiaaGreatDoor
open Go.RowKit

theorem retInt {k : IntKind} {a b : Int} (h : a = b) : Ending.returned (.int k a) = .returned (.int k b) := by rw [h]
theorem retBool {a b : Bool} (h : a = b) : Ending.returned (.bool a) = .returned (.bool b) := by rw [h]
theorem rn_split (n : Int) : rn n = (sm n || (gr n || (dg n || decide (n = 95)))) := by
  simp only [rn, sm, gr, dg, Bool.decide_or]

theorem isSmall_any (n : Int) (w : World) : Calls Tryz.prog 71 #[.int .u8 n] w fun e w' => e = .returned (.bool (sm n)) ∧ w' = w := by
  by_cases h1 : 97 ≤ n
  · by_cases h2 : n ≤ 122
    · go_enter Tryz.func71, Tryz.ntmps71; go_wp2; go_ret; exact ⟨retBool (by simp [sm, *]), rfl⟩
    · go_enter Tryz.func71, Tryz.ntmps71; go_wp2; go_ret; exact ⟨retBool (by simp [sm, *]), rfl⟩
  · go_enter Tryz.func71, Tryz.ntmps71; go_wp2; go_ret; exact ⟨retBool (by simp [sm]; omega), rfl⟩
theorem isGreat_any (n : Int) (w : World) : Calls Tryz.prog 76 #[.int .u8 n] w fun e w' => e = .returned (.bool (gr n)) ∧ w' = w := by
  by_cases h1 : 65 ≤ n
  · by_cases h2 : n ≤ 90
    · go_enter Tryz.func76, Tryz.ntmps76; go_wp2; go_ret; exact ⟨retBool (by simp [gr, *]), rfl⟩
    · go_enter Tryz.func76, Tryz.ntmps76; go_wp2; go_ret; exact ⟨retBool (by simp [gr, *]), rfl⟩
  · go_enter Tryz.func76, Tryz.ntmps76; go_wp2; go_ret; exact ⟨retBool (by simp [gr]; omega), rfl⟩
theorem isDigit_any (n : Int) (w : World) : Calls Tryz.prog 77 #[.int .u8 n] w fun e w' => e = .returned (.bool (dg n)) ∧ w' = w := by
  by_cases h1 : 48 ≤ n
  · by_cases h2 : n ≤ 57
    · go_enter Tryz.func77, Tryz.ntmps77; go_wp2; go_ret; exact ⟨retBool (by simp [dg, *]), rfl⟩
    · go_enter Tryz.func77, Tryz.ntmps77; go_wp2; go_ret; exact ⟨retBool (by simp [dg, *]), rfl⟩
  · go_enter Tryz.func77, Tryz.ntmps77; go_wp2; go_ret; exact ⟨retBool (by simp [dg]; omega), rfl⟩
theorem rsmall_any (n : Int) (w : World) : Calls Tryz.prog 46 #[.int .u8 n] w fun e w' => e = .returned (.bool (sm n)) ∧ w' = w := by
  by_cases h1 : 97 ≤ n
  · by_cases h2 : n ≤ 122
    · go_enter Tryz.func46, Tryz.ntmps46; go_wp2; go_ret; exact ⟨retBool (by simp [sm, *]), rfl⟩
    · go_enter Tryz.func46, Tryz.ntmps46; go_wp2; go_ret; exact ⟨retBool (by simp [sm, *]), rfl⟩
  · go_enter Tryz.func46, Tryz.ntmps46; go_wp2; go_ret; exact ⟨retBool (by simp [sm]; omega), rfl⟩
theorem rlarge_any (n : Int) (w : World) : Calls Tryz.prog 48 #[.int .u8 n] w fun e w' => e = .returned (.bool (gr n)) ∧ w' = w := by
  by_cases h1 : 65 ≤ n
  · by_cases h2 : n ≤ 90
    · go_enter Tryz.func48, Tryz.ntmps48; go_wp2; go_ret; exact ⟨retBool (by simp [gr, *]), rfl⟩
    · go_enter Tryz.func48, Tryz.ntmps48; go_wp2; go_ret; exact ⟨retBool (by simp [gr, *]), rfl⟩
  · go_enter Tryz.func48, Tryz.ntmps48; go_wp2; go_ret; exact ⟨retBool (by simp [gr]; omega), rfl⟩
theorem rdigit_any (n : Int) (w : World) : Calls Tryz.prog 49 #[.int .u8 n] w fun e w' => e = .returned (.bool (dg n)) ∧ w' = w := by
  by_cases h1 : 48 ≤ n
  · by_cases h2 : n ≤ 57
    · go_enter Tryz.func49, Tryz.ntmps49; go_wp2; go_ret; exact ⟨retBool (by simp [dg, *]), rfl⟩
    · go_enter Tryz.func49, Tryz.ntmps49; go_wp2; go_ret; exact ⟨retBool (by simp [dg, *]), rfl⟩
  · go_enter Tryz.func49, Tryz.ntmps49; go_wp2; go_ret; exact ⟨retBool (by simp [dg]; omega), rfl⟩
theorem rblank_any (n : Int) (w : World) : Calls Tryz.prog 44 #[.int .u8 n] w fun e w' => e = .returned (.bool (bl n)) ∧ w' = w := by
  by_cases h9 : n = 9
  · go_enter Tryz.func44, Tryz.ntmps44; go_wp2; go_ret; exact ⟨retBool (by simp [bl, *]), rfl⟩
  by_cases h10 : n = 10
  · go_enter Tryz.func44, Tryz.ntmps44; go_wp2; go_ret; exact ⟨retBool (by simp [bl, *]), rfl⟩
  by_cases h13 : n = 13
  · go_enter Tryz.func44, Tryz.ntmps44; go_wp2; go_ret; exact ⟨retBool (by simp [bl, *]), rfl⟩
  by_cases h32 : n = 32
  · go_enter Tryz.func44, Tryz.ntmps44; go_wp2; go_ret; exact ⟨retBool (by simp [bl, *]), rfl⟩
  go_enter Tryz.func44, Tryz.ntmps44; go_wp2; go_ret; exact ⟨retBool (by simp [bl, *]), rfl⟩
theorem isInRun_any (n : Int) (w : World) : Calls Tryz.prog 73 #[.int .u8 n] w fun e w' => e = .returned (.bool (rn n)) ∧ w' = w := by
  have A := isSmall_any n w
  have B := isGreat_any n w
  have C := isDigit_any n w
  rw [rn_split]
  generalize sm n = a at *
  generalize gr n = b at *
  generalize dg n = c at *
  cases a
  · cases b
    · cases c
      · by_cases h : n = 95
        · subst h
          go_enter Tryz.func73, Tryz.ntmps73
          go_wp2_with (first | (go_at_call 71; refine A.mono ?_; rintro e w1 ⟨rfl, rfl⟩) | (go_at_call 76; refine B.mono ?_; rintro e w1 ⟨rfl, rfl⟩) | (go_at_call 77; refine C.mono ?_; rintro e w1 ⟨rfl, rfl⟩))
          go_ret; exact ⟨retBool (by first | rfl | simp [h] | simp), rfl⟩
        · go_enter Tryz.func73, Tryz.ntmps73
          go_wp2_with (first | (go_at_call 71; refine A.mono ?_; rintro e w1 ⟨rfl, rfl⟩) | (go_at_call 76; refine B.mono ?_; rintro e w1 ⟨rfl, rfl⟩) | (go_at_call 77; refine C.mono ?_; rintro e w1 ⟨rfl, rfl⟩))
          go_ret; exact ⟨retBool (by first | rfl | simp [h] | simp), rfl⟩
      · go_enter Tryz.func73, Tryz.ntmps73
        go_wp2_with (first | (go_at_call 71; refine A.mono ?_; rintro e w1 ⟨rfl, rfl⟩) | (go_at_call 76; refine B.mono ?_; rintro e w1 ⟨rfl, rfl⟩) | (go_at_call 77; refine C.mono ?_; rintro e w1 ⟨rfl, rfl⟩))
        go_ret; exact ⟨retBool (by first | rfl | simp [h] | simp), rfl⟩
    · go_enter Tryz.func73, Tryz.ntmps73
      go_wp2_with (first | (go_at_call 71; refine A.mono ?_; rintro e w1 ⟨rfl, rfl⟩) | (go_at_call 76; refine B.mono ?_; rintro e w1 ⟨rfl, rfl⟩) | (go_at_call 77; refine C.mono ?_; rintro e w1 ⟨rfl, rfl⟩))
      go_ret; exact ⟨retBool (by first | rfl | simp [h] | simp), rfl⟩
  · go_enter Tryz.func73, Tryz.ntmps73
    go_wp2_with (first | (go_at_call 71; refine A.mono ?_; rintro e w1 ⟨rfl, rfl⟩) | (go_at_call 76; refine B.mono ?_; rintro e w1 ⟨rfl, rfl⟩) | (go_at_call 77; refine C.mono ?_; rintro e w1 ⟨rfl, rfl⟩))
    go_ret; exact ⟨retBool (by first | rfl | simp [h] | simp), rfl⟩
end Go.Proofs.YtofgnpehlheeiaaGreatDoor

/- The contracts of the functions that go past bytes of a kind, blanks and remarks. -/
namespace Go.Proofs.YtofgnpehlheeiaaGreatDoor
open Go.RowKit
set_option linter.unusedVariables false

structure Hid (p : Prop) : Prop where
  out : p
def intOf : Value → Int
  | .int _ n => n
  | _ => 0

theorem get_list (s : ByteArray) (k : Nat) (h : k < s.size) : s.data.toList.drop k = s[k]'h :: s.data.toList.drop (k + 1) := by
  have h' : k < s.data.toList.length := by simpa using h
  rw [List.drop_eq_getElem_cons h']
  rfl
theorem run_step (p : Int → Bool) (s : ByteArray) (k : Nat) (h : k < s.size) : runN p (s.data.toList.drop k) = if p ((s[k]'h).toNat) then runN p (s.data.toList.drop (k + 1)) + 1 else 0 := by
  rw [get_list s k h]
  rfl

set_option maxHeartbeats 1000000 in
theorem past39 (s : ByteArray) (i : Nat) (hi : i ≤ s.size) (hs : s.size ≤ 9223372036854775806) (w : World) :
    Calls Tryz.prog 72 #[.string s, .int .i64 i, .func (.func 73) #[] #[]] w fun e w' => e = .returned (.int .i64 ((i + runN rn (s.data.toList.drop i) : Nat) : Int)) ∧ w' = w := by
  obtain ⟨r, hr⟩ : ∃ r : Nat, i + runN rn (s.data.toList.drop i) = r := ⟨_, rfl⟩
  have HR : Hid (i + runN rn (s.data.toList.drop i) = r) := ⟨hr⟩
  rw [hr]
  clear hr
  go_enter Tryz.func72, Tryz.ntmps72
  go_wp2
  go_loopw [1] (fun c wr => ∃ k : Nat, c = .int .i64 k ∧ k ≤ s.size ∧ Hid (k + runN rn (s.data.toList.drop k) = r) ∧ w = wr) (fun c _ => s.size - (intOf c).toNat)
  case atStart => exact ⟨i, rfl, hi, HR, rfl⟩
  case round =>
    obtain ⟨k, rfl, hk2, HK, rfl⟩ := hrel
    by_cases hlt : k < s.size
    · have Q := isInRun_any ((s[k]'hlt).toNat) w
      have E := run_step rn s k hlt
      obtain ⟨b, hb⟩ : ∃ b, rn ((s[k]'hlt).toNat) = b := ⟨_, rfl⟩
      rw [hb] at Q E
      clear hb
      have HE : Hid (runN rn (s.data.toList.drop k) = if b then runN rn (s.data.toList.drop (k + 1)) + 1 else 0) := ⟨E⟩
      clear E
      cases b
      · go_wp2_with (go_at_call 73; refine Q.mono ?_; rintro e w1 ⟨rfl, hw⟩; subst hw)
        go_ret
        have h1 := HK.out
        rw [HE.out] at h1
        simp at h1
        exact ⟨by rw [← h1]; rfl, rfl⟩
      · go_wp2_with (go_at_call 73; refine Q.mono ?_; rintro e w1 ⟨rfl, hw⟩; subst hw)
        go_roundw
        case rel => exact ⟨k + 1, by go_num, by omega, ⟨by have h1 := HK.out; rw [HE.out] at h1; simp at h1; omega⟩, by first | rfl | trivial⟩
        case measure => simp [intOf]; omega
    · obtain rfl : k = s.size := by omega
      have h1 := HK.out
      rw [List.drop_eq_nil_of_le (by simp)] at h1
      simp [runN] at h1
      subst h1
      go_wp2
      go_ret
      exact ⟨rfl, rfl⟩

set_option maxHeartbeats 1000000 in
theorem past43 (s : ByteArray) (i : Nat) (hi : i ≤ s.size) (hs : s.size ≤ 9223372036854775806) (w : World) :
    Calls Tryz.prog 72 #[.string s, .int .i64 i, .func (.func 77) #[] #[]] w fun e w' => e = .returned (.int .i64 ((i + runN dg (s.data.toList.drop i) : Nat) : Int)) ∧ w' = w := by
  obtain ⟨r, hr⟩ : ∃ r : Nat, i + runN dg (s.data.toList.drop i) = r := ⟨_, rfl⟩
  have HR : Hid (i + runN dg (s.data.toList.drop i) = r) := ⟨hr⟩
  rw [hr]
  clear hr
  go_enter Tryz.func72, Tryz.ntmps72
  go_wp2
  go_loopw [1] (fun c wr => ∃ k : Nat, c = .int .i64 k ∧ k ≤ s.size ∧ Hid (k + runN dg (s.data.toList.drop k) = r) ∧ w = wr) (fun c _ => s.size - (intOf c).toNat)
  case atStart => exact ⟨i, rfl, hi, HR, rfl⟩
  case round =>
    obtain ⟨k, rfl, hk2, HK, rfl⟩ := hrel
    by_cases hlt : k < s.size
    · have Q := isDigit_any ((s[k]'hlt).toNat) w
      have E := run_step dg s k hlt
      obtain ⟨b, hb⟩ : ∃ b, dg ((s[k]'hlt).toNat) = b := ⟨_, rfl⟩
      rw [hb] at Q E
      clear hb
      have HE : Hid (runN dg (s.data.toList.drop k) = if b then runN dg (s.data.toList.drop (k + 1)) + 1 else 0) := ⟨E⟩
      clear E
      cases b
      · go_wp2_with (go_at_call 77; refine Q.mono ?_; rintro e w1 ⟨rfl, hw⟩; subst hw)
        go_ret
        have h1 := HK.out
        rw [HE.out] at h1
        simp at h1
        exact ⟨by rw [← h1]; rfl, rfl⟩
      · go_wp2_with (go_at_call 77; refine Q.mono ?_; rintro e w1 ⟨rfl, hw⟩; subst hw)
        go_roundw
        case rel => exact ⟨k + 1, by go_num, by omega, ⟨by have h1 := HK.out; rw [HE.out] at h1; simp at h1; omega⟩, by first | rfl | trivial⟩
        case measure => simp [intOf]; omega
    · obtain rfl : k = s.size := by omega
      have h1 := HK.out
      rw [List.drop_eq_nil_of_le (by simp)] at h1
      simp [runN] at h1
      subst h1
      go_wp2
      go_ret
      exact ⟨rfl, rfl⟩

end Go.Proofs.YtofgnpehlheeiaaGreatDoor

/- The document's own run; blanks and remarks byte by byte. -/
namespace Go.Proofs.YtofgnpehlheeiaaGreatDoor
open Go.RowKit
set_option linter.unusedVariables false

set_option maxHeartbeats 2000000 in
theorem run_any (s : ByteArray) (i : Nat) (hi : i ≤ s.size) (hs : s.size ≤ 9223372036854775806) (w : World) :
    Calls Tryz.prog 45 #[.string s, .int .i64 i] w fun e w' => e = .returned (.int .i64 ((i + runN rn (s.data.toList.drop i) : Nat) : Int)) ∧ w' = w := by
  obtain ⟨r, hr⟩ : ∃ r : Nat, i + runN rn (s.data.toList.drop i) = r := ⟨_, rfl⟩
  have HR : Hid (i + runN rn (s.data.toList.drop i) = r) := ⟨hr⟩
  rw [hr]
  clear hr
  go_enter Tryz.func45, Tryz.ntmps45
  go_wp2
  go_loopw [1] (fun c wr => ∃ k : Nat, c = .int .i64 k ∧ k ≤ s.size ∧ Hid (k + runN rn (s.data.toList.drop k) = r) ∧ w = wr) (fun c _ => s.size - (intOf c).toNat)
  case atStart => exact ⟨i, rfl, hi, HR, rfl⟩
  case round =>
    obtain ⟨k, rfl, hk2, HK, rfl⟩ := hrel
    by_cases hlt : k < s.size
    · obtain ⟨x, hx⟩ : ∃ x : Int, ((s[k]'hlt).toNat : Int) = x := ⟨_, rfl⟩
      have A := rsmall_any ((s[k]'hlt).toNat) w
      have B := rlarge_any ((s[k]'hlt).toNat) w
      have C := rdigit_any ((s[k]'hlt).toNat) w
      have E := run_step rn s k hlt
      rw [rn_split] at E
      obtain ⟨a, ha⟩ : ∃ a, sm ((s[k]'hlt).toNat) = a := ⟨_, rfl⟩
      obtain ⟨b, hb⟩ : ∃ a, gr ((s[k]'hlt).toNat) = a := ⟨_, rfl⟩
      obtain ⟨c, hc⟩ : ∃ a, dg ((s[k]'hlt).toNat) = a := ⟨_, rfl⟩
      rw [ha] at A E
      rw [hb] at B E
      rw [hc] at C E
      clear ha hb hc hx
      by_cases h95 : ((s[k]'hlt).toNat : Int) = 95
      · have HE : Hid (runN rn (s.data.toList.drop k) = if (a || (b || (c || true))) then runN rn (s.data.toList.drop (k + 1)) + 1 else 0) := ⟨by rw [E, decide_eq_true h95]⟩
        clear E
        rw [h95] at A B C
        cases a
        · cases b
          · cases c
            · go_wp2_with (first | (go_at_call 46; refine A.mono ?_; rintro e w1 ⟨rfl, hw⟩; subst hw) | (go_at_call 48; refine B.mono ?_; rintro e w1 ⟨rfl, hw⟩; subst hw) | (go_at_call 49; refine C.mono ?_; rintro e w1 ⟨rfl, hw⟩; subst hw))
              go_roundw
              case rel => exact ⟨k + 1, by go_num, by omega, ⟨by have h1 := HK.out; rw [HE.out] at h1; simp at h1; omega⟩, by first | rfl | trivial⟩
              case measure => simp [intOf]; omega
            · go_wp2_with (first | (go_at_call 46; refine A.mono ?_; rintro e w1 ⟨rfl, hw⟩; subst hw) | (go_at_call 48; refine B.mono ?_; rintro e w1 ⟨rfl, hw⟩; subst hw) | (go_at_call 49; refine C.mono ?_; rintro e w1 ⟨rfl, hw⟩; subst hw))
              go_roundw
              case rel => exact ⟨k + 1, by go_num, by omega, ⟨by have h1 := HK.out; rw [HE.out] at h1; simp at h1; omega⟩, by first | rfl | trivial⟩
              case measure => simp [intOf]; omega
          · go_wp2_with (first | (go_at_call 46; refine A.mono ?_; rintro e w1 ⟨rfl, hw⟩; subst hw) | (go_at_call 48; refine B.mono ?_; rintro e w1 ⟨rfl, hw⟩; subst hw) | (go_at_call 49; refine C.mono ?_; rintro e w1 ⟨rfl, hw⟩; subst hw))
            go_roundw
            case rel => exact ⟨k + 1, by go_num, by omega, ⟨by have h1 := HK.out; rw [HE.out] at h1; simp at h1; omega⟩, by first | rfl | trivial⟩
            case measure => simp [intOf]; omega
        · go_wp2_with (first | (go_at_call 46; refine A.mono ?_; rintro e w1 ⟨rfl, hw⟩; subst hw) | (go_at_call 48; refine B.mono ?_; rintro e w1 ⟨rfl, hw⟩; subst hw) | (go_at_call 49; refine C.mono ?_; rintro e w1 ⟨rfl, hw⟩; subst hw))
          go_roundw
          case rel => exact ⟨k + 1, by go_num, by omega, ⟨by have h1 := HK.out; rw [HE.out] at h1; simp at h1; omega⟩, by first | rfl | trivial⟩
          case measure => simp [intOf]; omega
      · have HE : Hid (runN rn (s.data.toList.drop k) = if (a || (b || (c || false))) then runN rn (s.data.toList.drop (k + 1)) + 1 else 0) := ⟨by rw [E, decide_eq_false h95]⟩
        clear E
        cases a
        · cases b
          · cases c
            · go_wp2_with (first | (go_at_call 46; refine A.mono ?_; rintro e w1 ⟨rfl, hw⟩; subst hw) | (go_at_call 48; refine B.mono ?_; rintro e w1 ⟨rfl, hw⟩; subst hw) | (go_at_call 49; refine C.mono ?_; rintro e w1 ⟨rfl, hw⟩; subst hw))
              go_ret
              have h1 := HK.out
              rw [HE.out] at h1
              simp at h1
              exact ⟨by rw [← h1]; rfl, rfl⟩
            · go_wp2_with (first | (go_at_call 46; refine A.mono ?_; rintro e w1 ⟨rfl, hw⟩; subst hw) | (go_at_call 48; refine B.mono ?_; rintro e w1 ⟨rfl, hw⟩; subst hw) | (go_at_call 49; refine C.mono ?_; rintro e w1 ⟨rfl, hw⟩; subst hw))
              go_roundw
              case rel => exact ⟨k + 1, by go_num, by omega, ⟨by have h1 := HK.out; rw [HE.out] at h1; simp at h1; omega⟩, by first | rfl | trivial⟩
              case measure => simp [intOf]; omega
          · go_wp2_with (first | (go_at_call 46; refine A.mono ?_; rintro e w1 ⟨rfl, hw⟩; subst hw) | (go_at_call 48; refine B.mono ?_; rintro e w1 ⟨rfl, hw⟩; subst hw) | (go_at_call 49; refine C.mono ?_; rintro e w1 ⟨rfl, hw⟩; subst hw))
            go_roundw
            case rel => exact ⟨k + 1, by go_num, by omega, ⟨by have h1 := HK.out; rw [HE.out] at h1; simp at h1; omega⟩, by first | rfl | trivial⟩
            case measure => simp [intOf]; omega
        · go_wp2_with (first | (go_at_call 46; refine A.mono ?_; rintro e w1 ⟨rfl, hw⟩; subst hw) | (go_at_call 48; refine B.mono ?_; rintro e w1 ⟨rfl, hw⟩; subst hw) | (go_at_call 49; refine C.mono ?_; rintro e w1 ⟨rfl, hw⟩; subst hw))
          go_roundw
          case rel => exact ⟨k + 1, by go_num, by omega, ⟨by have h1 := HK.out; rw [HE.out] at h1; simp at h1; omega⟩, by first | rfl | trivial⟩
          case measure => simp [intOf]; omega
    · obtain rfl : k = s.size := by omega
      have h1 := HK.out
      rw [List.drop_eq_nil_of_le (by simp)] at h1
      simp [runN] at h1
      subst h1
      go_wp2
      go_ret
      exact ⟨rfl, rfl⟩

theorem skip_blank (s : ByteArray) (k : Nat) (h : k < s.size) (hb : bl ((s[k]'h).toNat) = true) : skipN false (s.data.toList.drop k) = skipN false (s.data.toList.drop (k + 1)) + 1 := by
  rw [get_list s k h, skipN, if_pos hb]
theorem head_of (s : ByteArray) (k : Nat) (h : k < s.size) : (s.data.toList.drop k).head?.map (·.toNat) = some (s[k]'h).toNat := by
  rw [get_list s k h]; rfl
theorem head_none (s : ByteArray) (k : Nat) (h : ¬ k < s.size) : (s.data.toList.drop k).head?.map (·.toNat) = none := by
  rw [List.drop_eq_nil_of_le (by simp; omega)]; rfl
theorem skip_rem (s : ByteArray) (k : Nat) (h : k + 1 < s.size) (h1 : ((s[k]'(by omega)).toNat : Int) = 45) (h2 : ((s[k + 1]'h).toNat : Int) = 45) : skipN false (s.data.toList.drop k) = skipN true (s.data.toList.drop (k + 1)) + 1 := by
  have e1 : (s[k]'(by omega)).toNat = 45 := by omega
  have e2 : (s[k + 1]'h).toNat = 45 := by omega
  rw [get_list s k (by omega), skipN, if_neg (by rw [e1]; decide), if_pos ⟨e1, by rw [head_of s (k + 1) h, e2]⟩]
theorem skip_none (s : ByteArray) (k : Nat) (h : k < s.size) (hb : bl ((s[k]'h).toNat) = false) (hn : ¬ (((s[k]'h).toNat : Int) = 45 ∧ ∃ h2 : k + 1 < s.size, ((s[k + 1]'h2).toNat : Int) = 45)) : skipN false (s.data.toList.drop k) = 0 := by
  rw [get_list s k h, skipN, if_neg (by rw [hb]; decide), if_neg]
  rintro ⟨e1, e2⟩
  by_cases h2 : k + 1 < s.size
  · rw [head_of s (k + 1) h2] at e2
    injection e2 with e2
    exact hn ⟨by omega, h2, by omega⟩
  · rw [head_none s (k + 1) h2] at e2
    cases e2
theorem skip_in (s : ByteArray) (k : Nat) (h : k < s.size) (h1 : ¬ ((s[k]'h).toNat : Int) = 10) : skipN true (s.data.toList.drop k) = skipN true (s.data.toList.drop (k + 1)) + 1 := by
  rw [get_list s k h, skipN, if_neg (by omega)]
theorem skip_out (s : ByteArray) (k : Nat) (h : k < s.size) (h1 : ((s[k]'h).toNat : Int) = 10) : skipN true (s.data.toList.drop k) = skipN false (s.data.toList.drop k) := by
  rw [skip_blank s k h (by rw [h1]; decide), get_list s k h, skipN, if_pos (by omega)]
theorem skip_end (b : Bool) (s : ByteArray) : skipN b (s.data.toList.drop s.size) = 0 := by
  rw [List.drop_eq_nil_of_le (by simp)]; cases b <;> rfl

end Go.Proofs.YtofgnpehlheeiaaGreatDoor

/- The document's own walk over blanks and remarks. -/
namespace Go.Proofs.YtofgnpehlheeiaaGreatDoor
open Go.RowKit
set_option linter.unusedVariables false

set_option maxHeartbeats 2000000 in
theorem skip_any (s : ByteArray) (i : Nat) (hi : i ≤ s.size) (hs : s.size ≤ 9223372036854775806) (w : World) :
    Calls Tryz.prog 25 #[.string s, .int .i64 i] w fun e w' => e = .returned (.int .i64 ((i + skipN false (s.data.toList.drop i) : Nat) : Int)) ∧ w' = w := by
  obtain ⟨r, hr⟩ : ∃ r : Nat, i + skipN false (s.data.toList.drop i) = r := ⟨_, rfl⟩
  have HR : Hid (i + skipN false (s.data.toList.drop i) = r) := ⟨hr⟩
  rw [hr]
  clear hr
  go_enter Tryz.func25, Tryz.ntmps25
  go_wp2
  go_loopw [1] (fun c wr => ∃ k : Nat, c = .int .i64 k ∧ k ≤ s.size ∧ Hid (k + skipN false (s.data.toList.drop k) = r) ∧ w = wr) (fun c _ => s.size - (intOf c).toNat)
  case atStart => exact ⟨i, rfl, hi, HR, rfl⟩
  case round =>
    obtain ⟨k, rfl, hk2, HK, rfl⟩ := hrel
    by_cases hlt : k < s.size
    · have A := rblank_any ((s[k]'hlt).toNat) w
      obtain ⟨a, ha⟩ : ∃ a, bl ((s[k]'hlt).toNat) = a := ⟨_, rfl⟩
      rw [ha] at A
      cases a
      · by_cases h1 : ((s[k]'hlt).toNat : Int) = 45
        · by_cases h2 : k + 1 < s.size
          · have z1 : (k : Int) + 1 < s.size := by omega
            have z2 : (0 : Int) ≤ (k : Int) + 1 := by omega
            have z3 : ((k : Int) + 1).toNat = k + 1 := by omega
            by_cases h3 : ((s[k + 1]'h2).toNat : Int) = 45
            · have HE : Hid (skipN false (s.data.toList.drop k) = skipN true (s.data.toList.drop k)) := ⟨by rw [skip_rem s k h2 h1 h3, skip_in s k hlt (by omega)]⟩
              clear ha
              have Hb : Hid (((s[k]'hlt).toNat : Int) = 45) := ⟨h1⟩
              rw [h1] at A
              go_wp2_with (go_at_call 44; refine A.mono ?_; rintro e w1 ⟨rfl, hw⟩; subst w1)
              clear A h1 h3
              go_loopw [1] (fun c wr => ∃ j : Nat, c = .int .i64 j ∧ k ≤ j ∧ j ≤ s.size ∧ Hid (j + skipN true (s.data.toList.drop j) = r) ∧ w = wr) (fun c _ => s.size - (intOf c).toNat)
              case atStart => exact ⟨k, rfl, Nat.le_refl _, by omega, ⟨by rw [← HE.out]; exact HK.out⟩, rfl⟩
              case round =>
                obtain ⟨j, rfl, hj1, hj2, HJ, rfl⟩ := hrel
                by_cases hjl : j < s.size
                · by_cases h4 : ((s[j]'hjl).toNat : Int) = 10
                  · have HO : Hid (j + skipN false (s.data.toList.drop j) = r) := ⟨by rw [← skip_out s j hjl h4]; exact HJ.out⟩
                    have hkj : k < j := by
                      rcases Nat.lt_or_ge k j with q | q
                      · exact q
                      · obtain rfl : k = j := by omega
                        have := Hb.out; omega
                    go_wp2
                    go_roundw
                    case rel => exact ⟨j, rfl, hj2, HO, by first | rfl | trivial⟩
                    case measure => simp [intOf]; omega
                  · have HO : Hid ((j + 1) + skipN true (s.data.toList.drop (j + 1)) = r) := ⟨by have := HJ.out; rw [skip_in s j hjl h4] at this; omega⟩
                    go_wp2
                    go_roundw
                    case rel => exact ⟨j + 1, by go_num, by omega, by omega, HO, by first | rfl | trivial⟩
                    case measure => simp [intOf]; omega
                · obtain rfl : j = s.size := by omega
                  have HO : Hid (s.size + skipN false (s.data.toList.drop s.size) = r) := ⟨by have := HJ.out; rw [skip_end] at this; rw [skip_end]; exact this⟩
                  go_wp2
                  go_roundw
                  case rel => exact ⟨s.size, rfl, Nat.le_refl _, HO, by first | rfl | trivial⟩
                  case measure => simp [intOf]; omega
            · have HE : Hid (skipN false (s.data.toList.drop k) = 0) := ⟨skip_none s k hlt ha (by rintro ⟨_, _, q⟩; exact h3 q)⟩
              clear ha
              rw [h1] at A
              go_wp2_with (go_at_call 44; refine A.mono ?_; rintro e w1 ⟨rfl, hw⟩; subst w1)
              go_ret
              exact ⟨retInt (by have := HK.out; rw [HE.out] at this; omega), rfl⟩
          · have HE : Hid (skipN false (s.data.toList.drop k) = 0) := ⟨skip_none s k hlt ha (by rintro ⟨_, q, _⟩; exact h2 q)⟩
            clear ha
            have z1 : ¬ (k : Int) + 1 < s.size := by omega
            rw [h1] at A
            go_wp2_with (go_at_call 44; refine A.mono ?_; rintro e w1 ⟨rfl, hw⟩; subst w1)
            go_ret
            exact ⟨retInt (by have := HK.out; rw [HE.out] at this; omega), rfl⟩
        · have HE : Hid (skipN false (s.data.toList.drop k) = 0) := ⟨skip_none s k hlt ha (by rintro ⟨q, _⟩; exact h1 q)⟩
          clear ha
          go_wp2_with (go_at_call 44; refine A.mono ?_; rintro e w1 ⟨rfl, hw⟩; subst w1)
          go_ret
          exact ⟨retInt (by have := HK.out; rw [HE.out] at this; omega), rfl⟩
      · have HE : Hid ((k + 1) + skipN false (s.data.toList.drop (k + 1)) = r) := ⟨by have := HK.out; rw [skip_blank s k hlt ha] at this; omega⟩
        clear ha
        go_wp2_with (go_at_call 44; refine A.mono ?_; rintro e w1 ⟨rfl, hw⟩; subst w1)
        go_roundw
        case rel => exact ⟨k + 1, by go_num, by omega, HE, by first | rfl | trivial⟩
        case measure => simp [intOf]; omega
    · obtain rfl : k = s.size := by omega
      have h1 := HK.out
      rw [skip_end] at h1
      simp at h1
      subst h1
      go_wp2
      go_ret
      exact ⟨rfl, rfl⟩

end Go.Proofs.YtofgnpehlheeiaaGreatDoor
