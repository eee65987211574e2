/- Package lex's reading of one token: words and numbers. -/
import Derived.Test.YtcbdolflgpmaoaaDoorSigns
import Derived.Laws.DeepStrings4
import Derived.Test.YtcbdolflgpmaoaaDoorNext
namespace Go.Proofs.YtcbdolflgpmaoaaDoor
open Go.RowKit
set_option linter.unusedVariables false

theorem take_len {l : List UInt8} {n : Nat} (h : n ≤ l.length) : (l.take n).length = n := by simp; omega
theorem readT_small {c : UInt8} {r : List UInt8} (h : sm c.toNat = true) :
    readT (c :: r) = wordR (if resv ((c :: r).take (runN rn (c :: r))) then 6 else 1) ((c :: r).take (runN rn (c :: r))) := by
  unfold readT one wordR
  simp only [h, if_true, take_len (runN_le rn (c :: r))]
theorem readT_great {c : UInt8} {r : List UInt8} (h1 : sm c.toNat = false) (h : gr c.toNat = true) :
    readT (c :: r) = wordR 2 ((c :: r).take (runN rn (c :: r))) := by
  unfold readT one wordR
  simp only [h1, h, if_true, Bool.false_eq_true, if_false, take_len (runN_le rn (c :: r))]
theorem readT_prim {c : UInt8} {r : List UInt8} (h : c.toNat = 35) (h2 : sm (nxt r) = true) :
    readT (c :: r) = wordR 3 ((c :: r).take (runN rn r + 1)) := by
  unfold readT one wordR
  have h1 : sm c.toNat = false := by rw [h]; decide
  have h3 : gr c.toNat = false := by rw [h]; decide
  have hl := runN_le rn r
  simp only [h1, h3, Bool.false_eq_true, if_false]
  rw [if_pos ⟨h, h2⟩]
  simp only [take_len (show runN rn r + 1 ≤ (c :: r).length by simp only [List.length_cons]; omega)]
theorem readT_num {c : UInt8} {r : List UInt8} (h1 : sm c.toNat = false) (h2 : gr c.toNat = false) (h3 : ¬ (c.toNat = 35 ∧ sm (nxt r) = true)) (h : dg c.toNat = true ∨ (c.toNat = 45 ∧ dg (nxt r) = true)) :
    readT (c :: r) = numR ((c :: r).take (runN dg r + 1)) := by
  unfold readT one numR
  have hl := runN_le dg r
  simp only [h1, h2, Bool.false_eq_true, if_false]
  rw [if_neg h3, if_pos h]
  simp only [take_len (show runN dg r + 1 ≤ (c :: r).length by simp only [List.length_cons]; omega)]
  cases numOf ((c :: r).take (runN dg r + 1)) with
  | none => rfl
  | some v => simp
theorem sign_prefix (c : UInt8) (r : List UInt8) : Lib.hasPrefix (c :: r) [45, 62] = true ↔ (c.toNat = 45 ∧ nxt r = 62) := by
  cases r with
  | nil => simp [Lib.hasPrefix, nxt]
  | cons d r =>
    simp only [Lib.hasPrefix, nxt, List.isPrefixOf, Bool.and_true, Bool.and_eq_true, beq_iff_eq]
    constructor
    · rintro ⟨rfl, rfl⟩; exact ⟨rfl, rfl⟩
    · rintro ⟨a, b⟩; exact ⟨(UInt8.toNat.inj a).symm, (UInt8.toNat.inj b).symm⟩
theorem readT_sign {c : UInt8} {r : List UInt8} (h1 : sm c.toNat = false) (h2 : gr c.toNat = false) (h3 : ¬ (c.toNat = 35 ∧ sm (nxt r) = true)) (h : ¬ (dg c.toNat = true ∨ (c.toNat = 45 ∧ dg (nxt r) = true))) :
    readT (c :: r) = if signL (c :: r) = [] then .error 20 else wordR 5 (signL (c :: r)) := by
  unfold readT one wordR signL
  simp only [h1, h2, Bool.false_eq_true, if_false]
  rw [if_neg h3, if_neg h]
  by_cases q : c.toNat = 45 ∧ nxt r = 62
  · rw [if_pos q, if_pos ((sign_prefix c r).2 q)]
    rfl
  · rw [if_neg q, if_neg (fun e => q ((sign_prefix c r).1 e))]
    by_cases q2 : sg c.toNat = true
    · simp [q2]
    · simp [q2]

theorem nxt_of (s : ByteArray) (k : Nat) (h : k < s.size) : nxt (s.data.toList.drop k) = (s[k]'h).toNat := by rw [get_list s k h]; rfl
theorem nxt_end (s : ByteArray) (k : Nat) (h : ¬ k < s.size) : nxt (s.data.toList.drop k) = 0 := by rw [List.drop_eq_nil_of_le (by simp; omega)]; rfl
theorem ext_run (s : ByteArray) (a n : Nat) : (s.extract a (a + n)).data.toList = (s.data.toList.drop a).take n := by
  rw [ext_list, List.drop_take]
  congr 1
  omega
theorem run_bound (p : Int → Bool) (s : ByteArray) (a : Nat) (h : a ≤ s.size) : a + runN p (s.data.toList.drop a) ≤ s.size := by
  have := runN_le p (s.data.toList.drop a)
  simp only [List.length_drop, Array.length_toList, ByteArray.size_data] at this
  omega
theorem runs_spell (l : List UInt8) (h : ∀ c ∈ l, dg c.toNat = true) (acc : Nat) : (∃ v, Lib.parseUintM (2 ^ 64 - 1) acc l = .ok v) ∨ Lib.parseUintM (2 ^ 64 - 1) acc l = .range := by
  induction l generalizing acc with
  | nil => exact .inl ⟨acc, by simp [Lib.parseUintM]⟩
  | cons c r ih =>
    have hc := h c (List.mem_cons_self ..)
    simp only [dg, decide_eq_true_eq] at hc
    unfold Lib.parseUintM
    rw [if_pos ⟨by omega, by omega⟩]
    split
    · exact .inr rfl
    · split
      · exact .inr rfl
      · exact ih (fun d hd => h d (List.mem_cons_of_mem _ hd)) _
theorem run_all (p : Int → Bool) : ∀ l : List UInt8, ∀ c ∈ l.take (runN p l), p c.toNat = true
  | [], c, h => by simp at h
  | d :: r, c, h => by
    unfold runN at h
    split at h
    · rename_i hd
      rw [List.take_succ_cons] at h
      rcases List.mem_cons.1 h with rfl | h
      · exact hd
      · exact run_all p r c h
    · simp at h
theorem digits_spell {c : UInt8} {r : List UInt8} (h : dg c.toNat = true ∨ (c.toNat = 45 ∧ dg (nxt r) = true)) : (∃ v, Lib.parseIntB 64 ((c :: r).take (runN dg r + 1)) = .ok v) ∨ Lib.parseIntB 64 ((c :: r).take (runN dg r + 1)) = .range := by
  rw [List.take_succ_cons]
  have hall := run_all dg r
  unfold Lib.parseIntB
  simp only
  have key : (∃ v, Lib.parseUintB 64 (if c.toNat = 43 ∨ c.toNat = 45 then r.take (runN dg r) else c :: r.take (runN dg r)) = .ok v) ∨ Lib.parseUintB 64 (if c.toNat = 43 ∨ c.toNat = 45 then r.take (runN dg r) else c :: r.take (runN dg r)) = .range := by
    rcases h with h | ⟨h, h2⟩
    · have hc := h
      simp only [dg, decide_eq_true_eq] at hc
      rw [if_neg (show ¬ (c.toNat = 43 ∨ c.toNat = 45) by omega)]
      unfold Lib.parseUintB
      rw [if_neg (by simp)]
      exact runs_spell _ (fun d hd => by
        rcases List.mem_cons.1 hd with rfl | hd
        · exact h
        · exact hall d hd) _
    · rw [if_pos (show c.toNat = 43 ∨ c.toNat = 45 from .inr h)]
      unfold Lib.parseUintB
      have hne : r.take (runN dg r) ≠ [] := by
        cases r with
        | nil => exact absurd h2 (by decide)
        | cons d r => simp only [runN, show dg d.toNat = true from h2, if_true, List.take_succ_cons]; simp
      rw [if_neg hne]
      exact runs_spell _ hall _
  rcases key with ⟨u, e⟩ | e
  · rw [e]
    simp only
    split
    · exact .inr rfl
    · split
      · exact .inr rfl
      · exact .inl ⟨_, rfl⟩
  · rw [e]
    exact .inr rfl

end Go.Proofs.YtcbdolflgpmaoaaDoor


/- Package lex's reading of one token: signs, and what is none; all together. -/
namespace Go.Proofs.YtcbdolflgpmaoaaDoor
open Go.RowKit
set_option linter.unusedVariables false

end Go.Proofs.YtcbdolflgpmaoaaDoor

