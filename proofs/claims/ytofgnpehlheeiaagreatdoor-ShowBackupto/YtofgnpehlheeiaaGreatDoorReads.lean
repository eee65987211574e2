/- The sign that a text begins with, by its rune. -/
import Derived.Test.YtofgnpehlheeiaaGreatDoorTok
import Derived.Laws.Runes
import Derived.Laws.RangeString
import Derived.Laws.DeepStrings4
namespace Go.Proofs.YtofgnpehlheeiaaGreatDoor
open Go.RowKit
set_option linter.unusedVariables false

/-- The sign that a list begins with; of none the empty list. -/
def signL (l : List UInt8) : List UInt8 :=
  if Lib.hasPrefix l [45, 62] then [45, 62] else match l with
    | [] => []
    | c :: _ => if sg c.toNat then [c] else []

theorem encode_ascii (c : UInt8) (h : c.toNat < 128) : Utf8.encode ((c.toNat : Nat) : Int) = ⟨#[c]⟩ := by
  have hv : Utf8.valid ((c.toNat : Nat) : Int) = true := by simp [Utf8.valid]; left; omega
  unfold Utf8.encode
  simp only [hv, if_true, Int.toNat_natCast]
  rw [if_pos h]
  simp
theorem decode_head (t : ByteArray) (h : 0 < t.size) (hc : (t[0]'h).toNat < 128) : (Lib.decodeGo t).1 = (t[0]'h).toNat := by
  unfold Lib.decodeGo
  rw [if_neg (by omega), decode_ascii t 0 h hc]
theorem decode_high (t : ByteArray) (h : 0 < t.size) (hc : ¬ (t[0]'h).toNat < 128) : 128 ≤ (Lib.decodeGo t).1 ∧ Utf8.valid ((Lib.decodeGo t).1 : Int) = true := by
  unfold Lib.decodeGo
  rw [if_neg (by omega)]
  have e0 : (t.get! (0 + 0)).toNat = (t[0]'h).toNat := by rw [Utf8W.get!_of_lt t (0 + 0) h]
  have e1 : ∀ x : Nat, 128 ≤ x → x < 55296 → Utf8.valid (x : Int) = true := fun x a b => by simp [Utf8.valid]; left; omega
  unfold Utf8.decode
  simp only [e0]
  have hb := (t[0]'h).toNat_lt
  generalize (t[0]'h).toNat = b at *
  rw [if_neg hc]
  split
  · split
    · rename_i h1 h2
      refine ⟨h2, e1 _ h2 ?_⟩
      have : (t.get! (0 + 1)).toNat % 64 < 64 := Nat.mod_lt _ (by decide)
      have : b % 32 < 32 := Nat.mod_lt _ (by decide)
      simp only
      omega
    · exact ⟨by decide, by decide⟩
  · split
    · split
      · rename_i h1 h2 h3
        simp only [Bool.and_eq_true, decide_eq_true_eq] at h3
        exact ⟨by simp only; omega, h3.2⟩
      · exact ⟨by decide, by decide⟩
    · split
      · split
        · rename_i h1 h2 h3 h4
          simp only [Bool.and_eq_true, decide_eq_true_eq] at h4
          exact ⟨by simp only; omega, h4.2⟩
        · exact ⟨by decide, by decide⟩
      · exact ⟨by decide, by decide⟩
theorem list_head (t : ByteArray) (h : 0 < t.size) : t.data.toList = t[0]'h :: t.data.toList.drop 1 := by
  have := get_list t 0 h
  simpa using this

set_option maxHeartbeats 1000000 in
theorem signOf_any (t : ByteArray) (h : 0 < t.size) (w : World) (L : Laid w) :
    Calls Tryz.prog 79 #[.string t] w fun e w' => e = .returned (.string (str (signL t.data.toList))) ∧ Below w.heap.size w w' := by
  have B := fun w => Tryz.strings_HasPrefix t ⟨#[45, 62]⟩ w
  have D := Tryz.utf8_DecodeRuneInString t w L.tabs
  rw [show (ByteArray.mk #[45, 62]).data.toList = [45, 62] from rfl] at B
  obtain ⟨b, hb⟩ : ∃ b, Lib.hasPrefix t.data.toList [45, 62] = b := ⟨_, rfl⟩
  rw [hb] at B
  cases b
  · by_cases hc : (t[0]'h).toNat < 128
    · rw [decode_head t h hc] at D
      have hE := encode_ascii (t[0]'h) hc
      have hS : signL t.data.toList = if sg ((t[0]'h).toNat) then [t[0]'h] else [] := by
        unfold signL
        rw [hb, list_head t h]
        rfl
      rw [hS]
      clear hS hb hc L
      generalize (Lib.decodeGo t).2 = k at *
      generalize t[0]'h = c at *
      by_cases h61 : c = 61
      · subst h61
        rw [show ((61 : UInt8).toNat : Int) = 61 from rfl] at hE D
        rw [show str (if sg (((61 : UInt8).toNat : Nat) : Int) = true then [61] else []) = ⟨#[61]⟩ from rfl]
        go_enter Tryz.func79, Tryz.ntmps79
        go_wp2_with (first | (go_at_call 85; refine (B _).mono ?_; rintro e w1 ⟨rfl, hw⟩; subst w1) | (go_at_call 86; refine D.mono ?_; rintro e w1 ⟨rfl, B1⟩))
        go_ret
        exact ⟨rfl, B1⟩
      by_cases h92 : c = 92
      · subst h92
        rw [show ((92 : UInt8).toNat : Int) = 92 from rfl] at hE D
        rw [show str (if sg (((92 : UInt8).toNat : Nat) : Int) = true then [92] else []) = ⟨#[92]⟩ from rfl]
        go_enter Tryz.func79, Tryz.ntmps79
        go_wp2_with (first | (go_at_call 85; refine (B _).mono ?_; rintro e w1 ⟨rfl, hw⟩; subst w1) | (go_at_call 86; refine D.mono ?_; rintro e w1 ⟨rfl, B1⟩))
        go_ret
        exact ⟨rfl, B1⟩
      by_cases h123 : c = 123
      · subst h123
        rw [show ((123 : UInt8).toNat : Int) = 123 from rfl] at hE D
        rw [show str (if sg (((123 : UInt8).toNat : Nat) : Int) = true then [123] else []) = ⟨#[123]⟩ from rfl]
        go_enter Tryz.func79, Tryz.ntmps79
        go_wp2_with (first | (go_at_call 85; refine (B _).mono ?_; rintro e w1 ⟨rfl, hw⟩; subst w1) | (go_at_call 86; refine D.mono ?_; rintro e w1 ⟨rfl, B1⟩))
        go_ret
        exact ⟨rfl, B1⟩
      by_cases h125 : c = 125
      · subst h125
        rw [show ((125 : UInt8).toNat : Int) = 125 from rfl] at hE D
        rw [show str (if sg (((125 : UInt8).toNat : Nat) : Int) = true then [125] else []) = ⟨#[125]⟩ from rfl]
        go_enter Tryz.func79, Tryz.ntmps79
        go_wp2_with (first | (go_at_call 85; refine (B _).mono ?_; rintro e w1 ⟨rfl, hw⟩; subst w1) | (go_at_call 86; refine D.mono ?_; rintro e w1 ⟨rfl, B1⟩))
        go_ret
        exact ⟨rfl, B1⟩
      by_cases h59 : c = 59
      · subst h59
        rw [show ((59 : UInt8).toNat : Int) = 59 from rfl] at hE D
        rw [show str (if sg (((59 : UInt8).toNat : Nat) : Int) = true then [59] else []) = ⟨#[59]⟩ from rfl]
        go_enter Tryz.func79, Tryz.ntmps79
        go_wp2_with (first | (go_at_call 85; refine (B _).mono ?_; rintro e w1 ⟨rfl, hw⟩; subst w1) | (go_at_call 86; refine D.mono ?_; rintro e w1 ⟨rfl, B1⟩))
        go_ret
        exact ⟨rfl, B1⟩
      by_cases h40 : c = 40
      · subst h40
        rw [show ((40 : UInt8).toNat : Int) = 40 from rfl] at hE D
        rw [show str (if sg (((40 : UInt8).toNat : Nat) : Int) = true then [40] else []) = ⟨#[40]⟩ from rfl]
        go_enter Tryz.func79, Tryz.ntmps79
        go_wp2_with (first | (go_at_call 85; refine (B _).mono ?_; rintro e w1 ⟨rfl, hw⟩; subst w1) | (go_at_call 86; refine D.mono ?_; rintro e w1 ⟨rfl, B1⟩))
        go_ret
        exact ⟨rfl, B1⟩
      by_cases h41 : c = 41
      · subst h41
        rw [show ((41 : UInt8).toNat : Int) = 41 from rfl] at hE D
        rw [show str (if sg (((41 : UInt8).toNat : Nat) : Int) = true then [41] else []) = ⟨#[41]⟩ from rfl]
        go_enter Tryz.func79, Tryz.ntmps79
        go_wp2_with (first | (go_at_call 85; refine (B _).mono ?_; rintro e w1 ⟨rfl, hw⟩; subst w1) | (go_at_call 86; refine D.mono ?_; rintro e w1 ⟨rfl, B1⟩))
        go_ret
        exact ⟨rfl, B1⟩
      have hn : sg (c.toNat) = false := by
        simp only [sg, decide_eq_false_iff_not]
        rintro (q | q | q | q | q | q | q)
        · exact h61 (UInt8.toNat.inj (by show c.toNat = 61; omega))
        · exact h92 (UInt8.toNat.inj (by show c.toNat = 92; omega))
        · exact h123 (UInt8.toNat.inj (by show c.toNat = 123; omega))
        · exact h125 (UInt8.toNat.inj (by show c.toNat = 125; omega))
        · exact h59 (UInt8.toNat.inj (by show c.toNat = 59; omega))
        · exact h40 (UInt8.toNat.inj (by show c.toNat = 40; omega))
        · exact h41 (UInt8.toNat.inj (by show c.toNat = 41; omega))
      rw [hn, if_neg (by decide)]
      clear hn
      generalize (c.toNat : Nat) = r at *
      have lE : (Utf8.encode (r : Int)).toList = [c] := by rw [hE, ByteArray.toList_eq]
      have z61 : ((Utf8.encode (r : Int)).toList == [61]) = false := by rw [lE]; simp [h61]
      have z92 : ((Utf8.encode (r : Int)).toList == [92]) = false := by rw [lE]; simp [h92]
      have z123 : ((Utf8.encode (r : Int)).toList == [123]) = false := by rw [lE]; simp [h123]
      have z125 : ((Utf8.encode (r : Int)).toList == [125]) = false := by rw [lE]; simp [h125]
      have z59 : ((Utf8.encode (r : Int)).toList == [59]) = false := by rw [lE]; simp [h59]
      have z40 : ((Utf8.encode (r : Int)).toList == [40]) = false := by rw [lE]; simp [h40]
      have z41 : ((Utf8.encode (r : Int)).toList == [41]) = false := by rw [lE]; simp [h41]
      clear lE hE h61 h92 h123 h125 h59 h40 h41
      go_enter Tryz.func79, Tryz.ntmps79
      go_wp2_with (first | (go_at_call 85; refine (B _).mono ?_; rintro e w1 ⟨rfl, hw⟩; subst w1) | (go_at_call 86; refine D.mono ?_; rintro e w1 ⟨rfl, B1⟩))
      go_ret
      exact ⟨rfl, B1⟩
    · obtain ⟨h1, h2⟩ := decode_high t h hc
      have hS : signL t.data.toList = [] := by
        unfold signL
        rw [hb, list_head t h]
        have : sg ((t[0]'h).toNat) = false := by
          simp only [sg, decide_eq_false_iff_not]
          omega
        simp only [this]
        rfl
      rw [hS]
      clear hS hb hc L
      generalize (Lib.decodeGo t).2 = k at *
      generalize (Lib.decodeGo t).1 = r at *
      have hsz := (encode_facts (r : Int) h2 (by omega)).1
      have hl : ∀ x : UInt8, ((Utf8.encode (r : Int)).toList == [x]) = false := fun x => by
        rw [ByteArray.toList_eq]
        simp only [beq_eq_false_iff_ne, ne_eq]
        intro q
        have := congrArg List.length q
        rw [size_list] at this
        simp only [List.length_singleton] at this
        omega
      have z61 := hl 61
      have z92 := hl 92
      have z123 := hl 123
      have z125 := hl 125
      have z59 := hl 59
      have z40 := hl 40
      have z41 := hl 41
      clear hl hsz h1 h2
      go_enter Tryz.func79, Tryz.ntmps79
      go_wp2_with (first | (go_at_call 85; refine (B _).mono ?_; rintro e w1 ⟨rfl, hw⟩; subst w1) | (go_at_call 86; refine D.mono ?_; rintro e w1 ⟨rfl, B1⟩))
      go_ret
      exact ⟨rfl, B1⟩
  · have hS : signL t.data.toList = [45, 62] := by unfold signL; rw [hb]; rfl
    rw [hS]
    clear hS hb L D
    go_enter Tryz.func79, Tryz.ntmps79
    go_wp2_with (go_at_call 85; refine (B _).mono ?_; rintro e w1 ⟨rfl, hw⟩; subst w1)
    go_ret
    exact ⟨rfl, Below.refl _ _⟩

end Go.Proofs.YtofgnpehlheeiaaGreatDoor

/- Package lex's reading of one token: words and numbers. -/
namespace Go.Proofs.YtofgnpehlheeiaaGreatDoor
open Go.RowKit
set_option linter.unusedVariables false

theorem take_len {l : List UInt8} {n : Nat} (h : n ≤ l.length) : (l.take n).length = n := by simp; omega
theorem readT_small {c : UInt8} {r : List UInt8} (h : sm c.toNat = true) :
    readT (c :: r) = wordR (if resv ((c :: r).take (runN rn (c :: r))) then 6 else 1) ((c :: r).take (runN rn (c :: r))) := by
  unfold readT one wordR
  simp only [h, if_true, take_len (runN_le rn (c :: r))]
theorem readT_great {c : UInt8} {r : List UInt8} (h1 : sm c.toNat = false) (h : gr c.toNat = true) :
    readT (c :: r) = wordR 2 ((c :: r).take (runN rn (c :: r))) := by
  unfold readT one wordR
  simp only [h1, h, if_true, Bool.false_eq_true, if_false, take_len (runN_le rn (c :: r))]
theorem readT_prim {c : UInt8} {r : List UInt8} (h : c.toNat = 35) (h2 : sm (nxt r) = true) :
    readT (c :: r) = wordR 3 ((c :: r).take (runN rn r + 1)) := by
  unfold readT one wordR
  have h1 : sm c.toNat = false := by rw [h]; decide
  have h3 : gr c.toNat = false := by rw [h]; decide
  have hl := runN_le rn r
  simp only [h1, h3, Bool.false_eq_true, if_false]
  rw [if_pos ⟨h, h2⟩]
  simp only [take_len (show runN rn r + 1 ≤ (c :: r).length by simp only [List.length_cons]; omega)]
theorem readT_num {c : UInt8} {r : List UInt8} (h1 : sm c.toNat = false) (h2 : gr c.toNat = false) (h3 : ¬ (c.toNat = 35 ∧ sm (nxt r) = true)) (h : dg c.toNat = true ∨ (c.toNat = 45 ∧ dg (nxt r) = true)) :
    readT (c :: r) = numR ((c :: r).take (runN dg r + 1)) := by
  unfold readT one numR
  have hl := runN_le dg r
  simp only [h1, h2, Bool.false_eq_true, if_false]
  rw [if_neg h3, if_pos h]
  simp only [take_len (show runN dg r + 1 ≤ (c :: r).length by simp only [List.length_cons]; omega)]
  cases numOf ((c :: r).take (runN dg r + 1)) with
  | none => rfl
  | some v => simp
theorem sign_prefix (c : UInt8) (r : List UInt8) : Lib.hasPrefix (c :: r) [45, 62] = true ↔ (c.toNat = 45 ∧ nxt r = 62) := by
  cases r with
  | nil => simp [Lib.hasPrefix, nxt]
  | cons d r =>
    simp only [Lib.hasPrefix, nxt, List.isPrefixOf, Bool.and_true, Bool.and_eq_true, beq_iff_eq]
    constructor
    · rintro ⟨rfl, rfl⟩; exact ⟨rfl, rfl⟩
    · rintro ⟨a, b⟩; exact ⟨(UInt8.toNat.inj a).symm, (UInt8.toNat.inj b).symm⟩
theorem readT_sign {c : UInt8} {r : List UInt8} (h1 : sm c.toNat = false) (h2 : gr c.toNat = false) (h3 : ¬ (c.toNat = 35 ∧ sm (nxt r) = true)) (h : ¬ (dg c.toNat = true ∨ (c.toNat = 45 ∧ dg (nxt r) = true))) :
    readT (c :: r) = if signL (c :: r) = [] then .error 20 else wordR 5 (signL (c :: r)) := by
  unfold readT one wordR signL
  simp only [h1, h2, Bool.false_eq_true, if_false]
  rw [if_neg h3, if_neg h]
  by_cases q : c.toNat = 45 ∧ nxt r = 62
  · rw [if_pos q, if_pos ((sign_prefix c r).2 q)]
    rfl
  · rw [if_neg q, if_neg (fun e => q ((sign_prefix c r).1 e))]
    by_cases q2 : sg c.toNat = true
    · simp [q2]
    · simp [q2]

theorem nxt_of (s : ByteArray) (k : Nat) (h : k < s.size) : nxt (s.data.toList.drop k) = (s[k]'h).toNat := by rw [get_list s k h]; rfl
theorem nxt_end (s : ByteArray) (k : Nat) (h : ¬ k < s.size) : nxt (s.data.toList.drop k) = 0 := by rw [List.drop_eq_nil_of_le (by simp; omega)]; rfl
theorem ext_run (s : ByteArray) (a n : Nat) : (s.extract a (a + n)).data.toList = (s.data.toList.drop a).take n := by
  rw [ext_list, List.drop_take]
  congr 1
  omega
theorem run_bound (p : Int → Bool) (s : ByteArray) (a : Nat) (h : a ≤ s.size) : a + runN p (s.data.toList.drop a) ≤ s.size := by
  have := runN_le p (s.data.toList.drop a)
  simp only [List.length_drop, Array.length_toList, ByteArray.size_data] at this
  omega
theorem runs_spell (l : List UInt8) (h : ∀ c ∈ l, dg c.toNat = true) (acc : Nat) : (∃ v, Lib.parseUintM (2 ^ 64 - 1) acc l = .ok v) ∨ Lib.parseUintM (2 ^ 64 - 1) acc l = .range := by
  induction l generalizing acc with
  | nil => exact .inl ⟨acc, by simp [Lib.parseUintM]⟩
  | cons c r ih =>
    have hc := h c (List.mem_cons_self ..)
    simp only [dg, decide_eq_true_eq] at hc
    unfold Lib.parseUintM
    rw [if_pos ⟨by omega, by omega⟩]
    split
    · exact .inr rfl
    · split
      · exact .inr rfl
      · exact ih (fun d hd => h d (List.mem_cons_of_mem _ hd)) _
theorem run_all (p : Int → Bool) : ∀ l : List UInt8, ∀ c ∈ l.take (runN p l), p c.toNat = true
  | [], c, h => by simp at h
  | d :: r, c, h => by
    unfold runN at h
    split at h
    · rename_i hd
      rw [List.take_succ_cons] at h
      rcases List.mem_cons.1 h with rfl | h
      · exact hd
      · exact run_all p r c h
    · simp at h
theorem digits_spell {c : UInt8} {r : List UInt8} (h : dg c.toNat = true ∨ (c.toNat = 45 ∧ dg (nxt r) = true)) : (∃ v, Lib.parseIntB 64 ((c :: r).take (runN dg r + 1)) = .ok v) ∨ Lib.parseIntB 64 ((c :: r).take (runN dg r + 1)) = .range := by
  rw [List.take_succ_cons]
  have hall := run_all dg r
  unfold Lib.parseIntB
  simp only
  have key : (∃ v, Lib.parseUintB 64 (if c.toNat = 43 ∨ c.toNat = 45 then r.take (runN dg r) else c :: r.take (runN dg r)) = .ok v) ∨ Lib.parseUintB 64 (if c.toNat = 43 ∨ c.toNat = 45 then r.take (runN dg r) else c :: r.take (runN dg r)) = .range := by
    rcases h with h | ⟨h, h2⟩
    · have hc := h
      simp only [dg, decide_eq_true_eq] at hc
      rw [if_neg (show ¬ (c.toNat = 43 ∨ c.toNat = 45) by omega)]
      unfold Lib.parseUintB
      rw [if_neg (by simp)]
      exact runs_spell _ (fun d hd => by
        rcases List.mem_cons.1 hd with rfl | hd
        · exact h
        · exact hall d hd) _
    · rw [if_pos (show c.toNat = 43 ∨ c.toNat = 45 from .inr h)]
      unfold Lib.parseUintB
      have hne : r.take (runN dg r) ≠ [] := by
        cases r with
        | nil => exact absurd h2 (by decide)
        | cons d r => simp only [runN, show dg d.toNat = true from h2, if_true, List.take_succ_cons]; simp
      rw [if_neg hne]
      exact runs_spell _ hall _
  rcases key with ⟨u, e⟩ | e
  · rw [e]
    simp only
    split
    · exact .inr rfl
    · split
      · exact .inr rfl
      · exact .inl ⟨_, rfl⟩
  · rw [e]
    exact .inr rfl

set_option maxHeartbeats 2000000 in
theorem read_small_n (s : ByteArray) (a : Nat) (h : a < s.size) (hs : s.size ≤ 281474976710656) (w : World) (L : Laid w) (h2 : a + 1 < s.size) (hsm : sm ((s[a]'h).toNat : Int) = true) :
    Calls Tryz.prog 69 #[.string s, .int .i64 a] w fun e w' => e = .returned (readV (readT (s.data.toList.drop a)) a) ∧ Below w.heap.size w w' := by
  have G := Tk4.fresh w 0 ⟨#[]⟩ 0 0
  have L1 := L.later (Joins.below_alloc1 w (Obj.cells #[.int .i64 0, .string ⟨#[]⟩, .int .i64 0, .int .i64 0] 58))
  have z0 : (a : Int) < s.size := by omega
  have z4 : (a : Int) ≤ s.size := by omega
  have sm0 : sm 0 = false := by decide
  have dg0 : dg 0 = false := by decide
  have sm35 : sm 35 = false := by decide
  have gr35 : gr 35 = false := by decide
  have dg35 : dg 35 = false := by decide
  have sm45 : sm 45 = false := by decide
  have gr45 : gr 45 = false := by decide
  have dg45 : dg 45 = false := by decide
  have z1 : (a : Int) + 1 < s.size := by omega
  have z2 : (0 : Int) ≤ (a : Int) + 1 := by omega
  have z3 : ((a : Int) + 1).toNat = a + 1 := by omega
  obtain ⟨e, he⟩ : ∃ e, a + runN rn (s.data.toList.drop a) = e := ⟨_, rfl⟩
  have P := fun w => past39 s a (by omega) (by omega) w
  have bd := run_bound rn s a (by omega)
  have tx : (s.extract a e).data.toList = (s.data.toList.drop a).take (runN rn (s.data.toList.drop a)) := by rw [← he]; exact ext_run s a _
  rw [he] at P bd
  have x1 : (e : Int) ≤ s.size := by omega
  have x2 : (a : Int) ≤ e := by omega
  have SK := fun w => smallKind_any (s.extract a e) w
  obtain ⟨kd, hk⟩ : ∃ kd : Int, (if resv (s.extract a e).data.toList then (6 : Int) else 1) = kd := ⟨_, rfl⟩
  rw [hk] at SK
  obtain ⟨K, T, A, E1, E2, HV, W⟩ := worded_any (if resv (s.extract a e).data.toList then 6 else 1) a (s.extract a e) (by omega)
  simp only [tokV] at W
  rw [hk] at W
  have HX : Hid (readV (readT (s.data.toList.drop a)) a = Value.tuple #[tokV K T 0 A, .int .i64 E1, .int .i64 E2]) := ⟨by
    rw [HV.out, tx]
    rw [get_list s a h, readT_small hsm, ← get_list s a h]⟩
  clear HV he tx hk
  go_enter Tryz.func69, Tryz.ntmps69
  go_wp2_with (first
    | (go_at_call 71; refine (isSmall_any _ _).mono ?_; rintro e w1 ⟨rfl, hw⟩; subst w1)
    | (go_at_call 76; refine (isGreat_any _ _).mono ?_; rintro e w1 ⟨rfl, hw⟩; subst w1)
    | (go_at_call 77; refine (isDigit_any _ _).mono ?_; rintro e w1 ⟨rfl, hw⟩; subst w1)
    | (go_at_call 72; refine (P _).mono ?_; rintro e w1 ⟨rfl, hw⟩; subst w1)
    | (go_at_call 75; refine (SK _).mono ?_; rintro e w1 ⟨rfl, hw⟩; subst w1)
    | (go_at_call 74; refine (W _).mono ?_; rintro e w1 ⟨rfl, B1⟩; have G1 := G.later B1; have f0 := G1.free 0; have f1 := G1.free 1; have f2 := G1.free 2; have f3 := G1.free 3; obtain ⟨y0, y1, y2, y3⟩ := G1.at))
  refine bodyPost_ret (v := .tuple #[tokV K T 0 A, .int .i64 E1, .int .i64 E2]) (by simp [results, Tryz.results69, go_sem, tokV, y0, y1, y2, y3]) rfl ⟨by rw [HX.out], ?_⟩
  exact ((((far1 B1).setCell (by simp) _).setCell (by simp) _).setCell (by simp) _).setCell (by simp) _

set_option maxHeartbeats 2000000 in
theorem read_great_n (s : ByteArray) (a : Nat) (h : a < s.size) (hs : s.size ≤ 281474976710656) (w : World) (L : Laid w) (h2 : a + 1 < s.size) (hsm : sm ((s[a]'h).toNat : Int) = false) (hgr : gr ((s[a]'h).toNat : Int) = true) :
    Calls Tryz.prog 69 #[.string s, .int .i64 a] w fun e w' => e = .returned (readV (readT (s.data.toList.drop a)) a) ∧ Below w.heap.size w w' := by
  have G := Tk4.fresh w 0 ⟨#[]⟩ 0 0
  have L1 := L.later (Joins.below_alloc1 w (Obj.cells #[.int .i64 0, .string ⟨#[]⟩, .int .i64 0, .int .i64 0] 58))
  have z0 : (a : Int) < s.size := by omega
  have z4 : (a : Int) ≤ s.size := by omega
  have sm0 : sm 0 = false := by decide
  have dg0 : dg 0 = false := by decide
  have sm35 : sm 35 = false := by decide
  have gr35 : gr 35 = false := by decide
  have dg35 : dg 35 = false := by decide
  have sm45 : sm 45 = false := by decide
  have gr45 : gr 45 = false := by decide
  have dg45 : dg 45 = false := by decide
  have z1 : (a : Int) + 1 < s.size := by omega
  have z2 : (0 : Int) ≤ (a : Int) + 1 := by omega
  have z3 : ((a : Int) + 1).toNat = a + 1 := by omega
  obtain ⟨e, he⟩ : ∃ e, a + runN rn (s.data.toList.drop a) = e := ⟨_, rfl⟩
  have P := fun w => past39 s a (by omega) (by omega) w
  have bd := run_bound rn s a (by omega)
  have tx : (s.extract a e).data.toList = (s.data.toList.drop a).take (runN rn (s.data.toList.drop a)) := by rw [← he]; exact ext_run s a _
  rw [he] at P bd
  have x1 : (e : Int) ≤ s.size := by omega
  have x2 : (a : Int) ≤ e := by omega
  have SK := fun w => smallKind_any (s.extract a e) w
  obtain ⟨kd, hk⟩ : ∃ kd : Int, (if resv (s.extract a e).data.toList then (6 : Int) else 1) = kd := ⟨_, rfl⟩
  rw [hk] at SK
  obtain ⟨K, T, A, E1, E2, HV, W⟩ := worded_any 2 a (s.extract a e) (by omega)
  simp only [tokV] at W
  have HX : Hid (readV (readT (s.data.toList.drop a)) a = Value.tuple #[tokV K T 0 A, .int .i64 E1, .int .i64 E2]) := ⟨by
    rw [HV.out, tx]
    rw [get_list s a h, readT_great hsm hgr, ← get_list s a h]⟩
  clear HV he tx hk
  go_enter Tryz.func69, Tryz.ntmps69
  go_wp2_with (first
    | (go_at_call 71; refine (isSmall_any _ _).mono ?_; rintro e w1 ⟨rfl, hw⟩; subst w1)
    | (go_at_call 76; refine (isGreat_any _ _).mono ?_; rintro e w1 ⟨rfl, hw⟩; subst w1)
    | (go_at_call 77; refine (isDigit_any _ _).mono ?_; rintro e w1 ⟨rfl, hw⟩; subst w1)
    | (go_at_call 72; refine (P _).mono ?_; rintro e w1 ⟨rfl, hw⟩; subst w1)
    | (go_at_call 75; refine (SK _).mono ?_; rintro e w1 ⟨rfl, hw⟩; subst w1)
    | (go_at_call 74; refine (W _).mono ?_; rintro e w1 ⟨rfl, B1⟩; have G1 := G.later B1; have f0 := G1.free 0; have f1 := G1.free 1; have f2 := G1.free 2; have f3 := G1.free 3; obtain ⟨y0, y1, y2, y3⟩ := G1.at))
  refine bodyPost_ret (v := .tuple #[tokV K T 0 A, .int .i64 E1, .int .i64 E2]) (by simp [results, Tryz.results69, go_sem, tokV, y0, y1, y2, y3]) rfl ⟨by rw [HX.out], ?_⟩
  exact ((((far1 B1).setCell (by simp) _).setCell (by simp) _).setCell (by simp) _).setCell (by simp) _

set_option maxHeartbeats 2000000 in
theorem read_small_e (s : ByteArray) (a : Nat) (h : a < s.size) (hs : s.size ≤ 281474976710656) (w : World) (L : Laid w) (h2 : ¬ a + 1 < s.size) (hsm : sm ((s[a]'h).toNat : Int) = true) :
    Calls Tryz.prog 69 #[.string s, .int .i64 a] w fun e w' => e = .returned (readV (readT (s.data.toList.drop a)) a) ∧ Below w.heap.size w w' := by
  have G := Tk4.fresh w 0 ⟨#[]⟩ 0 0
  have L1 := L.later (Joins.below_alloc1 w (Obj.cells #[.int .i64 0, .string ⟨#[]⟩, .int .i64 0, .int .i64 0] 58))
  have z0 : (a : Int) < s.size := by omega
  have z4 : (a : Int) ≤ s.size := by omega
  have sm0 : sm 0 = false := by decide
  have dg0 : dg 0 = false := by decide
  have sm35 : sm 35 = false := by decide
  have gr35 : gr 35 = false := by decide
  have dg35 : dg 35 = false := by decide
  have sm45 : sm 45 = false := by decide
  have gr45 : gr 45 = false := by decide
  have dg45 : dg 45 = false := by decide
  have z1 : ¬ (a : Int) + 1 < s.size := by omega
  obtain ⟨e, he⟩ : ∃ e, a + runN rn (s.data.toList.drop a) = e := ⟨_, rfl⟩
  have P := fun w => past39 s a (by omega) (by omega) w
  have bd := run_bound rn s a (by omega)
  have tx : (s.extract a e).data.toList = (s.data.toList.drop a).take (runN rn (s.data.toList.drop a)) := by rw [← he]; exact ext_run s a _
  rw [he] at P bd
  have x1 : (e : Int) ≤ s.size := by omega
  have x2 : (a : Int) ≤ e := by omega
  have SK := fun w => smallKind_any (s.extract a e) w
  obtain ⟨kd, hk⟩ : ∃ kd : Int, (if resv (s.extract a e).data.toList then (6 : Int) else 1) = kd := ⟨_, rfl⟩
  rw [hk] at SK
  obtain ⟨K, T, A, E1, E2, HV, W⟩ := worded_any (if resv (s.extract a e).data.toList then 6 else 1) a (s.extract a e) (by omega)
  simp only [tokV] at W
  rw [hk] at W
  have HX : Hid (readV (readT (s.data.toList.drop a)) a = Value.tuple #[tokV K T 0 A, .int .i64 E1, .int .i64 E2]) := ⟨by
    rw [HV.out, tx]
    rw [get_list s a h, readT_small hsm, ← get_list s a h]⟩
  clear HV he tx hk
  go_enter Tryz.func69, Tryz.ntmps69
  go_wp2_with (first
    | (go_at_call 71; refine (isSmall_any _ _).mono ?_; rintro e w1 ⟨rfl, hw⟩; subst w1)
    | (go_at_call 76; refine (isGreat_any _ _).mono ?_; rintro e w1 ⟨rfl, hw⟩; subst w1)
    | (go_at_call 77; refine (isDigit_any _ _).mono ?_; rintro e w1 ⟨rfl, hw⟩; subst w1)
    | (go_at_call 72; refine (P _).mono ?_; rintro e w1 ⟨rfl, hw⟩; subst w1)
    | (go_at_call 75; refine (SK _).mono ?_; rintro e w1 ⟨rfl, hw⟩; subst w1)
    | (go_at_call 74; refine (W _).mono ?_; rintro e w1 ⟨rfl, B1⟩; have G1 := G.later B1; have f0 := G1.free 0; have f1 := G1.free 1; have f2 := G1.free 2; have f3 := G1.free 3; obtain ⟨y0, y1, y2, y3⟩ := G1.at))
  refine bodyPost_ret (v := .tuple #[tokV K T 0 A, .int .i64 E1, .int .i64 E2]) (by simp [results, Tryz.results69, go_sem, tokV, y0, y1, y2, y3]) rfl ⟨by rw [HX.out], ?_⟩
  exact ((((far1 B1).setCell (by simp) _).setCell (by simp) _).setCell (by simp) _).setCell (by simp) _

set_option maxHeartbeats 2000000 in
theorem read_great_e (s : ByteArray) (a : Nat) (h : a < s.size) (hs : s.size ≤ 281474976710656) (w : World) (L : Laid w) (h2 : ¬ a + 1 < s.size) (hsm : sm ((s[a]'h).toNat : Int) = false) (hgr : gr ((s[a]'h).toNat : Int) = true) :
    Calls Tryz.prog 69 #[.string s, .int .i64 a] w fun e w' => e = .returned (readV (readT (s.data.toList.drop a)) a) ∧ Below w.heap.size w w' := by
  have G := Tk4.fresh w 0 ⟨#[]⟩ 0 0
  have L1 := L.later (Joins.below_alloc1 w (Obj.cells #[.int .i64 0, .string ⟨#[]⟩, .int .i64 0, .int .i64 0] 58))
  have z0 : (a : Int) < s.size := by omega
  have z4 : (a : Int) ≤ s.size := by omega
  have sm0 : sm 0 = false := by decide
  have dg0 : dg 0 = false := by decide
  have sm35 : sm 35 = false := by decide
  have gr35 : gr 35 = false := by decide
  have dg35 : dg 35 = false := by decide
  have sm45 : sm 45 = false := by decide
  have gr45 : gr 45 = false := by decide
  have dg45 : dg 45 = false := by decide
  have z1 : ¬ (a : Int) + 1 < s.size := by omega
  obtain ⟨e, he⟩ : ∃ e, a + runN rn (s.data.toList.drop a) = e := ⟨_, rfl⟩
  have P := fun w => past39 s a (by omega) (by omega) w
  have bd := run_bound rn s a (by omega)
  have tx : (s.extract a e).data.toList = (s.data.toList.drop a).take (runN rn (s.data.toList.drop a)) := by rw [← he]; exact ext_run s a _
  rw [he] at P bd
  have x1 : (e : Int) ≤ s.size := by omega
  have x2 : (a : Int) ≤ e := by omega
  have SK := fun w => smallKind_any (s.extract a e) w
  obtain ⟨kd, hk⟩ : ∃ kd : Int, (if resv (s.extract a e).data.toList then (6 : Int) else 1) = kd := ⟨_, rfl⟩
  rw [hk] at SK
  obtain ⟨K, T, A, E1, E2, HV, W⟩ := worded_any 2 a (s.extract a e) (by omega)
  simp only [tokV] at W
  have HX : Hid (readV (readT (s.data.toList.drop a)) a = Value.tuple #[tokV K T 0 A, .int .i64 E1, .int .i64 E2]) := ⟨by
    rw [HV.out, tx]
    rw [get_list s a h, readT_great hsm hgr, ← get_list s a h]⟩
  clear HV he tx hk
  go_enter Tryz.func69, Tryz.ntmps69
  go_wp2_with (first
    | (go_at_call 71; refine (isSmall_any _ _).mono ?_; rintro e w1 ⟨rfl, hw⟩; subst w1)
    | (go_at_call 76; refine (isGreat_any _ _).mono ?_; rintro e w1 ⟨rfl, hw⟩; subst w1)
    | (go_at_call 77; refine (isDigit_any _ _).mono ?_; rintro e w1 ⟨rfl, hw⟩; subst w1)
    | (go_at_call 72; refine (P _).mono ?_; rintro e w1 ⟨rfl, hw⟩; subst w1)
    | (go_at_call 75; refine (SK _).mono ?_; rintro e w1 ⟨rfl, hw⟩; subst w1)
    | (go_at_call 74; refine (W _).mono ?_; rintro e w1 ⟨rfl, B1⟩; have G1 := G.later B1; have f0 := G1.free 0; have f1 := G1.free 1; have f2 := G1.free 2; have f3 := G1.free 3; obtain ⟨y0, y1, y2, y3⟩ := G1.at))
  refine bodyPost_ret (v := .tuple #[tokV K T 0 A, .int .i64 E1, .int .i64 E2]) (by simp [results, Tryz.results69, go_sem, tokV, y0, y1, y2, y3]) rfl ⟨by rw [HX.out], ?_⟩
  exact ((((far1 B1).setCell (by simp) _).setCell (by simp) _).setCell (by simp) _).setCell (by simp) _

set_option maxHeartbeats 2000000 in
theorem read_prim (s : ByteArray) (a : Nat) (h : a < s.size) (hs : s.size ≤ 281474976710656) (w : World) (L : Laid w) (h2 : a + 1 < s.size) (hc : ((s[a]'h).toNat : Int) = 35) (hn : sm ((s[a + 1]'h2).toNat : Int) = true) :
    Calls Tryz.prog 69 #[.string s, .int .i64 a] w fun e w' => e = .returned (readV (readT (s.data.toList.drop a)) a) ∧ Below w.heap.size w w' := by
  have G := Tk4.fresh w 0 ⟨#[]⟩ 0 0
  have L1 := L.later (Joins.below_alloc1 w (Obj.cells #[.int .i64 0, .string ⟨#[]⟩, .int .i64 0, .int .i64 0] 58))
  have z0 : (a : Int) < s.size := by omega
  have z4 : (a : Int) ≤ s.size := by omega
  have sm0 : sm 0 = false := by decide
  have dg0 : dg 0 = false := by decide
  have sm35 : sm 35 = false := by decide
  have gr35 : gr 35 = false := by decide
  have dg35 : dg 35 = false := by decide
  have sm45 : sm 45 = false := by decide
  have gr45 : gr 45 = false := by decide
  have dg45 : dg 45 = false := by decide
  have z1 : (a : Int) + 1 < s.size := by omega
  have z2 : (0 : Int) ≤ (a : Int) + 1 := by omega
  have z3 : ((a : Int) + 1).toNat = a + 1 := by omega
  obtain ⟨e, he⟩ : ∃ e, a + 1 + runN rn (s.data.toList.drop (a + 1)) = e := ⟨_, rfl⟩
  have P := fun w => past39 s (a + 1) (by omega) (by omega) w
  have bd := run_bound rn s (a + 1) (by omega)
  have tx : (s.extract a e).data.toList = (s.data.toList.drop a).take (runN rn (s.data.toList.drop (a + 1)) + 1) := by rw [← he, show a + 1 + runN rn (s.data.toList.drop (a + 1)) = a + (runN rn (s.data.toList.drop (a + 1)) + 1) by omega]; exact ext_run s a _
  rw [he] at P bd
  rw [show ((a + 1 : Nat) : Int) = (a : Int) + 1 from rfl] at P
  have x1 : (e : Int) ≤ s.size := by omega
  have x2 : (a : Int) ≤ e := by omega
  have SK := fun w => smallKind_any (s.extract a e) w
  obtain ⟨K, T, A, E1, E2, HV, W⟩ := worded_any 3 a (s.extract a e) (by omega)
  simp only [tokV] at W
  have HX : Hid (readV (readT (s.data.toList.drop a)) a = Value.tuple #[tokV K T 0 A, .int .i64 E1, .int .i64 E2]) := ⟨by
    rw [HV.out, tx, get_list s a h, readT_prim (by omega) (by rw [nxt_of s (a + 1) h2]; exact hn), ← get_list s a h]⟩
  clear HV he tx
  go_enter Tryz.func69, Tryz.ntmps69
  go_wp2_with (first
    | (go_at_call 71; refine (isSmall_any _ _).mono ?_; rintro e w1 ⟨rfl, hw⟩; subst w1)
    | (go_at_call 76; refine (isGreat_any _ _).mono ?_; rintro e w1 ⟨rfl, hw⟩; subst w1)
    | (go_at_call 77; refine (isDigit_any _ _).mono ?_; rintro e w1 ⟨rfl, hw⟩; subst w1)
    | (go_at_call 72; refine (P _).mono ?_; rintro e w1 ⟨rfl, hw⟩; subst w1)
    | (go_at_call 75; refine (SK _).mono ?_; rintro e w1 ⟨rfl, hw⟩; subst w1)
    | (go_at_call 74; refine (W _).mono ?_; rintro e w1 ⟨rfl, B1⟩; have G1 := G.later B1; have f0 := G1.free 0; have f1 := G1.free 1; have f2 := G1.free 2; have f3 := G1.free 3; obtain ⟨y0, y1, y2, y3⟩ := G1.at))
  refine bodyPost_ret (v := .tuple #[tokV K T 0 A, .int .i64 E1, .int .i64 E2]) (by simp [results, Tryz.results69, go_sem, tokV, y0, y1, y2, y3]) rfl ⟨by rw [HX.out], ?_⟩
  exact ((((far1 B1).setCell (by simp) _).setCell (by simp) _).setCell (by simp) _).setCell (by simp) _

set_option maxHeartbeats 2000000 in
theorem read_dig_n (s : ByteArray) (a : Nat) (h : a < s.size) (hs : s.size ≤ 281474976710656) (w : World) (L : Laid w) (h2 : a + 1 < s.size) (hsm : sm ((s[a]'h).toNat : Int) = false) (hgr : gr ((s[a]'h).toNat : Int) = false) (hc : ¬ ((s[a]'h).toNat : Int) = 35) (hdg : dg ((s[a]'h).toNat : Int) = true) :
    Calls Tryz.prog 69 #[.string s, .int .i64 a] w fun e w' => e = .returned (readV (readT (s.data.toList.drop a)) a) ∧ Below w.heap.size w w' := by
  have G := Tk4.fresh w 0 ⟨#[]⟩ 0 0
  have L1 := L.later (Joins.below_alloc1 w (Obj.cells #[.int .i64 0, .string ⟨#[]⟩, .int .i64 0, .int .i64 0] 58))
  have z0 : (a : Int) < s.size := by omega
  have z4 : (a : Int) ≤ s.size := by omega
  have sm0 : sm 0 = false := by decide
  have dg0 : dg 0 = false := by decide
  have sm35 : sm 35 = false := by decide
  have gr35 : gr 35 = false := by decide
  have dg35 : dg 35 = false := by decide
  have sm45 : sm 45 = false := by decide
  have gr45 : gr 45 = false := by decide
  have dg45 : dg 45 = false := by decide
  have z1 : (a : Int) + 1 < s.size := by omega
  have z2 : (0 : Int) ≤ (a : Int) + 1 := by omega
  have z3 : ((a : Int) + 1).toNat = a + 1 := by omega
  obtain ⟨e, he⟩ : ∃ e, a + 1 + runN dg (s.data.toList.drop (a + 1)) = e := ⟨_, rfl⟩
  have P := fun w => past43 s (a + 1) (by omega) (by omega) w
  have bd := run_bound dg s (a + 1) (by omega)
  have tx : (s.extract a e).data.toList = (s.data.toList.drop a).take (runN dg (s.data.toList.drop (a + 1)) + 1) := by rw [← he, show a + 1 + runN dg (s.data.toList.drop (a + 1)) = a + (runN dg (s.data.toList.drop (a + 1)) + 1) by omega]; exact ext_run s a _
  rw [he] at P bd
  rw [show ((a + 1 : Nat) : Int) = (a : Int) + 1 from rfl] at P
  have x1 : (e : Int) ≤ s.size := by omega
  have x2 : (a : Int) ≤ e := by omega
  have SK := fun w => smallKind_any (s.extract a e) w
  have hD : dg (s[a]'h).toNat = true ∨ ((s[a]'h).toNat = 45 ∧ dg (nxt (s.data.toList.drop (a + 1))) = true) := .inl hdg
  obtain ⟨K, v, A, E1, E2, HV, W⟩ := numbered_any a (s.extract a e) (by rw [tx, get_list s a h]; exact digits_spell hD) (by rw [← size_list, tx]; simp; omega) (by omega)
  simp only [tokV] at W
  have HX : Hid (readV (readT (s.data.toList.drop a)) a = Value.tuple #[tokV K ⟨#[]⟩ v A, .int .i64 E1, .int .i64 E2]) := ⟨by
    rw [HV.out, tx, get_list s a h, readT_num hsm hgr (by omega) hD, ← get_list s a h]⟩
  clear HV he tx hD
  go_enter Tryz.func69, Tryz.ntmps69
  go_wp2_with (first
    | (go_at_call 71; refine (isSmall_any _ _).mono ?_; rintro e w1 ⟨rfl, hw⟩; subst w1)
    | (go_at_call 76; refine (isGreat_any _ _).mono ?_; rintro e w1 ⟨rfl, hw⟩; subst w1)
    | (go_at_call 77; refine (isDigit_any _ _).mono ?_; rintro e w1 ⟨rfl, hw⟩; subst w1)
    | (go_at_call 72; refine (P _).mono ?_; rintro e w1 ⟨rfl, hw⟩; subst w1)
    | (go_at_call 75; refine (SK _).mono ?_; rintro e w1 ⟨rfl, hw⟩; subst w1)
    | (go_at_call 78; refine (W _ L1).mono ?_; rintro e w1 ⟨rfl, B1⟩; have G1 := G.later B1; have f0 := G1.free 0; have f1 := G1.free 1; have f2 := G1.free 2; have f3 := G1.free 3; obtain ⟨y0, y1, y2, y3⟩ := G1.at))
  refine bodyPost_ret (v := .tuple #[tokV K ⟨#[]⟩ v A, .int .i64 E1, .int .i64 E2]) (by simp [results, Tryz.results69, go_sem, tokV, y0, y1, y2, y3]) rfl ⟨by rw [HX.out], ?_⟩
  exact ((((far1 B1).setCell (by simp) _).setCell (by simp) _).setCell (by simp) _).setCell (by simp) _

set_option maxHeartbeats 2000000 in
theorem read_dig_e (s : ByteArray) (a : Nat) (h : a < s.size) (hs : s.size ≤ 281474976710656) (w : World) (L : Laid w) (h2 : ¬ a + 1 < s.size) (hsm : sm ((s[a]'h).toNat : Int) = false) (hgr : gr ((s[a]'h).toNat : Int) = false) (hc : ¬ ((s[a]'h).toNat : Int) = 35) (hdg : dg ((s[a]'h).toNat : Int) = true) :
    Calls Tryz.prog 69 #[.string s, .int .i64 a] w fun e w' => e = .returned (readV (readT (s.data.toList.drop a)) a) ∧ Below w.heap.size w w' := by
  have G := Tk4.fresh w 0 ⟨#[]⟩ 0 0
  have L1 := L.later (Joins.below_alloc1 w (Obj.cells #[.int .i64 0, .string ⟨#[]⟩, .int .i64 0, .int .i64 0] 58))
  have z0 : (a : Int) < s.size := by omega
  have z4 : (a : Int) ≤ s.size := by omega
  have sm0 : sm 0 = false := by decide
  have dg0 : dg 0 = false := by decide
  have sm35 : sm 35 = false := by decide
  have gr35 : gr 35 = false := by decide
  have dg35 : dg 35 = false := by decide
  have sm45 : sm 45 = false := by decide
  have gr45 : gr 45 = false := by decide
  have dg45 : dg 45 = false := by decide
  have z1 : ¬ (a : Int) + 1 < s.size := by omega
  obtain ⟨e, he⟩ : ∃ e, a + 1 + runN dg (s.data.toList.drop (a + 1)) = e := ⟨_, rfl⟩
  have P := fun w => past43 s (a + 1) (by omega) (by omega) w
  have bd := run_bound dg s (a + 1) (by omega)
  have tx : (s.extract a e).data.toList = (s.data.toList.drop a).take (runN dg (s.data.toList.drop (a + 1)) + 1) := by rw [← he, show a + 1 + runN dg (s.data.toList.drop (a + 1)) = a + (runN dg (s.data.toList.drop (a + 1)) + 1) by omega]; exact ext_run s a _
  rw [he] at P bd
  rw [show ((a + 1 : Nat) : Int) = (a : Int) + 1 from rfl] at P
  have x1 : (e : Int) ≤ s.size := by omega
  have x2 : (a : Int) ≤ e := by omega
  have SK := fun w => smallKind_any (s.extract a e) w
  have hD : dg (s[a]'h).toNat = true ∨ ((s[a]'h).toNat = 45 ∧ dg (nxt (s.data.toList.drop (a + 1))) = true) := .inl hdg
  obtain ⟨K, v, A, E1, E2, HV, W⟩ := numbered_any a (s.extract a e) (by rw [tx, get_list s a h]; exact digits_spell hD) (by rw [← size_list, tx]; simp; omega) (by omega)
  simp only [tokV] at W
  have HX : Hid (readV (readT (s.data.toList.drop a)) a = Value.tuple #[tokV K ⟨#[]⟩ v A, .int .i64 E1, .int .i64 E2]) := ⟨by
    rw [HV.out, tx, get_list s a h, readT_num hsm hgr (by omega) hD, ← get_list s a h]⟩
  clear HV he tx hD
  go_enter Tryz.func69, Tryz.ntmps69
  go_wp2_with (first
    | (go_at_call 71; refine (isSmall_any _ _).mono ?_; rintro e w1 ⟨rfl, hw⟩; subst w1)
    | (go_at_call 76; refine (isGreat_any _ _).mono ?_; rintro e w1 ⟨rfl, hw⟩; subst w1)
    | (go_at_call 77; refine (isDigit_any _ _).mono ?_; rintro e w1 ⟨rfl, hw⟩; subst w1)
    | (go_at_call 72; refine (P _).mono ?_; rintro e w1 ⟨rfl, hw⟩; subst w1)
    | (go_at_call 75; refine (SK _).mono ?_; rintro e w1 ⟨rfl, hw⟩; subst w1)
    | (go_at_call 78; refine (W _ L1).mono ?_; rintro e w1 ⟨rfl, B1⟩; have G1 := G.later B1; have f0 := G1.free 0; have f1 := G1.free 1; have f2 := G1.free 2; have f3 := G1.free 3; obtain ⟨y0, y1, y2, y3⟩ := G1.at))
  refine bodyPost_ret (v := .tuple #[tokV K ⟨#[]⟩ v A, .int .i64 E1, .int .i64 E2]) (by simp [results, Tryz.results69, go_sem, tokV, y0, y1, y2, y3]) rfl ⟨by rw [HX.out], ?_⟩
  exact ((((far1 B1).setCell (by simp) _).setCell (by simp) _).setCell (by simp) _).setCell (by simp) _

set_option maxHeartbeats 2000000 in
theorem read_minus (s : ByteArray) (a : Nat) (h : a < s.size) (hs : s.size ≤ 281474976710656) (w : World) (L : Laid w) (h2 : a + 1 < s.size) (hc : ((s[a]'h).toNat : Int) = 45) (hn : dg ((s[a + 1]'h2).toNat : Int) = true) :
    Calls Tryz.prog 69 #[.string s, .int .i64 a] w fun e w' => e = .returned (readV (readT (s.data.toList.drop a)) a) ∧ Below w.heap.size w w' := by
  have G := Tk4.fresh w 0 ⟨#[]⟩ 0 0
  have L1 := L.later (Joins.below_alloc1 w (Obj.cells #[.int .i64 0, .string ⟨#[]⟩, .int .i64 0, .int .i64 0] 58))
  have z0 : (a : Int) < s.size := by omega
  have z4 : (a : Int) ≤ s.size := by omega
  have sm0 : sm 0 = false := by decide
  have dg0 : dg 0 = false := by decide
  have sm35 : sm 35 = false := by decide
  have gr35 : gr 35 = false := by decide
  have dg35 : dg 35 = false := by decide
  have sm45 : sm 45 = false := by decide
  have gr45 : gr 45 = false := by decide
  have dg45 : dg 45 = false := by decide
  have z1 : (a : Int) + 1 < s.size := by omega
  have z2 : (0 : Int) ≤ (a : Int) + 1 := by omega
  have z3 : ((a : Int) + 1).toNat = a + 1 := by omega
  obtain ⟨e, he⟩ : ∃ e, a + 1 + runN dg (s.data.toList.drop (a + 1)) = e := ⟨_, rfl⟩
  have P := fun w => past43 s (a + 1) (by omega) (by omega) w
  have bd := run_bound dg s (a + 1) (by omega)
  have tx : (s.extract a e).data.toList = (s.data.toList.drop a).take (runN dg (s.data.toList.drop (a + 1)) + 1) := by rw [← he, show a + 1 + runN dg (s.data.toList.drop (a + 1)) = a + (runN dg (s.data.toList.drop (a + 1)) + 1) by omega]; exact ext_run s a _
  rw [he] at P bd
  rw [show ((a + 1 : Nat) : Int) = (a : Int) + 1 from rfl] at P
  have x1 : (e : Int) ≤ s.size := by omega
  have x2 : (a : Int) ≤ e := by omega
  have SK := fun w => smallKind_any (s.extract a e) w
  have hD : dg (s[a]'h).toNat = true ∨ ((s[a]'h).toNat = 45 ∧ dg (nxt (s.data.toList.drop (a + 1))) = true) := .inr ⟨by omega, by rw [nxt_of s (a + 1) h2]; exact hn⟩
  obtain ⟨K, v, A, E1, E2, HV, W⟩ := numbered_any a (s.extract a e) (by rw [tx, get_list s a h]; exact digits_spell hD) (by rw [← size_list, tx]; simp; omega) (by omega)
  simp only [tokV] at W
  have HX : Hid (readV (readT (s.data.toList.drop a)) a = Value.tuple #[tokV K ⟨#[]⟩ v A, .int .i64 E1, .int .i64 E2]) := ⟨by
    rw [HV.out, tx, get_list s a h, readT_num (by rw [hc]; decide) (by rw [hc]; decide) (by omega) hD, ← get_list s a h]⟩
  clear HV he tx hD
  go_enter Tryz.func69, Tryz.ntmps69
  go_wp2_with (first
    | (go_at_call 71; refine (isSmall_any _ _).mono ?_; rintro e w1 ⟨rfl, hw⟩; subst w1)
    | (go_at_call 76; refine (isGreat_any _ _).mono ?_; rintro e w1 ⟨rfl, hw⟩; subst w1)
    | (go_at_call 77; refine (isDigit_any _ _).mono ?_; rintro e w1 ⟨rfl, hw⟩; subst w1)
    | (go_at_call 72; refine (P _).mono ?_; rintro e w1 ⟨rfl, hw⟩; subst w1)
    | (go_at_call 75; refine (SK _).mono ?_; rintro e w1 ⟨rfl, hw⟩; subst w1)
    | (go_at_call 78; refine (W _ L1).mono ?_; rintro e w1 ⟨rfl, B1⟩; have G1 := G.later B1; have f0 := G1.free 0; have f1 := G1.free 1; have f2 := G1.free 2; have f3 := G1.free 3; obtain ⟨y0, y1, y2, y3⟩ := G1.at))
  refine bodyPost_ret (v := .tuple #[tokV K ⟨#[]⟩ v A, .int .i64 E1, .int .i64 E2]) (by simp [results, Tryz.results69, go_sem, tokV, y0, y1, y2, y3]) rfl ⟨by rw [HX.out], ?_⟩
  exact ((((far1 B1).setCell (by simp) _).setCell (by simp) _).setCell (by simp) _).setCell (by simp) _

end Go.Proofs.YtofgnpehlheeiaaGreatDoor

/- Package lex's reading of one token: signs, and what is none; all together. -/
namespace Go.Proofs.YtofgnpehlheeiaaGreatDoor
open Go.RowKit
set_option linter.unusedVariables false

set_option maxHeartbeats 2000000 in
theorem read_hash_n_f (s : ByteArray) (a : Nat) (h : a < s.size) (hs : s.size ≤ 281474976710656) (w : World) (L : Laid w) (h2 : a + 1 < s.size) (hc : ((s[a]'h).toNat : Int) = 35) (hn : sm ((s[a + 1]'h2).toNat : Int) = false) (hg : ¬ signL (s.data.toList.drop a) = []) :
    Calls Tryz.prog 69 #[.string s, .int .i64 a] w fun e w' => e = .returned (readV (readT (s.data.toList.drop a)) a) ∧ Below w.heap.size w w' := by
  have G := Tk4.fresh w 0 ⟨#[]⟩ 0 0
  have L1 := L.later (Joins.below_alloc1 w (Obj.cells #[.int .i64 0, .string ⟨#[]⟩, .int .i64 0, .int .i64 0] 58))
  have z0 : (a : Int) < s.size := by omega
  have z4 : (a : Int) ≤ s.size := by omega
  have sm0 : sm 0 = false := by decide
  have dg0 : dg 0 = false := by decide
  have sm35 : sm 35 = false := by decide
  have gr35 : gr 35 = false := by decide
  have dg35 : dg 35 = false := by decide
  have sm45 : sm 45 = false := by decide
  have gr45 : gr 45 = false := by decide
  have dg45 : dg 45 = false := by decide
  have z1 : (a : Int) + 1 < s.size := by omega
  have z2 : (0 : Int) ≤ (a : Int) + 1 := by omega
  have z3 : ((a : Int) + 1).toNat = a + 1 := by omega
  have hR : readT (s.data.toList.drop a) = if signL (s.data.toList.drop a) = [] then .error 20 else wordR 5 (signL (s.data.toList.drop a)) := by
    rw [get_list s a h]
    exact readT_sign (by rw [hc]; decide) (by rw [hc]; decide) (by rw [nxt_of s (a + 1) h2]; rintro ⟨_, q⟩; rw [hn] at q; cases q) (by rw [hc]; rintro (q | ⟨q, _⟩); (exact absurd q (by decide)); omega)
  have SG := fun w L => signOf_any (s.extract a s.size) (by simp [ByteArray.size_extract]; omega) w L
  rw [ext_end] at SG
  rw [if_neg hg] at hR
  obtain ⟨g, hgg⟩ : ∃ g, str (signL (s.data.toList.drop a)) = g := ⟨_, rfl⟩
  have gl : g.data.toList = signL (s.data.toList.drop a) := by rw [← hgg, str_list]
  have gz : (g.toList == []) = false := by rw [ByteArray.toList_eq, gl]; simpa using hg
  rw [hgg] at SG
  obtain ⟨K, T, A, E1, E2, HV, W⟩ := worded_any 5 a g (by omega)
  simp only [tokV] at W
  have HX : Hid (readV (readT (s.data.toList.drop a)) a = Value.tuple #[tokV K T 0 A, .int .i64 E1, .int .i64 E2]) := ⟨by rw [HV.out, gl, hR]⟩
  clear HV hgg gl hR hg
  go_enter Tryz.func69, Tryz.ntmps69
  go_wp2_with (first
    | (go_at_call 71; refine (isSmall_any _ _).mono ?_; rintro e w1 ⟨rfl, hw⟩; subst w1)
    | (go_at_call 76; refine (isGreat_any _ _).mono ?_; rintro e w1 ⟨rfl, hw⟩; subst w1)
    | (go_at_call 77; refine (isDigit_any _ _).mono ?_; rintro e w1 ⟨rfl, hw⟩; subst w1)
    | (go_at_call 79; refine (SG _ L1).mono ?_; rintro e w1 ⟨rfl, B1⟩; have G1 := G.later B1)
    | (go_at_call 74; refine (W _).mono ?_; rintro e w2 ⟨rfl, B2⟩; have G2 := G1.later B2; have f0 := G2.free 0; have f1 := G2.free 1; have f2 := G2.free 2; have f3 := G2.free 3; obtain ⟨y0, y1, y2, y3⟩ := G2.at))
  refine bodyPost_ret (v := .tuple #[tokV K T 0 A, .int .i64 E1, .int .i64 E2]) (by simp [results, Tryz.results69, go_sem, tokV, y0, y1, y2, y3]) rfl ⟨by rw [HX.out], ?_⟩
  exact (((((far1 B1).trans (Joins.below_le B2 (far1 B1).size)).setCell (by simp) _).setCell (by simp) _).setCell (by simp) _).setCell (by simp) _

set_option maxHeartbeats 2000000 in
theorem read_hash_n_n (s : ByteArray) (a : Nat) (h : a < s.size) (hs : s.size ≤ 281474976710656) (w : World) (L : Laid w) (h2 : a + 1 < s.size) (hc : ((s[a]'h).toNat : Int) = 35) (hn : sm ((s[a + 1]'h2).toNat : Int) = false) (hg : signL (s.data.toList.drop a) = []) :
    Calls Tryz.prog 69 #[.string s, .int .i64 a] w fun e w' => e = .returned (readV (readT (s.data.toList.drop a)) a) ∧ Below w.heap.size w w' := by
  have G := Tk4.fresh w 0 ⟨#[]⟩ 0 0
  have L1 := L.later (Joins.below_alloc1 w (Obj.cells #[.int .i64 0, .string ⟨#[]⟩, .int .i64 0, .int .i64 0] 58))
  have z0 : (a : Int) < s.size := by omega
  have z4 : (a : Int) ≤ s.size := by omega
  have sm0 : sm 0 = false := by decide
  have dg0 : dg 0 = false := by decide
  have sm35 : sm 35 = false := by decide
  have gr35 : gr 35 = false := by decide
  have dg35 : dg 35 = false := by decide
  have sm45 : sm 45 = false := by decide
  have gr45 : gr 45 = false := by decide
  have dg45 : dg 45 = false := by decide
  have z1 : (a : Int) + 1 < s.size := by omega
  have z2 : (0 : Int) ≤ (a : Int) + 1 := by omega
  have z3 : ((a : Int) + 1).toNat = a + 1 := by omega
  have hR : readT (s.data.toList.drop a) = if signL (s.data.toList.drop a) = [] then .error 20 else wordR 5 (signL (s.data.toList.drop a)) := by
    rw [get_list s a h]
    exact readT_sign (by rw [hc]; decide) (by rw [hc]; decide) (by rw [nxt_of s (a + 1) h2]; rintro ⟨_, q⟩; rw [hn] at q; cases q) (by rw [hc]; rintro (q | ⟨q, _⟩); (exact absurd q (by decide)); omega)
  have SG := fun w L => signOf_any (s.extract a s.size) (by simp [ByteArray.size_extract]; omega) w L
  rw [ext_end] at SG
  rw [if_pos hg] at hR
  rw [hg] at SG
  rw [show str [] = ⟨#[]⟩ from rfl] at SG
  have HX : Hid (readV (readT (s.data.toList.drop a)) a = Value.tuple #[tokV 0 ⟨#[]⟩ 0 0, .int .i64 0, .int .i64 20]) := ⟨by rw [hR]; rfl⟩
  clear hR hg
  go_enter Tryz.func69, Tryz.ntmps69
  go_wp2_with (first
    | (go_at_call 71; refine (isSmall_any _ _).mono ?_; rintro e w1 ⟨rfl, hw⟩; subst w1)
    | (go_at_call 76; refine (isGreat_any _ _).mono ?_; rintro e w1 ⟨rfl, hw⟩; subst w1)
    | (go_at_call 77; refine (isDigit_any _ _).mono ?_; rintro e w1 ⟨rfl, hw⟩; subst w1)
    | (go_at_call 79; refine (SG _ L1).mono ?_; rintro e w1 ⟨rfl, B1⟩; have G1 := G.later B1; have f0 := G1.free 0; have f1 := G1.free 1; have f2 := G1.free 2; have f3 := G1.free 3; obtain ⟨y0, y1, y2, y3⟩ := G1.at))
  refine bodyPost_ret (v := .tuple #[tokV 0 ⟨#[]⟩ 0 0, .int .i64 0, .int .i64 20]) (by simp [results, Tryz.results69, go_sem, tokV, y0, y1, y2, y3]) rfl ⟨by rw [HX.out], ?_⟩
  exact ((((far1 B1).setCell (by simp) _).setCell (by simp) _).setCell (by simp) _).setCell (by simp) _

set_option maxHeartbeats 2000000 in
theorem read_hash_e_f (s : ByteArray) (a : Nat) (h : a < s.size) (hs : s.size ≤ 281474976710656) (w : World) (L : Laid w) (h2 : ¬ a + 1 < s.size) (hc : ((s[a]'h).toNat : Int) = 35) (hg : ¬ signL (s.data.toList.drop a) = []) :
    Calls Tryz.prog 69 #[.string s, .int .i64 a] w fun e w' => e = .returned (readV (readT (s.data.toList.drop a)) a) ∧ Below w.heap.size w w' := by
  have G := Tk4.fresh w 0 ⟨#[]⟩ 0 0
  have L1 := L.later (Joins.below_alloc1 w (Obj.cells #[.int .i64 0, .string ⟨#[]⟩, .int .i64 0, .int .i64 0] 58))
  have z0 : (a : Int) < s.size := by omega
  have z4 : (a : Int) ≤ s.size := by omega
  have sm0 : sm 0 = false := by decide
  have dg0 : dg 0 = false := by decide
  have sm35 : sm 35 = false := by decide
  have gr35 : gr 35 = false := by decide
  have dg35 : dg 35 = false := by decide
  have sm45 : sm 45 = false := by decide
  have gr45 : gr 45 = false := by decide
  have dg45 : dg 45 = false := by decide
  have z1 : ¬ (a : Int) + 1 < s.size := by omega
  have hR : readT (s.data.toList.drop a) = if signL (s.data.toList.drop a) = [] then .error 20 else wordR 5 (signL (s.data.toList.drop a)) := by
    rw [get_list s a h]
    exact readT_sign (by rw [hc]; decide) (by rw [hc]; decide) (by rw [nxt_end s (a + 1) h2]; rintro ⟨_, q⟩; exact absurd q (by decide)) (by rw [hc]; rintro (q | ⟨q, _⟩); (exact absurd q (by decide)); omega)
  have SG := fun w L => signOf_any (s.extract a s.size) (by simp [ByteArray.size_extract]; omega) w L
  rw [ext_end] at SG
  rw [if_neg hg] at hR
  obtain ⟨g, hgg⟩ : ∃ g, str (signL (s.data.toList.drop a)) = g := ⟨_, rfl⟩
  have gl : g.data.toList = signL (s.data.toList.drop a) := by rw [← hgg, str_list]
  have gz : (g.toList == []) = false := by rw [ByteArray.toList_eq, gl]; simpa using hg
  rw [hgg] at SG
  obtain ⟨K, T, A, E1, E2, HV, W⟩ := worded_any 5 a g (by omega)
  simp only [tokV] at W
  have HX : Hid (readV (readT (s.data.toList.drop a)) a = Value.tuple #[tokV K T 0 A, .int .i64 E1, .int .i64 E2]) := ⟨by rw [HV.out, gl, hR]⟩
  clear HV hgg gl hR hg
  go_enter Tryz.func69, Tryz.ntmps69
  go_wp2_with (first
    | (go_at_call 71; refine (isSmall_any _ _).mono ?_; rintro e w1 ⟨rfl, hw⟩; subst w1)
    | (go_at_call 76; refine (isGreat_any _ _).mono ?_; rintro e w1 ⟨rfl, hw⟩; subst w1)
    | (go_at_call 77; refine (isDigit_any _ _).mono ?_; rintro e w1 ⟨rfl, hw⟩; subst w1)
    | (go_at_call 79; refine (SG _ L1).mono ?_; rintro e w1 ⟨rfl, B1⟩; have G1 := G.later B1)
    | (go_at_call 74; refine (W _).mono ?_; rintro e w2 ⟨rfl, B2⟩; have G2 := G1.later B2; have f0 := G2.free 0; have f1 := G2.free 1; have f2 := G2.free 2; have f3 := G2.free 3; obtain ⟨y0, y1, y2, y3⟩ := G2.at))
  refine bodyPost_ret (v := .tuple #[tokV K T 0 A, .int .i64 E1, .int .i64 E2]) (by simp [results, Tryz.results69, go_sem, tokV, y0, y1, y2, y3]) rfl ⟨by rw [HX.out], ?_⟩
  exact (((((far1 B1).trans (Joins.below_le B2 (far1 B1).size)).setCell (by simp) _).setCell (by simp) _).setCell (by simp) _).setCell (by simp) _

set_option maxHeartbeats 2000000 in
theorem read_hash_e_n (s : ByteArray) (a : Nat) (h : a < s.size) (hs : s.size ≤ 281474976710656) (w : World) (L : Laid w) (h2 : ¬ a + 1 < s.size) (hc : ((s[a]'h).toNat : Int) = 35) (hg : signL (s.data.toList.drop a) = []) :
    Calls Tryz.prog 69 #[.string s, .int .i64 a] w fun e w' => e = .returned (readV (readT (s.data.toList.drop a)) a) ∧ Below w.heap.size w w' := by
  have G := Tk4.fresh w 0 ⟨#[]⟩ 0 0
  have L1 := L.later (Joins.below_alloc1 w (Obj.cells #[.int .i64 0, .string ⟨#[]⟩, .int .i64 0, .int .i64 0] 58))
  have z0 : (a : Int) < s.size := by omega
  have z4 : (a : Int) ≤ s.size := by omega
  have sm0 : sm 0 = false := by decide
  have dg0 : dg 0 = false := by decide
  have sm35 : sm 35 = false := by decide
  have gr35 : gr 35 = false := by decide
  have dg35 : dg 35 = false := by decide
  have sm45 : sm 45 = false := by decide
  have gr45 : gr 45 = false := by decide
  have dg45 : dg 45 = false := by decide
  have z1 : ¬ (a : Int) + 1 < s.size := by omega
  have hR : readT (s.data.toList.drop a) = if signL (s.data.toList.drop a) = [] then .error 20 else wordR 5 (signL (s.data.toList.drop a)) := by
    rw [get_list s a h]
    exact readT_sign (by rw [hc]; decide) (by rw [hc]; decide) (by rw [nxt_end s (a + 1) h2]; rintro ⟨_, q⟩; exact absurd q (by decide)) (by rw [hc]; rintro (q | ⟨q, _⟩); (exact absurd q (by decide)); omega)
  have SG := fun w L => signOf_any (s.extract a s.size) (by simp [ByteArray.size_extract]; omega) w L
  rw [ext_end] at SG
  rw [if_pos hg] at hR
  rw [hg] at SG
  rw [show str [] = ⟨#[]⟩ from rfl] at SG
  have HX : Hid (readV (readT (s.data.toList.drop a)) a = Value.tuple #[tokV 0 ⟨#[]⟩ 0 0, .int .i64 0, .int .i64 20]) := ⟨by rw [hR]; rfl⟩
  clear hR hg
  go_enter Tryz.func69, Tryz.ntmps69
  go_wp2_with (first
    | (go_at_call 71; refine (isSmall_any _ _).mono ?_; rintro e w1 ⟨rfl, hw⟩; subst w1)
    | (go_at_call 76; refine (isGreat_any _ _).mono ?_; rintro e w1 ⟨rfl, hw⟩; subst w1)
    | (go_at_call 77; refine (isDigit_any _ _).mono ?_; rintro e w1 ⟨rfl, hw⟩; subst w1)
    | (go_at_call 79; refine (SG _ L1).mono ?_; rintro e w1 ⟨rfl, B1⟩; have G1 := G.later B1; have f0 := G1.free 0; have f1 := G1.free 1; have f2 := G1.free 2; have f3 := G1.free 3; obtain ⟨y0, y1, y2, y3⟩ := G1.at))
  refine bodyPost_ret (v := .tuple #[tokV 0 ⟨#[]⟩ 0 0, .int .i64 0, .int .i64 20]) (by simp [results, Tryz.results69, go_sem, tokV, y0, y1, y2, y3]) rfl ⟨by rw [HX.out], ?_⟩
  exact ((((far1 B1).setCell (by simp) _).setCell (by simp) _).setCell (by simp) _).setCell (by simp) _

set_option maxHeartbeats 2000000 in
theorem read_dash_n_f (s : ByteArray) (a : Nat) (h : a < s.size) (hs : s.size ≤ 281474976710656) (w : World) (L : Laid w) (h2 : a + 1 < s.size) (hc : ((s[a]'h).toNat : Int) = 45) (hn : dg ((s[a + 1]'h2).toNat : Int) = false) (hg : ¬ signL (s.data.toList.drop a) = []) :
    Calls Tryz.prog 69 #[.string s, .int .i64 a] w fun e w' => e = .returned (readV (readT (s.data.toList.drop a)) a) ∧ Below w.heap.size w w' := by
  have G := Tk4.fresh w 0 ⟨#[]⟩ 0 0
  have L1 := L.later (Joins.below_alloc1 w (Obj.cells #[.int .i64 0, .string ⟨#[]⟩, .int .i64 0, .int .i64 0] 58))
  have z0 : (a : Int) < s.size := by omega
  have z4 : (a : Int) ≤ s.size := by omega
  have sm0 : sm 0 = false := by decide
  have dg0 : dg 0 = false := by decide
  have sm35 : sm 35 = false := by decide
  have gr35 : gr 35 = false := by decide
  have dg35 : dg 35 = false := by decide
  have sm45 : sm 45 = false := by decide
  have gr45 : gr 45 = false := by decide
  have dg45 : dg 45 = false := by decide
  have z1 : (a : Int) + 1 < s.size := by omega
  have z2 : (0 : Int) ≤ (a : Int) + 1 := by omega
  have z3 : ((a : Int) + 1).toNat = a + 1 := by omega
  have hR : readT (s.data.toList.drop a) = if signL (s.data.toList.drop a) = [] then .error 20 else wordR 5 (signL (s.data.toList.drop a)) := by
    rw [get_list s a h]
    exact readT_sign (by rw [hc]; decide) (by rw [hc]; decide) (by omega) (by rw [nxt_of s (a + 1) h2, hc]; rintro (q | ⟨_, q⟩); (exact absurd q (by decide)); (rw [hn] at q; cases q))
  have SG := fun w L => signOf_any (s.extract a s.size) (by simp [ByteArray.size_extract]; omega) w L
  rw [ext_end] at SG
  rw [if_neg hg] at hR
  obtain ⟨g, hgg⟩ : ∃ g, str (signL (s.data.toList.drop a)) = g := ⟨_, rfl⟩
  have gl : g.data.toList = signL (s.data.toList.drop a) := by rw [← hgg, str_list]
  have gz : (g.toList == []) = false := by rw [ByteArray.toList_eq, gl]; simpa using hg
  rw [hgg] at SG
  obtain ⟨K, T, A, E1, E2, HV, W⟩ := worded_any 5 a g (by omega)
  simp only [tokV] at W
  have HX : Hid (readV (readT (s.data.toList.drop a)) a = Value.tuple #[tokV K T 0 A, .int .i64 E1, .int .i64 E2]) := ⟨by rw [HV.out, gl, hR]⟩
  clear HV hgg gl hR hg
  go_enter Tryz.func69, Tryz.ntmps69
  go_wp2_with (first
    | (go_at_call 71; refine (isSmall_any _ _).mono ?_; rintro e w1 ⟨rfl, hw⟩; subst w1)
    | (go_at_call 76; refine (isGreat_any _ _).mono ?_; rintro e w1 ⟨rfl, hw⟩; subst w1)
    | (go_at_call 77; refine (isDigit_any _ _).mono ?_; rintro e w1 ⟨rfl, hw⟩; subst w1)
    | (go_at_call 79; refine (SG _ L1).mono ?_; rintro e w1 ⟨rfl, B1⟩; have G1 := G.later B1)
    | (go_at_call 74; refine (W _).mono ?_; rintro e w2 ⟨rfl, B2⟩; have G2 := G1.later B2; have f0 := G2.free 0; have f1 := G2.free 1; have f2 := G2.free 2; have f3 := G2.free 3; obtain ⟨y0, y1, y2, y3⟩ := G2.at))
  refine bodyPost_ret (v := .tuple #[tokV K T 0 A, .int .i64 E1, .int .i64 E2]) (by simp [results, Tryz.results69, go_sem, tokV, y0, y1, y2, y3]) rfl ⟨by rw [HX.out], ?_⟩
  exact (((((far1 B1).trans (Joins.below_le B2 (far1 B1).size)).setCell (by simp) _).setCell (by simp) _).setCell (by simp) _).setCell (by simp) _

set_option maxHeartbeats 2000000 in
theorem read_dash_n_n (s : ByteArray) (a : Nat) (h : a < s.size) (hs : s.size ≤ 281474976710656) (w : World) (L : Laid w) (h2 : a + 1 < s.size) (hc : ((s[a]'h).toNat : Int) = 45) (hn : dg ((s[a + 1]'h2).toNat : Int) = false) (hg : signL (s.data.toList.drop a) = []) :
    Calls Tryz.prog 69 #[.string s, .int .i64 a] w fun e w' => e = .returned (readV (readT (s.data.toList.drop a)) a) ∧ Below w.heap.size w w' := by
  have G := Tk4.fresh w 0 ⟨#[]⟩ 0 0
  have L1 := L.later (Joins.below_alloc1 w (Obj.cells #[.int .i64 0, .string ⟨#[]⟩, .int .i64 0, .int .i64 0] 58))
  have z0 : (a : Int) < s.size := by omega
  have z4 : (a : Int) ≤ s.size := by omega
  have sm0 : sm 0 = false := by decide
  have dg0 : dg 0 = false := by decide
  have sm35 : sm 35 = false := by decide
  have gr35 : gr 35 = false := by decide
  have dg35 : dg 35 = false := by decide
  have sm45 : sm 45 = false := by decide
  have gr45 : gr 45 = false := by decide
  have dg45 : dg 45 = false := by decide
  have z1 : (a : Int) + 1 < s.size := by omega
  have z2 : (0 : Int) ≤ (a : Int) + 1 := by omega
  have z3 : ((a : Int) + 1).toNat = a + 1 := by omega
  have hR : readT (s.data.toList.drop a) = if signL (s.data.toList.drop a) = [] then .error 20 else wordR 5 (signL (s.data.toList.drop a)) := by
    rw [get_list s a h]
    exact readT_sign (by rw [hc]; decide) (by rw [hc]; decide) (by omega) (by rw [nxt_of s (a + 1) h2, hc]; rintro (q | ⟨_, q⟩); (exact absurd q (by decide)); (rw [hn] at q; cases q))
  have SG := fun w L => signOf_any (s.extract a s.size) (by simp [ByteArray.size_extract]; omega) w L
  rw [ext_end] at SG
  rw [if_pos hg] at hR
  rw [hg] at SG
  rw [show str [] = ⟨#[]⟩ from rfl] at SG
  have HX : Hid (readV (readT (s.data.toList.drop a)) a = Value.tuple #[tokV 0 ⟨#[]⟩ 0 0, .int .i64 0, .int .i64 20]) := ⟨by rw [hR]; rfl⟩
  clear hR hg
  go_enter Tryz.func69, Tryz.ntmps69
  go_wp2_with (first
    | (go_at_call 71; refine (isSmall_any _ _).mono ?_; rintro e w1 ⟨rfl, hw⟩; subst w1)
    | (go_at_call 76; refine (isGreat_any _ _).mono ?_; rintro e w1 ⟨rfl, hw⟩; subst w1)
    | (go_at_call 77; refine (isDigit_any _ _).mono ?_; rintro e w1 ⟨rfl, hw⟩; subst w1)
    | (go_at_call 79; refine (SG _ L1).mono ?_; rintro e w1 ⟨rfl, B1⟩; have G1 := G.later B1; have f0 := G1.free 0; have f1 := G1.free 1; have f2 := G1.free 2; have f3 := G1.free 3; obtain ⟨y0, y1, y2, y3⟩ := G1.at))
  refine bodyPost_ret (v := .tuple #[tokV 0 ⟨#[]⟩ 0 0, .int .i64 0, .int .i64 20]) (by simp [results, Tryz.results69, go_sem, tokV, y0, y1, y2, y3]) rfl ⟨by rw [HX.out], ?_⟩
  exact ((((far1 B1).setCell (by simp) _).setCell (by simp) _).setCell (by simp) _).setCell (by simp) _

set_option maxHeartbeats 2000000 in
theorem read_dash_e_f (s : ByteArray) (a : Nat) (h : a < s.size) (hs : s.size ≤ 281474976710656) (w : World) (L : Laid w) (h2 : ¬ a + 1 < s.size) (hc : ((s[a]'h).toNat : Int) = 45) (hg : ¬ signL (s.data.toList.drop a) = []) :
    Calls Tryz.prog 69 #[.string s, .int .i64 a] w fun e w' => e = .returned (readV (readT (s.data.toList.drop a)) a) ∧ Below w.heap.size w w' := by
  have G := Tk4.fresh w 0 ⟨#[]⟩ 0 0
  have L1 := L.later (Joins.below_alloc1 w (Obj.cells #[.int .i64 0, .string ⟨#[]⟩, .int .i64 0, .int .i64 0] 58))
  have z0 : (a : Int) < s.size := by omega
  have z4 : (a : Int) ≤ s.size := by omega
  have sm0 : sm 0 = false := by decide
  have dg0 : dg 0 = false := by decide
  have sm35 : sm 35 = false := by decide
  have gr35 : gr 35 = false := by decide
  have dg35 : dg 35 = false := by decide
  have sm45 : sm 45 = false := by decide
  have gr45 : gr 45 = false := by decide
  have dg45 : dg 45 = false := by decide
  have z1 : ¬ (a : Int) + 1 < s.size := by omega
  have hR : readT (s.data.toList.drop a) = if signL (s.data.toList.drop a) = [] then .error 20 else wordR 5 (signL (s.data.toList.drop a)) := by
    rw [get_list s a h]
    exact readT_sign (by rw [hc]; decide) (by rw [hc]; decide) (by omega) (by rw [nxt_end s (a + 1) h2, hc]; rintro (q | ⟨_, q⟩); (exact absurd q (by decide)); (exact absurd q (by decide)))
  have SG := fun w L => signOf_any (s.extract a s.size) (by simp [ByteArray.size_extract]; omega) w L
  rw [ext_end] at SG
  rw [if_neg hg] at hR
  obtain ⟨g, hgg⟩ : ∃ g, str (signL (s.data.toList.drop a)) = g := ⟨_, rfl⟩
  have gl : g.data.toList = signL (s.data.toList.drop a) := by rw [← hgg, str_list]
  have gz : (g.toList == []) = false := by rw [ByteArray.toList_eq, gl]; simpa using hg
  rw [hgg] at SG
  obtain ⟨K, T, A, E1, E2, HV, W⟩ := worded_any 5 a g (by omega)
  simp only [tokV] at W
  have HX : Hid (readV (readT (s.data.toList.drop a)) a = Value.tuple #[tokV K T 0 A, .int .i64 E1, .int .i64 E2]) := ⟨by rw [HV.out, gl, hR]⟩
  clear HV hgg gl hR hg
  go_enter Tryz.func69, Tryz.ntmps69
  go_wp2_with (first
    | (go_at_call 71; refine (isSmall_any _ _).mono ?_; rintro e w1 ⟨rfl, hw⟩; subst w1)
    | (go_at_call 76; refine (isGreat_any _ _).mono ?_; rintro e w1 ⟨rfl, hw⟩; subst w1)
    | (go_at_call 77; refine (isDigit_any _ _).mono ?_; rintro e w1 ⟨rfl, hw⟩; subst w1)
    | (go_at_call 79; refine (SG _ L1).mono ?_; rintro e w1 ⟨rfl, B1⟩; have G1 := G.later B1)
    | (go_at_call 74; refine (W _).mono ?_; rintro e w2 ⟨rfl, B2⟩; have G2 := G1.later B2; have f0 := G2.free 0; have f1 := G2.free 1; have f2 := G2.free 2; have f3 := G2.free 3; obtain ⟨y0, y1, y2, y3⟩ := G2.at))
  refine bodyPost_ret (v := .tuple #[tokV K T 0 A, .int .i64 E1, .int .i64 E2]) (by simp [results, Tryz.results69, go_sem, tokV, y0, y1, y2, y3]) rfl ⟨by rw [HX.out], ?_⟩
  exact (((((far1 B1).trans (Joins.below_le B2 (far1 B1).size)).setCell (by simp) _).setCell (by simp) _).setCell (by simp) _).setCell (by simp) _

set_option maxHeartbeats 2000000 in
theorem read_dash_e_n (s : ByteArray) (a : Nat) (h : a < s.size) (hs : s.size ≤ 281474976710656) (w : World) (L : Laid w) (h2 : ¬ a + 1 < s.size) (hc : ((s[a]'h).toNat : Int) = 45) (hg : signL (s.data.toList.drop a) = []) :
    Calls Tryz.prog 69 #[.string s, .int .i64 a] w fun e w' => e = .returned (readV (readT (s.data.toList.drop a)) a) ∧ Below w.heap.size w w' := by
  have G := Tk4.fresh w 0 ⟨#[]⟩ 0 0
  have L1 := L.later (Joins.below_alloc1 w (Obj.cells #[.int .i64 0, .string ⟨#[]⟩, .int .i64 0, .int .i64 0] 58))
  have z0 : (a : Int) < s.size := by omega
  have z4 : (a : Int) ≤ s.size := by omega
  have sm0 : sm 0 = false := by decide
  have dg0 : dg 0 = false := by decide
  have sm35 : sm 35 = false := by decide
  have gr35 : gr 35 = false := by decide
  have dg35 : dg 35 = false := by decide
  have sm45 : sm 45 = false := by decide
  have gr45 : gr 45 = false := by decide
  have dg45 : dg 45 = false := by decide
  have z1 : ¬ (a : Int) + 1 < s.size := by omega
  have hR : readT (s.data.toList.drop a) = if signL (s.data.toList.drop a) = [] then .error 20 else wordR 5 (signL (s.data.toList.drop a)) := by
    rw [get_list s a h]
    exact readT_sign (by rw [hc]; decide) (by rw [hc]; decide) (by omega) (by rw [nxt_end s (a + 1) h2, hc]; rintro (q | ⟨_, q⟩); (exact absurd q (by decide)); (exact absurd q (by decide)))
  have SG := fun w L => signOf_any (s.extract a s.size) (by simp [ByteArray.size_extract]; omega) w L
  rw [ext_end] at SG
  rw [if_pos hg] at hR
  rw [hg] at SG
  rw [show str [] = ⟨#[]⟩ from rfl] at SG
  have HX : Hid (readV (readT (s.data.toList.drop a)) a = Value.tuple #[tokV 0 ⟨#[]⟩ 0 0, .int .i64 0, .int .i64 20]) := ⟨by rw [hR]; rfl⟩
  clear hR hg
  go_enter Tryz.func69, Tryz.ntmps69
  go_wp2_with (first
    | (go_at_call 71; refine (isSmall_any _ _).mono ?_; rintro e w1 ⟨rfl, hw⟩; subst w1)
    | (go_at_call 76; refine (isGreat_any _ _).mono ?_; rintro e w1 ⟨rfl, hw⟩; subst w1)
    | (go_at_call 77; refine (isDigit_any _ _).mono ?_; rintro e w1 ⟨rfl, hw⟩; subst w1)
    | (go_at_call 79; refine (SG _ L1).mono ?_; rintro e w1 ⟨rfl, B1⟩; have G1 := G.later B1; have f0 := G1.free 0; have f1 := G1.free 1; have f2 := G1.free 2; have f3 := G1.free 3; obtain ⟨y0, y1, y2, y3⟩ := G1.at))
  refine bodyPost_ret (v := .tuple #[tokV 0 ⟨#[]⟩ 0 0, .int .i64 0, .int .i64 20]) (by simp [results, Tryz.results69, go_sem, tokV, y0, y1, y2, y3]) rfl ⟨by rw [HX.out], ?_⟩
  exact ((((far1 B1).setCell (by simp) _).setCell (by simp) _).setCell (by simp) _).setCell (by simp) _

set_option maxHeartbeats 2000000 in
theorem read_else_n_f (s : ByteArray) (a : Nat) (h : a < s.size) (hs : s.size ≤ 281474976710656) (w : World) (L : Laid w) (h2 : a + 1 < s.size) (hsm : sm ((s[a]'h).toNat : Int) = false) (hgr : gr ((s[a]'h).toNat : Int) = false) (hc : ¬ ((s[a]'h).toNat : Int) = 35) (hdg : dg ((s[a]'h).toNat : Int) = false) (hd : ¬ ((s[a]'h).toNat : Int) = 45) (hg : ¬ signL (s.data.toList.drop a) = []) :
    Calls Tryz.prog 69 #[.string s, .int .i64 a] w fun e w' => e = .returned (readV (readT (s.data.toList.drop a)) a) ∧ Below w.heap.size w w' := by
  have G := Tk4.fresh w 0 ⟨#[]⟩ 0 0
  have L1 := L.later (Joins.below_alloc1 w (Obj.cells #[.int .i64 0, .string ⟨#[]⟩, .int .i64 0, .int .i64 0] 58))
  have z0 : (a : Int) < s.size := by omega
  have z4 : (a : Int) ≤ s.size := by omega
  have sm0 : sm 0 = false := by decide
  have dg0 : dg 0 = false := by decide
  have sm35 : sm 35 = false := by decide
  have gr35 : gr 35 = false := by decide
  have dg35 : dg 35 = false := by decide
  have sm45 : sm 45 = false := by decide
  have gr45 : gr 45 = false := by decide
  have dg45 : dg 45 = false := by decide
  have z1 : (a : Int) + 1 < s.size := by omega
  have z2 : (0 : Int) ≤ (a : Int) + 1 := by omega
  have z3 : ((a : Int) + 1).toNat = a + 1 := by omega
  have hR : readT (s.data.toList.drop a) = if signL (s.data.toList.drop a) = [] then .error 20 else wordR 5 (signL (s.data.toList.drop a)) := by
    rw [get_list s a h]
    exact readT_sign hsm hgr (by omega) (by rw [hdg]; rintro (q | ⟨q, _⟩); (cases q); omega)
  have SG := fun w L => signOf_any (s.extract a s.size) (by simp [ByteArray.size_extract]; omega) w L
  rw [ext_end] at SG
  rw [if_neg hg] at hR
  obtain ⟨g, hgg⟩ : ∃ g, str (signL (s.data.toList.drop a)) = g := ⟨_, rfl⟩
  have gl : g.data.toList = signL (s.data.toList.drop a) := by rw [← hgg, str_list]
  have gz : (g.toList == []) = false := by rw [ByteArray.toList_eq, gl]; simpa using hg
  rw [hgg] at SG
  obtain ⟨K, T, A, E1, E2, HV, W⟩ := worded_any 5 a g (by omega)
  simp only [tokV] at W
  have HX : Hid (readV (readT (s.data.toList.drop a)) a = Value.tuple #[tokV K T 0 A, .int .i64 E1, .int .i64 E2]) := ⟨by rw [HV.out, gl, hR]⟩
  clear HV hgg gl hR hg
  go_enter Tryz.func69, Tryz.ntmps69
  go_wp2_with (first
    | (go_at_call 71; refine (isSmall_any _ _).mono ?_; rintro e w1 ⟨rfl, hw⟩; subst w1)
    | (go_at_call 76; refine (isGreat_any _ _).mono ?_; rintro e w1 ⟨rfl, hw⟩; subst w1)
    | (go_at_call 77; refine (isDigit_any _ _).mono ?_; rintro e w1 ⟨rfl, hw⟩; subst w1)
    | (go_at_call 79; refine (SG _ L1).mono ?_; rintro e w1 ⟨rfl, B1⟩; have G1 := G.later B1)
    | (go_at_call 74; refine (W _).mono ?_; rintro e w2 ⟨rfl, B2⟩; have G2 := G1.later B2; have f0 := G2.free 0; have f1 := G2.free 1; have f2 := G2.free 2; have f3 := G2.free 3; obtain ⟨y0, y1, y2, y3⟩ := G2.at))
  refine bodyPost_ret (v := .tuple #[tokV K T 0 A, .int .i64 E1, .int .i64 E2]) (by simp [results, Tryz.results69, go_sem, tokV, y0, y1, y2, y3]) rfl ⟨by rw [HX.out], ?_⟩
  exact (((((far1 B1).trans (Joins.below_le B2 (far1 B1).size)).setCell (by simp) _).setCell (by simp) _).setCell (by simp) _).setCell (by simp) _

set_option maxHeartbeats 2000000 in
theorem read_else_n_n (s : ByteArray) (a : Nat) (h : a < s.size) (hs : s.size ≤ 281474976710656) (w : World) (L : Laid w) (h2 : a + 1 < s.size) (hsm : sm ((s[a]'h).toNat : Int) = false) (hgr : gr ((s[a]'h).toNat : Int) = false) (hc : ¬ ((s[a]'h).toNat : Int) = 35) (hdg : dg ((s[a]'h).toNat : Int) = false) (hd : ¬ ((s[a]'h).toNat : Int) = 45) (hg : signL (s.data.toList.drop a) = []) :
    Calls Tryz.prog 69 #[.string s, .int .i64 a] w fun e w' => e = .returned (readV (readT (s.data.toList.drop a)) a) ∧ Below w.heap.size w w' := by
  have G := Tk4.fresh w 0 ⟨#[]⟩ 0 0
  have L1 := L.later (Joins.below_alloc1 w (Obj.cells #[.int .i64 0, .string ⟨#[]⟩, .int .i64 0, .int .i64 0] 58))
  have z0 : (a : Int) < s.size := by omega
  have z4 : (a : Int) ≤ s.size := by omega
  have sm0 : sm 0 = false := by decide
  have dg0 : dg 0 = false := by decide
  have sm35 : sm 35 = false := by decide
  have gr35 : gr 35 = false := by decide
  have dg35 : dg 35 = false := by decide
  have sm45 : sm 45 = false := by decide
  have gr45 : gr 45 = false := by decide
  have dg45 : dg 45 = false := by decide
  have z1 : (a : Int) + 1 < s.size := by omega
  have z2 : (0 : Int) ≤ (a : Int) + 1 := by omega
  have z3 : ((a : Int) + 1).toNat = a + 1 := by omega
  have hR : readT (s.data.toList.drop a) = if signL (s.data.toList.drop a) = [] then .error 20 else wordR 5 (signL (s.data.toList.drop a)) := by
    rw [get_list s a h]
    exact readT_sign hsm hgr (by omega) (by rw [hdg]; rintro (q | ⟨q, _⟩); (cases q); omega)
  have SG := fun w L => signOf_any (s.extract a s.size) (by simp [ByteArray.size_extract]; omega) w L
  rw [ext_end] at SG
  rw [if_pos hg] at hR
  rw [hg] at SG
  rw [show str [] = ⟨#[]⟩ from rfl] at SG
  have HX : Hid (readV (readT (s.data.toList.drop a)) a = Value.tuple #[tokV 0 ⟨#[]⟩ 0 0, .int .i64 0, .int .i64 20]) := ⟨by rw [hR]; rfl⟩
  clear hR hg
  go_enter Tryz.func69, Tryz.ntmps69
  go_wp2_with (first
    | (go_at_call 71; refine (isSmall_any _ _).mono ?_; rintro e w1 ⟨rfl, hw⟩; subst w1)
    | (go_at_call 76; refine (isGreat_any _ _).mono ?_; rintro e w1 ⟨rfl, hw⟩; subst w1)
    | (go_at_call 77; refine (isDigit_any _ _).mono ?_; rintro e w1 ⟨rfl, hw⟩; subst w1)
    | (go_at_call 79; refine (SG _ L1).mono ?_; rintro e w1 ⟨rfl, B1⟩; have G1 := G.later B1; have f0 := G1.free 0; have f1 := G1.free 1; have f2 := G1.free 2; have f3 := G1.free 3; obtain ⟨y0, y1, y2, y3⟩ := G1.at))
  refine bodyPost_ret (v := .tuple #[tokV 0 ⟨#[]⟩ 0 0, .int .i64 0, .int .i64 20]) (by simp [results, Tryz.results69, go_sem, tokV, y0, y1, y2, y3]) rfl ⟨by rw [HX.out], ?_⟩
  exact ((((far1 B1).setCell (by simp) _).setCell (by simp) _).setCell (by simp) _).setCell (by simp) _

set_option maxHeartbeats 2000000 in
theorem read_else_e_f (s : ByteArray) (a : Nat) (h : a < s.size) (hs : s.size ≤ 281474976710656) (w : World) (L : Laid w) (h2 : ¬ a + 1 < s.size) (hsm : sm ((s[a]'h).toNat : Int) = false) (hgr : gr ((s[a]'h).toNat : Int) = false) (hc : ¬ ((s[a]'h).toNat : Int) = 35) (hdg : dg ((s[a]'h).toNat : Int) = false) (hd : ¬ ((s[a]'h).toNat : Int) = 45) (hg : ¬ signL (s.data.toList.drop a) = []) :
    Calls Tryz.prog 69 #[.string s, .int .i64 a] w fun e w' => e = .returned (readV (readT (s.data.toList.drop a)) a) ∧ Below w.heap.size w w' := by
  have G := Tk4.fresh w 0 ⟨#[]⟩ 0 0
  have L1 := L.later (Joins.below_alloc1 w (Obj.cells #[.int .i64 0, .string ⟨#[]⟩, .int .i64 0, .int .i64 0] 58))
  have z0 : (a : Int) < s.size := by omega
  have z4 : (a : Int) ≤ s.size := by omega
  have sm0 : sm 0 = false := by decide
  have dg0 : dg 0 = false := by decide
  have sm35 : sm 35 = false := by decide
  have gr35 : gr 35 = false := by decide
  have dg35 : dg 35 = false := by decide
  have sm45 : sm 45 = false := by decide
  have gr45 : gr 45 = false := by decide
  have dg45 : dg 45 = false := by decide
  have z1 : ¬ (a : Int) + 1 < s.size := by omega
  have hR : readT (s.data.toList.drop a) = if signL (s.data.toList.drop a) = [] then .error 20 else wordR 5 (signL (s.data.toList.drop a)) := by
    rw [get_list s a h]
    exact readT_sign hsm hgr (by omega) (by rw [hdg]; rintro (q | ⟨q, _⟩); (cases q); omega)
  have SG := fun w L => signOf_any (s.extract a s.size) (by simp [ByteArray.size_extract]; omega) w L
  rw [ext_end] at SG
  rw [if_neg hg] at hR
  obtain ⟨g, hgg⟩ : ∃ g, str (signL (s.data.toList.drop a)) = g := ⟨_, rfl⟩
  have gl : g.data.toList = signL (s.data.toList.drop a) := by rw [← hgg, str_list]
  have gz : (g.toList == []) = false := by rw [ByteArray.toList_eq, gl]; simpa using hg
  rw [hgg] at SG
  obtain ⟨K, T, A, E1, E2, HV, W⟩ := worded_any 5 a g (by omega)
  simp only [tokV] at W
  have HX : Hid (readV (readT (s.data.toList.drop a)) a = Value.tuple #[tokV K T 0 A, .int .i64 E1, .int .i64 E2]) := ⟨by rw [HV.out, gl, hR]⟩
  clear HV hgg gl hR hg
  go_enter Tryz.func69, Tryz.ntmps69
  go_wp2_with (first
    | (go_at_call 71; refine (isSmall_any _ _).mono ?_; rintro e w1 ⟨rfl, hw⟩; subst w1)
    | (go_at_call 76; refine (isGreat_any _ _).mono ?_; rintro e w1 ⟨rfl, hw⟩; subst w1)
    | (go_at_call 77; refine (isDigit_any _ _).mono ?_; rintro e w1 ⟨rfl, hw⟩; subst w1)
    | (go_at_call 79; refine (SG _ L1).mono ?_; rintro e w1 ⟨rfl, B1⟩; have G1 := G.later B1)
    | (go_at_call 74; refine (W _).mono ?_; rintro e w2 ⟨rfl, B2⟩; have G2 := G1.later B2; have f0 := G2.free 0; have f1 := G2.free 1; have f2 := G2.free 2; have f3 := G2.free 3; obtain ⟨y0, y1, y2, y3⟩ := G2.at))
  refine bodyPost_ret (v := .tuple #[tokV K T 0 A, .int .i64 E1, .int .i64 E2]) (by simp [results, Tryz.results69, go_sem, tokV, y0, y1, y2, y3]) rfl ⟨by rw [HX.out], ?_⟩
  exact (((((far1 B1).trans (Joins.below_le B2 (far1 B1).size)).setCell (by simp) _).setCell (by simp) _).setCell (by simp) _).setCell (by simp) _

set_option maxHeartbeats 2000000 in
theorem read_else_e_n (s : ByteArray) (a : Nat) (h : a < s.size) (hs : s.size ≤ 281474976710656) (w : World) (L : Laid w) (h2 : ¬ a + 1 < s.size) (hsm : sm ((s[a]'h).toNat : Int) = false) (hgr : gr ((s[a]'h).toNat : Int) = false) (hc : ¬ ((s[a]'h).toNat : Int) = 35) (hdg : dg ((s[a]'h).toNat : Int) = false) (hd : ¬ ((s[a]'h).toNat : Int) = 45) (hg : signL (s.data.toList.drop a) = []) :
    Calls Tryz.prog 69 #[.string s, .int .i64 a] w fun e w' => e = .returned (readV (readT (s.data.toList.drop a)) a) ∧ Below w.heap.size w w' := by
  have G := Tk4.fresh w 0 ⟨#[]⟩ 0 0
  have L1 := L.later (Joins.below_alloc1 w (Obj.cells #[.int .i64 0, .string ⟨#[]⟩, .int .i64 0, .int .i64 0] 58))
  have z0 : (a : Int) < s.size := by omega
  have z4 : (a : Int) ≤ s.size := by omega
  have sm0 : sm 0 = false := by decide
  have dg0 : dg 0 = false := by decide
  have sm35 : sm 35 = false := by decide
  have gr35 : gr 35 = false := by decide
  have dg35 : dg 35 = false := by decide
  have sm45 : sm 45 = false := by decide
  have gr45 : gr 45 = false := by decide
  have dg45 : dg 45 = false := by decide
  have z1 : ¬ (a : Int) + 1 < s.size := by omega
  have hR : readT (s.data.toList.drop a) = if signL (s.data.toList.drop a) = [] then .error 20 else wordR 5 (signL (s.data.toList.drop a)) := by
    rw [get_list s a h]
    exact readT_sign hsm hgr (by omega) (by rw [hdg]; rintro (q | ⟨q, _⟩); (cases q); omega)
  have SG := fun w L => signOf_any (s.extract a s.size) (by simp [ByteArray.size_extract]; omega) w L
  rw [ext_end] at SG
  rw [if_pos hg] at hR
  rw [hg] at SG
  rw [show str [] = ⟨#[]⟩ from rfl] at SG
  have HX : Hid (readV (readT (s.data.toList.drop a)) a = Value.tuple #[tokV 0 ⟨#[]⟩ 0 0, .int .i64 0, .int .i64 20]) := ⟨by rw [hR]; rfl⟩
  clear hR hg
  go_enter Tryz.func69, Tryz.ntmps69
  go_wp2_with (first
    | (go_at_call 71; refine (isSmall_any _ _).mono ?_; rintro e w1 ⟨rfl, hw⟩; subst w1)
    | (go_at_call 76; refine (isGreat_any _ _).mono ?_; rintro e w1 ⟨rfl, hw⟩; subst w1)
    | (go_at_call 77; refine (isDigit_any _ _).mono ?_; rintro e w1 ⟨rfl, hw⟩; subst w1)
    | (go_at_call 79; refine (SG _ L1).mono ?_; rintro e w1 ⟨rfl, B1⟩; have G1 := G.later B1; have f0 := G1.free 0; have f1 := G1.free 1; have f2 := G1.free 2; have f3 := G1.free 3; obtain ⟨y0, y1, y2, y3⟩ := G1.at))
  refine bodyPost_ret (v := .tuple #[tokV 0 ⟨#[]⟩ 0 0, .int .i64 0, .int .i64 20]) (by simp [results, Tryz.results69, go_sem, tokV, y0, y1, y2, y3]) rfl ⟨by rw [HX.out], ?_⟩
  exact ((((far1 B1).setCell (by simp) _).setCell (by simp) _).setCell (by simp) _).setCell (by simp) _

theorem read_any (s : ByteArray) (a : Nat) (h : a < s.size) (hs : s.size ≤ 281474976710656) (w : World) (L : Laid w) :
    Calls Tryz.prog 69 #[.string s, .int .i64 a] w fun e w' => e = .returned (readV (readT (s.data.toList.drop a)) a) ∧ Below w.heap.size w w' := by
  have GG := Classical.em (signL (s.data.toList.drop a) = [])
  by_cases h2 : a + 1 < s.size
  · cases hsm : sm ((s[a]'h).toNat : Int) with
    | true => exact read_small_n s a h hs w L h2 hsm
    | false =>
      cases hgr : gr ((s[a]'h).toNat : Int) with
      | true => exact read_great_n s a h hs w L h2 hsm hgr
      | false =>
        by_cases hc : ((s[a]'h).toNat : Int) = 35
        · cases hn : sm ((s[a + 1]'h2).toNat : Int) with
          | true => exact read_prim s a h hs w L h2 hc hn
          | false =>
            rcases GG with hg | hg
            · exact read_hash_n_n s a h hs w L h2 hc hn hg
            · exact read_hash_n_f s a h hs w L h2 hc hn hg
        · cases hdg : dg ((s[a]'h).toNat : Int) with
          | true => exact read_dig_n s a h hs w L h2 hsm hgr hc hdg
          | false =>
            by_cases hd : ((s[a]'h).toNat : Int) = 45
            · cases hn : dg ((s[a + 1]'h2).toNat : Int) with
              | true => exact read_minus s a h hs w L h2 hd hn
              | false =>
                rcases GG with hg | hg
                · exact read_dash_n_n s a h hs w L h2 hd hn hg
                · exact read_dash_n_f s a h hs w L h2 hd hn hg
            · rcases GG with hg | hg
              · exact read_else_n_n s a h hs w L h2 hsm hgr hc hdg hd hg
              · exact read_else_n_f s a h hs w L h2 hsm hgr hc hdg hd hg
  · cases hsm : sm ((s[a]'h).toNat : Int) with
    | true => exact read_small_e s a h hs w L h2 hsm
    | false =>
      cases hgr : gr ((s[a]'h).toNat : Int) with
      | true => exact read_great_e s a h hs w L h2 hsm hgr
      | false =>
        by_cases hc : ((s[a]'h).toNat : Int) = 35
        · rcases GG with hg | hg
          · exact read_hash_e_n s a h hs w L h2 hc hg
          · exact read_hash_e_f s a h hs w L h2 hc hg
        · cases hdg : dg ((s[a]'h).toNat : Int) with
          | true => exact read_dig_e s a h hs w L h2 hsm hgr hc hdg
          | false =>
            by_cases hd : ((s[a]'h).toNat : Int) = 45
            · rcases GG with hg | hg
              · exact read_dash_e_n s a h hs w L h2 hd hg
              · exact read_dash_e_f s a h hs w L h2 hd hg
            · rcases GG with hg | hg
              · exact read_else_e_n s a h hs w L h2 hsm hgr hc hdg hd hg
              · exact read_else_e_f s a h hs w L h2 hsm hgr hc hdg hd hg

end Go.Proofs.YtofgnpehlheeiaaGreatDoor
