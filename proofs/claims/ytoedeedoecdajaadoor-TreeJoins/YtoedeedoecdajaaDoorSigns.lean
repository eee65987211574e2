/- The sign that a text begins with, by its rune. -/
import Derived.Test.YtoedeedoecdajaaDoorTok
import Derived.Laws.Runes
import Derived.Laws.RangeString
namespace Go.Proofs.YtoedeedoecdajaaDoor
open Go.RowKit
set_option linter.unusedVariables false

/-- The sign that a list begins with; of none the empty list. -/
def signL (l : List UInt8) : List UInt8 :=
  if Lib.hasPrefix l [45, 62] then [45, 62] else match l with
    | [] => []
    | c :: _ => if sg c.toNat then [c] else []

theorem encode_ascii (c : UInt8) (h : c.toNat < 128) : Utf8.encode ((c.toNat : Nat) : Int) = ⟨#[c]⟩ := by
  have hv : Utf8.valid ((c.toNat : Nat) : Int) = true := by simp [Utf8.valid]; left; omega
  unfold Utf8.encode
  simp only [hv, if_true, Int.toNat_natCast]
  rw [if_pos h]
  simp
theorem decode_head (t : ByteArray) (h : 0 < t.size) (hc : (t[0]'h).toNat < 128) : (Lib.decodeGo t).1 = (t[0]'h).toNat := by
  unfold Lib.decodeGo
  rw [if_neg (by omega), decode_ascii t 0 h hc]
theorem decode_high (t : ByteArray) (h : 0 < t.size) (hc : ¬ (t[0]'h).toNat < 128) : 128 ≤ (Lib.decodeGo t).1 ∧ Utf8.valid ((Lib.decodeGo t).1 : Int) = true := by
  unfold Lib.decodeGo
  rw [if_neg (by omega)]
  have e0 : (t.get! (0 + 0)).toNat = (t[0]'h).toNat := by rw [Utf8W.get!_of_lt t (0 + 0) h]
  have e1 : ∀ x : Nat, 128 ≤ x → x < 55296 → Utf8.valid (x : Int) = true := fun x a b => by simp [Utf8.valid]; left; omega
  unfold Utf8.decode
  simp only [e0]
  have hb := (t[0]'h).toNat_lt
  generalize (t[0]'h).toNat = b at *
  rw [if_neg hc]
  split
  · split
    · rename_i h1 h2
      refine ⟨h2, e1 _ h2 ?_⟩
      have : (t.get! (0 + 1)).toNat % 64 < 64 := Nat.mod_lt _ (by decide)
      have : b % 32 < 32 := Nat.mod_lt _ (by decide)
      simp only
      omega
    · exact ⟨by decide, by decide⟩
  · split
    · split
      · rename_i h1 h2 h3
        simp only [Bool.and_eq_true, decide_eq_true_eq] at h3
        exact ⟨by simp only; omega, h3.2⟩
      · exact ⟨by decide, by decide⟩
    · split
      · split
        · rename_i h1 h2 h3 h4
          simp only [Bool.and_eq_true, decide_eq_true_eq] at h4
          exact ⟨by simp only; omega, h4.2⟩
        · exact ⟨by decide, by decide⟩
      · exact ⟨by decide, by decide⟩
theorem list_head (t : ByteArray) (h : 0 < t.size) : t.data.toList = t[0]'h :: t.data.toList.drop 1 := by
  have := get_list t 0 h
  simpa using this

set_option maxHeartbeats 1000000 in
theorem signOf_any (t : ByteArray) (h : 0 < t.size) (w : World) (L : Laid w) :
    Calls Tryd.prog 67 #[.string t] w fun e w' => e = .returned (.string (str (signL t.data.toList))) ∧ Below w.heap.size w w' := by
  have B := fun w => Tryd.strings_HasPrefix t ⟨#[45, 62]⟩ w
  have D := Tryd.utf8_DecodeRuneInString t w L.tabs
  rw [show (ByteArray.mk #[45, 62]).data.toList = [45, 62] from rfl] at B
  obtain ⟨b, hb⟩ : ∃ b, Lib.hasPrefix t.data.toList [45, 62] = b := ⟨_, rfl⟩
  rw [hb] at B
  cases b
  · by_cases hc : (t[0]'h).toNat < 128
    · rw [decode_head t h hc] at D
      have hE := encode_ascii (t[0]'h) hc
      have hS : signL t.data.toList = if sg ((t[0]'h).toNat) then [t[0]'h] else [] := by
        unfold signL
        rw [hb, list_head t h]
        rfl
      rw [hS]
      clear hS hb hc L
      generalize (Lib.decodeGo t).2 = k at *
      generalize t[0]'h = c at *
      by_cases h61 : c = 61
      · subst h61
        rw [show ((61 : UInt8).toNat : Int) = 61 from rfl] at hE D
        rw [show str (if sg (((61 : UInt8).toNat : Nat) : Int) = true then [61] else []) = ⟨#[61]⟩ from rfl]
        go_enter Tryd.func67, Tryd.ntmps67
        go_wp2_with (first | (go_at_call 57; refine (B _).mono ?_; rintro e w1 ⟨rfl, hw⟩; subst w1) | (go_at_call 75; refine D.mono ?_; rintro e w1 ⟨rfl, B1⟩))
        go_ret
        exact ⟨rfl, B1⟩
      by_cases h92 : c = 92
      · subst h92
        rw [show ((92 : UInt8).toNat : Int) = 92 from rfl] at hE D
        rw [show str (if sg (((92 : UInt8).toNat : Nat) : Int) = true then [92] else []) = ⟨#[92]⟩ from rfl]
        go_enter Tryd.func67, Tryd.ntmps67
        go_wp2_with (first | (go_at_call 57; refine (B _).mono ?_; rintro e w1 ⟨rfl, hw⟩; subst w1) | (go_at_call 75; refine D.mono ?_; rintro e w1 ⟨rfl, B1⟩))
        go_ret
        exact ⟨rfl, B1⟩
      by_cases h123 : c = 123
      · subst h123
        rw [show ((123 : UInt8).toNat : Int) = 123 from rfl] at hE D
        rw [show str (if sg (((123 : UInt8).toNat : Nat) : Int) = true then [123] else []) = ⟨#[123]⟩ from rfl]
        go_enter Tryd.func67, Tryd.ntmps67
        go_wp2_with (first | (go_at_call 57; refine (B _).mono ?_; rintro e w1 ⟨rfl, hw⟩; subst w1) | (go_at_call 75; refine D.mono ?_; rintro e w1 ⟨rfl, B1⟩))
        go_ret
        exact ⟨rfl, B1⟩
      by_cases h125 : c = 125
      · subst h125
        rw [show ((125 : UInt8).toNat : Int) = 125 from rfl] at hE D
        rw [show str (if sg (((125 : UInt8).toNat : Nat) : Int) = true then [125] else []) = ⟨#[125]⟩ from rfl]
        go_enter Tryd.func67, Tryd.ntmps67
        go_wp2_with (first | (go_at_call 57; refine (B _).mono ?_; rintro e w1 ⟨rfl, hw⟩; subst w1) | (go_at_call 75; refine D.mono ?_; rintro e w1 ⟨rfl, B1⟩))
        go_ret
        exact ⟨rfl, B1⟩
      by_cases h59 : c = 59
      · subst h59
        rw [show ((59 : UInt8).toNat : Int) = 59 from rfl] at hE D
        rw [show str (if sg (((59 : UInt8).toNat : Nat) : Int) = true then [59] else []) = ⟨#[59]⟩ from rfl]
        go_enter Tryd.func67, Tryd.ntmps67
        go_wp2_with (first | (go_at_call 57; refine (B _).mono ?_; rintro e w1 ⟨rfl, hw⟩; subst w1) | (go_at_call 75; refine D.mono ?_; rintro e w1 ⟨rfl, B1⟩))
        go_ret
        exact ⟨rfl, B1⟩
      by_cases h40 : c = 40
      · subst h40
        rw [show ((40 : UInt8).toNat : Int) = 40 from rfl] at hE D
        rw [show str (if sg (((40 : UInt8).toNat : Nat) : Int) = true then [40] else []) = ⟨#[40]⟩ from rfl]
        go_enter Tryd.func67, Tryd.ntmps67
        go_wp2_with (first | (go_at_call 57; refine (B _).mono ?_; rintro e w1 ⟨rfl, hw⟩; subst w1) | (go_at_call 75; refine D.mono ?_; rintro e w1 ⟨rfl, B1⟩))
        go_ret
        exact ⟨rfl, B1⟩
      by_cases h41 : c = 41
      · subst h41
        rw [show ((41 : UInt8).toNat : Int) = 41 from rfl] at hE D
        rw [show str (if sg (((41 : UInt8).toNat : Nat) : Int) = true then [41] else []) = ⟨#[41]⟩ from rfl]
        go_enter Tryd.func67, Tryd.ntmps67
        go_wp2_with (first | (go_at_call 57; refine (B _).mono ?_; rintro e w1 ⟨rfl, hw⟩; subst w1) | (go_at_call 75; refine D.mono ?_; rintro e w1 ⟨rfl, B1⟩))
        go_ret
        exact ⟨rfl, B1⟩
      have hn : sg (c.toNat) = false := by
        simp only [sg, decide_eq_false_iff_not]
        rintro (q | q | q | q | q | q | q)
        · exact h61 (UInt8.toNat.inj (by show c.toNat = 61; omega))
        · exact h92 (UInt8.toNat.inj (by show c.toNat = 92; omega))
        · exact h123 (UInt8.toNat.inj (by show c.toNat = 123; omega))
        · exact h125 (UInt8.toNat.inj (by show c.toNat = 125; omega))
        · exact h59 (UInt8.toNat.inj (by show c.toNat = 59; omega))
        · exact h40 (UInt8.toNat.inj (by show c.toNat = 40; omega))
        · exact h41 (UInt8.toNat.inj (by show c.toNat = 41; omega))
      rw [hn, if_neg (by decide)]
      clear hn
      generalize (c.toNat : Nat) = r at *
      have lE : (Utf8.encode (r : Int)).toList = [c] := by rw [hE, ByteArray.toList_eq]
      have z61 : ((Utf8.encode (r : Int)).toList == [61]) = false := by rw [lE]; simp [h61]
      have z92 : ((Utf8.encode (r : Int)).toList == [92]) = false := by rw [lE]; simp [h92]
      have z123 : ((Utf8.encode (r : Int)).toList == [123]) = false := by rw [lE]; simp [h123]
      have z125 : ((Utf8.encode (r : Int)).toList == [125]) = false := by rw [lE]; simp [h125]
      have z59 : ((Utf8.encode (r : Int)).toList == [59]) = false := by rw [lE]; simp [h59]
      have z40 : ((Utf8.encode (r : Int)).toList == [40]) = false := by rw [lE]; simp [h40]
      have z41 : ((Utf8.encode (r : Int)).toList == [41]) = false := by rw [lE]; simp [h41]
      clear lE hE h61 h92 h123 h125 h59 h40 h41
      go_enter Tryd.func67, Tryd.ntmps67
      go_wp2_with (first | (go_at_call 57; refine (B _).mono ?_; rintro e w1 ⟨rfl, hw⟩; subst w1) | (go_at_call 75; refine D.mono ?_; rintro e w1 ⟨rfl, B1⟩))
      go_ret
      exact ⟨rfl, B1⟩
    · obtain ⟨h1, h2⟩ := decode_high t h hc
      have hS : signL t.data.toList = [] := by
        unfold signL
        rw [hb, list_head t h]
        have : sg ((t[0]'h).toNat) = false := by
          simp only [sg, decide_eq_false_iff_not]
          omega
        simp only [this]
        rfl
      rw [hS]
      clear hS hb hc L
      generalize (Lib.decodeGo t).2 = k at *
      generalize (Lib.decodeGo t).1 = r at *
      have hsz := (encode_facts (r : Int) h2 (by omega)).1
      have hl : ∀ x : UInt8, ((Utf8.encode (r : Int)).toList == [x]) = false := fun x => by
        rw [ByteArray.toList_eq]
        simp only [beq_eq_false_iff_ne, ne_eq]
        intro q
        have := congrArg List.length q
        rw [size_list] at this
        simp only [List.length_singleton] at this
        omega
      have z61 := hl 61
      have z92 := hl 92
      have z123 := hl 123
      have z125 := hl 125
      have z59 := hl 59
      have z40 := hl 40
      have z41 := hl 41
      clear hl hsz h1 h2
      go_enter Tryd.func67, Tryd.ntmps67
      go_wp2_with (first | (go_at_call 57; refine (B _).mono ?_; rintro e w1 ⟨rfl, hw⟩; subst w1) | (go_at_call 75; refine D.mono ?_; rintro e w1 ⟨rfl, B1⟩))
      go_ret
      exact ⟨rfl, B1⟩
  · have hS : signL t.data.toList = [45, 62] := by unfold signL; rw [hb]; rfl
    rw [hS]
    clear hS hb L D
    go_enter Tryd.func67, Tryd.ntmps67
    go_wp2_with (go_at_call 57; refine (B _).mono ?_; rintro e w1 ⟨rfl, hw⟩; subst w1)
    go_ret
    exact ⟨rfl, Below.refl _ _⟩

end Go.Proofs.YtoedeedoecdajaaDoor
