/- Package scope's checker: names that are unlike; a constructor's fields; atoms. -/
import Derived.Test.YtcbdolflgpmaoaaDoorPcc
namespace Go.Proofs.YtcbdolflgpmaoaaDoor
open Go.RowKit
open Go.Maps (Keyed string_keyed)
set_option linter.unusedVariables false
set_option linter.unusedSimpArgs false

set_option maxHeartbeats 1000000 in
theorem index_any {w : World} {ok : Nat → Prop} (ls : List Nm) (v : Value) (R : IsRow w ok (strC ls) ls.length v) (s : Nm) :
    Calls Tryd.prog 74 #[v, .string (str s)] w fun e w' => ∃ r : Int, e = .returned (.int .i64 r) ∧ decide (0 ≤ r) = ls.contains s ∧ w' = w := by
  obtain ⟨ga, cap, rfl, hc, hx⟩ := R
  obtain ⟨r, hr⟩ : ∃ r, ls.contains s = r := ⟨_, rfl⟩
  have HR : Hid ((ls.drop 0).contains s = r) := ⟨by rw [List.drop_zero]; exact hr⟩
  have HX := Hid.mk hx
  rw [hr]
  clear hr hx
  obtain ⟨n, hn⟩ : ∃ n, ls.length = n := ⟨_, rfl⟩
  have HN : Hid (ls.length = n) := ⟨hn⟩
  rw [hn] at hc ⊢
  clear hn
  go_enter Tryd.func74, Tryd.ntmps74
  go_wp2
  go_loopw [8] (fun c wr => ∃ k : Nat, c = .int .i64 k ∧ k ≤ n ∧ Hid ((ls.drop k).contains s = r) ∧ w = wr) (fun c _ => n - (intOf c).toNat)
  case atStart => exact ⟨0, rfl, Nat.zero_le _, HR, rfl⟩
  case round =>
    obtain ⟨k, rfl, hk, HK, rfl⟩ := hrel
    by_cases hlt : k < n
    · have kl : k < ls.length := by rw [HN.out]; exact hlt
      obtain ⟨g, off, rfl, _, hx⟩ := HX.out (by rw [HN.out]; omega)
      have c0 := hx k _ (strC_get ls k kl)
      have hst := HK.out
      rw [drop_has kl s] at hst
      have hlt' : (k : Int) < n := by omega
      generalize str (ls[k]'kl) = t at c0 hst
      have hcm : ((str s).toList == t.toList) = (t.toList == (str s).toList) := by rw [Bool.eq_iff_iff, beq_iff_eq, beq_iff_eq]; exact eq_comm
      cases q : (t.toList == (str s).toList)
      · rw [q, Bool.false_or] at hst
        rw [q] at hcm
        have HK' : Hid ((ls.drop (k + 1)).contains s = r) := ⟨hst⟩
        clear hst hx HK HR HX q
        go_wp2
        exact ⟨⟨k + 1, by go_num, by omega, HK', trivial⟩, by simp [intOf]; omega⟩
      · rw [q, Bool.true_or] at hst
        rw [q] at hcm
        have HT : Hid (true = r) := ⟨hst⟩
        clear hst hx HK HR HX q
        go_wp2
        go_ret
        exact ⟨k, rfl, by rw [← HT.out]; simp, rfl⟩
    · obtain rfl : k = n := by omega
      have HT : Hid (false = r) := ⟨by have := HK.out; rwa [List.drop_eq_nil_of_le (by rw [HN.out]; omega)] at this⟩
      clear HK HR HX
      go_wp2
      go_ret
      exact ⟨-1, rfl, by rw [← HT.out]; rfl, rfl⟩
set_option maxHeartbeats 1000000 in
theorem contains_any {w : World} {ok : Nat → Prop} (ls : List Nm) (v : Value) (R : IsRow w ok (strC ls) ls.length v) (s : Nm) :
    Calls Tryd.prog 69 #[v, .string (str s)] w fun e w' => e = .returned (.bool (ls.contains s)) ∧ w' = w := by
  have Q := index_any ls v R s
  generalize ls.contains s = q at Q ⊢
  clear R
  go_enter Tryd.func69, Tryd.ntmps69
  go_wp2_with (go_at_call 74; refine Q.mono ?_; rintro e w6 ⟨r, rfl, hr, rfl⟩; have HR := Hid.mk hr; clear hr)
  go_ret
  exact ⟨by rw [← HR.out]; rfl, rfl⟩
/-- names that are bound at one place -/
def unF (a : Int) (l : List Nm) : Flt := if l.contains [] then some (a, 31) else if twiceN l then some (a, 30) else none
section
variable {w w' : World} {b f m nf n : Nat} {fl : Nm → Option Int} {bd : Nm → Nat}
set_option maxHeartbeats 2000000 in
theorem unlike_any (h : Cs w b f m nf n fl bd) (l : List Nm) (v : Value) (I : IsRow w (but3 b f m) (strC l) l.length v) (hl : ∀ s ∈ l, s.length ≤ maxLen) (a : Int) :
    Calls Tryd.prog 65 #[ptr b, v, .int .i64 a] w (Res w b f m nf n fl bd (unF a l)) := by
  have Q := contains_any l v I []
  rw [show str [] = (⟨#[]⟩ : ByteArray) from rfl] at Q
  have D := fd70_any l v I hl
  have FA := fun W (k : Below w.heap.size w W) (c : Int) => pfail_any (h.later k) a c
  have HH := Hid.mk h
  have e1 := fd_twice l
  have HR := Hid.mk (Below.refl w.heap.size w)
  unfold unF
  clear h I hl
  cases q : l.contains []
  · rw [q] at Q
    rw [if_neg (by simp)]
    cases q2 : twiceN l
    · rw [if_neg (by simp)]
      rw [q2] at e1
      have e2 : ¬ 0 ≤ firstD l := of_decide_eq_false e1
      have e3 : firstD l < 0 := by omega
      generalize firstD l = r at *
      clear e1 q q2
      go_enter Tryd.func65, Tryd.ntmps65
      go_wp2_with (first
        | (go_at_call 69; refine Q.mono ?_; rintro e w6 ⟨rfl, rfl⟩)
        | (go_at_call 70; refine D.mono ?_; rintro e w7 ⟨rfl, B7⟩; have HB := Hid.mk B7; clear B7))
      go_ret
      exact ⟨rfl, Ge.of_below HB.out, HH.out.later HB.out⟩
    · rw [if_pos rfl]
      rw [q2] at e1
      have e2 : 0 ≤ firstD l := of_decide_eq_true e1
      generalize firstD l = r at *
      clear e1 q q2
      go_enter Tryd.func65, Tryd.ntmps65
      go_wp2_with (first
        | (go_at_call 69; refine Q.mono ?_; rintro e w6 ⟨rfl, rfl⟩)
        | (go_at_call 70; refine D.mono ?_; rintro e w7 ⟨rfl, B7⟩; have HB := Hid.mk B7; clear B7)
        | (go_at_call 33; refine (FA _ HB.out _).mono ?_; rintro e w8 ⟨rfl, G8, F8⟩; have HE := Hid.mk (And.intro G8 F8); clear G8 F8))
      go_ret
      exact ⟨rfl, (Ge.of_below HB.out).trans HE.out.1, HE.out.2⟩
  · rw [q] at Q
    rw [if_pos rfl]
    clear q e1
    go_enter Tryd.func65, Tryd.ntmps65
    go_wp2_with (first
      | (go_at_call 69; refine Q.mono ?_; rintro e w6 ⟨rfl, rfl⟩)
      | (go_at_call 33; refine (FA _ HR.out _).mono ?_; rintro e w8 ⟨rfl, G8, F8⟩; have HE := Hid.mk (And.intro G8 F8); clear G8 F8))
    go_ret
    exact ⟨rfl, HE.out.1, HE.out.2⟩
set_option maxHeartbeats 2000000 in
theorem fits_any (h : Cs w b f m nf n fl bd) (s : Nm) (hs : s.length ≤ maxLen) (k : Nat) (a : Int) :
    Calls Tryd.prog 81 #[ptr b, .string (str s), .int .i64 k, .int .i64 a] w (Res w b f m nf n fl bd (conF a (fl s) k)) := by
  have c0 : w.cell? ⟨b, 0, none⟩ = some (.map (some f)) := h.cell 0
  obtain ⟨D, hD, q⟩ := h.fs
  have hat0 := (q s).2
  have hh := (q s).1
  have FA := fun (c : Int) => pfail_any h a c
  have HC := Hid.mk h
  unfold conF
  clear h q
  cases e : fl s with
  | none =>
    rw [e] at hat0 hh
    have HH := Hid.mk hh
    clear hat0 e hh
    go_enter Tryd.func81, Tryd.ntmps81
    go_wp2_with (first
      | (at_lookup; refine wpList_lookup_own_ok_int _ rfl _ _ 51 rfl 9 3 .i64 law9 Tryd.underlying51 Tryd.underlying3 (zero3 _) f nf D rfl hD _ _ rfl (key_str hs) ?_; intro c hat hwc; rw [HH.out])
      | (go_at_call 33; refine (FA _).mono ?_; rintro e w8 ⟨rfl, G8, F8⟩; have HE := Hid.mk (And.intro G8 F8); clear G8 F8))
    go_ret
    exact ⟨rfl, HE.out.1, HE.out.2⟩
  | some r =>
    rw [e] at hat0 hh
    have HH := Hid.mk hh
    have HA := Hid.mk hat0
    clear hat0 e hh
    by_cases z : r = k
    · simp only [z, if_true]
      go_enter Tryd.func81, Tryd.ntmps81
      go_wp2_with (first
        | (at_lookup; refine wpList_lookup_own_ok_int _ rfl _ _ 51 rfl 9 3 .i64 law9 Tryd.underlying51 Tryd.underlying3 (zero3 _) f nf D rfl hD _ _ rfl (key_str hs) ?_; intro c hat hwc; rw [HH.out]; obtain rfl : c = (k : Int) := (by have := hat.symm.trans HA.out; cases this; rw [z]; rfl); clear hat))
      go_ret
      exact ⟨rfl, Ge.refl _ _ _ _, HC.out⟩
    · simp only [z, if_false]
      have z' : ¬ (k : Int) = r := fun e => z e.symm
      go_enter Tryd.func81, Tryd.ntmps81
      go_wp2_with (first
        | (at_lookup; refine wpList_lookup_own_ok_int _ rfl _ _ 51 rfl 9 3 .i64 law9 Tryd.underlying51 Tryd.underlying3 (zero3 _) f nf D rfl hD _ _ rfl (key_str hs) ?_; intro c hat hwc; rw [HH.out]; obtain rfl : c = r := (by have := hat.symm.trans HA.out; cases this; rfl); clear hat)
        | (go_at_call 33; refine (FA _).mono ?_; rintro e w8 ⟨rfl, G8, F8⟩; have HE := Hid.mk (And.intro G8 F8); clear G8 F8))
      go_ret
      exact ⟨rfl, HE.out.1, HE.out.2⟩
end
end Go.Proofs.YtcbdolflgpmaoaaDoor
