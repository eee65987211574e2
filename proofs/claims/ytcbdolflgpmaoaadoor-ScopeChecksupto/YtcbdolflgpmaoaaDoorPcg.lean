/- Package scope's checker: names that are unlike; a constructor's fields; atoms. -/
import Derived.Test.YtcbdolflgpmaoaaDoorPcd
import Derived.Test.YtcbdolflgpmaoaaDoorSck
namespace Go.Proofs.YtcbdolflgpmaoaaDoor
open Go.RowKit
open Go.Maps (Keyed string_keyed)
set_option linter.unusedVariables false
set_option linter.unusedSimpArgs false

set_option maxHeartbeats 1000000 in
theorem index_any {w : World} {ok : Nat → Prop} (ls : List Nm) (v : Value) (R : IsRow w ok (strC ls) ls.length v) (s : Nm) :
    Calls Tryd.prog 74 #[v, .string (str s)] w fun e w' => ∃ r : Int, e = .returned (.int .i64 r) ∧ decide (0 ≤ r) = ls.contains s ∧ w' = w := by
  obtain ⟨ga, cap, rfl, hc, hx⟩ := R
  obtain ⟨r, hr⟩ : ∃ r, ls.contains s = r := ⟨_, rfl⟩
  have HR : Hid ((ls.drop 0).contains s = r) := ⟨by rw [List.drop_zero]; exact hr⟩
  have HX := Hid.mk hx
  rw [hr]
  clear hr hx
  obtain ⟨n, hn⟩ : ∃ n, ls.length = n := ⟨_, rfl⟩
  have HN : Hid (ls.length = n) := ⟨hn⟩
  rw [hn] at hc ⊢
  clear hn
  go_enter Tryd.func74, Tryd.ntmps74
  go_wp2
  go_loopw [8] (fun c wr => ∃ k : Nat, c = .int .i64 k ∧ k ≤ n ∧ Hid ((ls.drop k).contains s = r) ∧ w = wr) (fun c _ => n - (intOf c).toNat)
  case atStart => exact ⟨0, rfl, Nat.zero_le _, HR, rfl⟩
  case round =>
    obtain ⟨k, rfl, hk, HK, rfl⟩ := hrel
    by_cases hlt : k < n
    · have kl : k < ls.length := by rw [HN.out]; exact hlt
      obtain ⟨g, off, rfl, _, hx⟩ := HX.out (by rw [HN.out]; omega)
      have c0 := hx k _ (strC_get ls k kl)
      have hst := HK.out
      rw [drop_has kl s] at hst
      have hlt' : (k : Int) < n := by omega
      generalize str (ls[k]'kl) = t at c0 hst
      have hcm : ((str s).toList == t.toList) = (t.toList == (str s).toList) := by rw [Bool.eq_iff_iff, beq_iff_eq, beq_iff_eq]; exact eq_comm
      cases q : (t.toList == (str s).toList)
      · rw [q, Bool.false_or] at hst
        rw [q] at hcm
        have HK' : Hid ((ls.drop (k + 1)).contains s = r) := ⟨hst⟩
        clear hst hx HK HR HX q
        go_wp2
        exact ⟨⟨k + 1, by go_num, by omega, HK', trivial⟩, by simp [intOf]; omega⟩
      · rw [q, Bool.true_or] at hst
        rw [q] at hcm
        have HT : Hid (true = r) := ⟨hst⟩
        clear hst hx HK HR HX q
        go_wp2
        go_ret
        exact ⟨k, rfl, by rw [← HT.out]; simp, rfl⟩
    · obtain rfl : k = n := by omega
      have HT : Hid (false = r) := ⟨by have := HK.out; rwa [List.drop_eq_nil_of_le (by rw [HN.out]; omega)] at this⟩
      clear HK HR HX
      go_wp2
      go_ret
      exact ⟨-1, rfl, by rw [← HT.out]; rfl, rfl⟩
set_option maxHeartbeats 1000000 in
theorem contains_any {w : World} {ok : Nat → Prop} (ls : List Nm) (v : Value) (R : IsRow w ok (strC ls) ls.length v) (s : Nm) :
    Calls Tryd.prog 69 #[v, .string (str s)] w fun e w' => e = .returned (.bool (ls.contains s)) ∧ w' = w := by
  have Q := index_any ls v R s
  generalize ls.contains s = q at Q ⊢
  clear R
  go_enter Tryd.func69, Tryd.ntmps69
  go_wp2_with (go_at_call 74; refine Q.mono ?_; rintro e w6 ⟨r, rfl, hr, rfl⟩; have HR := Hid.mk hr; clear hr)
  go_ret
  exact ⟨by rw [← HR.out]; rfl, rfl⟩
/-- names that are bound at one place -/
def unF (a : Int) (l : List Nm) : Flt := if l.contains [] then some (a, 31) else if twiceN l then some (a, 30) else none
section
variable {w w' : World} {b f m nf n : Nat} {fl : Nm → Option Int} {bd : Nm → Nat}
set_option maxHeartbeats 2000000 in
theorem unlike_any (h : Cs w b f m nf n fl bd) (l : List Nm) (v : Value) (I : IsRow w (but3 b f m) (strC l) l.length v) (hl : ∀ s ∈ l, s.length ≤ maxLen) (a : Int) :
    Calls Tryd.prog 65 #[ptr b, v, .int .i64 a] w (Res w b f m nf n fl bd (unF a l)) := by
  have Q := contains_any l v I []
  rw [show str [] = (⟨#[]⟩ : ByteArray) from rfl] at Q
  have D := fd70_any l v I hl
  have FA := fun W (k : Below w.heap.size w W) (c : Int) => pfail_any (h.later k) a c
  have HH := Hid.mk h
  have e1 := fd_twice l
  have HR := Hid.mk (Below.refl w.heap.size w)
  unfold unF
  clear h I hl
  cases q : l.contains []
  · rw [q] at Q
    rw [if_neg (by simp)]
    cases q2 : twiceN l
    · rw [if_neg (by simp)]
      rw [q2] at e1
      have e2 : ¬ 0 ≤ firstD l := of_decide_eq_false e1
      have e3 : firstD l < 0 := by omega
      generalize firstD l = r at *
      clear e1 q q2
      go_enter Tryd.func65, Tryd.ntmps65
      go_wp2_with (first
        | (go_at_call 69; refine Q.mono ?_; rintro e w6 ⟨rfl, rfl⟩)
        | (go_at_call 70; refine D.mono ?_; rintro e w7 ⟨rfl, B7⟩; have HB := Hid.mk B7; clear B7))
      go_ret
      exact ⟨rfl, Ge.of_below HB.out, HH.out.later HB.out⟩
    · rw [if_pos rfl]
      rw [q2] at e1
      have e2 : 0 ≤ firstD l := of_decide_eq_true e1
      generalize firstD l = r at *
      clear e1 q q2
      go_enter Tryd.func65, Tryd.ntmps65
      go_wp2_with (first
        | (go_at_call 69; refine Q.mono ?_; rintro e w6 ⟨rfl, rfl⟩)
        | (go_at_call 70; refine D.mono ?_; rintro e w7 ⟨rfl, B7⟩; have HB := Hid.mk B7; clear B7)
        | (go_at_call 33; refine (FA _ HB.out _).mono ?_; rintro e w8 ⟨rfl, G8, F8⟩; have HE := Hid.mk (And.intro G8 F8); clear G8 F8))
      go_ret
      exact ⟨rfl, (Ge.of_below HB.out).trans HE.out.1, HE.out.2⟩
  · rw [q] at Q
    rw [if_pos rfl]
    clear q e1
    go_enter Tryd.func65, Tryd.ntmps65
    go_wp2_with (first
      | (go_at_call 69; refine Q.mono ?_; rintro e w6 ⟨rfl, rfl⟩)
      | (go_at_call 33; refine (FA _ HR.out _).mono ?_; rintro e w8 ⟨rfl, G8, F8⟩; have HE := Hid.mk (And.intro G8 F8); clear G8 F8))
    go_ret
    exact ⟨rfl, HE.out.1, HE.out.2⟩
set_option maxHeartbeats 2000000 in
theorem fits_any (h : Cs w b f m nf n fl bd) (s : Nm) (hs : s.length ≤ maxLen) (k : Nat) (a : Int) :
    Calls Tryd.prog 81 #[ptr b, .string (str s), .int .i64 k, .int .i64 a] w (Res w b f m nf n fl bd (conF a (fl s) k)) := by
  have c0 : w.cell? ⟨b, 0, none⟩ = some (.map (some f)) := h.cell 0
  obtain ⟨D, hD, q⟩ := h.fs
  have hat0 := (q s).2
  have hh := (q s).1
  have FA := fun (c : Int) => pfail_any h a c
  have HC := Hid.mk h
  unfold conF
  clear h q
  cases e : fl s with
  | none =>
    rw [e] at hat0 hh
    have HH := Hid.mk hh
    clear hat0 e hh
    go_enter Tryd.func81, Tryd.ntmps81
    go_wp2_with (first
      | (at_lookup; refine wpList_lookup_own_ok_int _ rfl _ _ 51 rfl 9 3 .i64 law9 Tryd.underlying51 Tryd.underlying3 (zero3 _) f nf D rfl hD _ _ rfl (key_str hs) ?_; intro c hat hwc; rw [HH.out])
      | (go_at_call 33; refine (FA _).mono ?_; rintro e w8 ⟨rfl, G8, F8⟩; have HE := Hid.mk (And.intro G8 F8); clear G8 F8))
    go_ret
    exact ⟨rfl, HE.out.1, HE.out.2⟩
  | some r =>
    rw [e] at hat0 hh
    have HH := Hid.mk hh
    have HA := Hid.mk hat0
    clear hat0 e hh
    by_cases z : r = k
    · simp only [z, if_true]
      go_enter Tryd.func81, Tryd.ntmps81
      go_wp2_with (first
        | (at_lookup; refine wpList_lookup_own_ok_int _ rfl _ _ 51 rfl 9 3 .i64 law9 Tryd.underlying51 Tryd.underlying3 (zero3 _) f nf D rfl hD _ _ rfl (key_str hs) ?_; intro c hat hwc; rw [HH.out]; obtain rfl : c = (k : Int) := (by have := hat.symm.trans HA.out; cases this; rw [z]; rfl); clear hat))
      go_ret
      exact ⟨rfl, Ge.refl _ _ _ _, HC.out⟩
    · simp only [z, if_false]
      have z' : ¬ (k : Int) = r := fun e => z e.symm
      go_enter Tryd.func81, Tryd.ntmps81
      go_wp2_with (first
        | (at_lookup; refine wpList_lookup_own_ok_int _ rfl _ _ 51 rfl 9 3 .i64 law9 Tryd.underlying51 Tryd.underlying3 (zero3 _) f nf D rfl hD _ _ rfl (key_str hs) ?_; intro c hat hwc; rw [HH.out]; obtain rfl : c = r := (by have := hat.symm.trans HA.out; cases this; rfl); clear hat)
        | (go_at_call 33; refine (FA _).mono ?_; rintro e w8 ⟨rfl, G8, F8⟩; have HE := Hid.mk (And.intro G8 F8); clear G8 F8))
      go_ret
      exact ⟨rfl, HE.out.1, HE.out.2⟩
end
end Go.Proofs.YtcbdolflgpmaoaaDoor

/- Package scope's checker: atoms; the names of binds. -/
namespace Go.Proofs.YtcbdolflgpmaoaaDoor
open Go.RowKit
open Go.Maps (Keyed string_keyed)
set_option linter.unusedVariables false
set_option linter.unusedSimpArgs false

section
variable {w w' : World} {b f m nf n : Nat} {fl : Nm → Option Int} {bd : Nm → Nat}
/-- which names are in scope -/
abbrev scD (bd : Nm → Nat) : Nm → Bool := fun y => decide (0 < bd y)
set_option maxHeartbeats 4000000 in
theorem patoms_any (h : Cs w b f m nf n fl bd) (k a xm : Int) (s : ByteArray) (ts : List Atm) (vt : Value) (T : IsRow w (but3 b f m) (atmC ts) ts.length vt) (g5 g6 g7 : Option Addr) (n5 n6 n7 c5 c6 c7 : Nat) (hl : ∀ t ∈ ts, t.name.length ≤ maxLen) :
    Calls Tryd.prog 80 #[ptr b, .agg #[.int .i64 k, .int .i64 a, .string s, .int .i64 xm, vt, .slice g5 n5 c5, .slice g6 n6 c6, .slice g7 n7 c7]] w (Res w b f m nf n fl bd (atmF a (scD bd) ts)) := by
  obtain ⟨ga, cap, rfl, hc, hx⟩ := T
  obtain ⟨F, hF⟩ : ∃ F, atmF a (scD bd) ts = F := ⟨_, rfl⟩
  have HR : Hid (atmF a (scD bd) (ts.drop 0) = F) := ⟨by rw [List.drop_zero]; exact hF⟩
  rw [hF]
  have HX := Hid.mk hx
  have HL := Hid.mk hl
  obtain ⟨l, hl⟩ : ∃ l, ts.length = l := ⟨_, rfl⟩
  have HN := Hid.mk hl
  rw [hl] at hc ⊢
  have H1 := Hid.mk (h.alloc (.cells #[.int .i64 k, .int .i64 a, .string s, .int .i64 xm, .slice ga l cap, .slice g5 n5 c5, .slice g6 n6 c6, .slice g7 n7 c7] 45))
  have X1 : Bx (w.alloc (.cells #[.int .i64 k, .int .i64 a, .string s, .int .i64 xm, .slice ga l cap, .slice g5 n5 c5, .slice g6 n6 c6, .slice g7 n7 c7] 45)) w.heap.size #[.int .i64 k, .int .i64 a, .string s, .int .i64 xm, .slice ga l cap, .slice g5 n5 c5, .slice g6 n6 c6, .slice g7 n7 c7] 45 := heap_alloc_new w _
  have B1 := Hid.mk (Joins.below_alloc1 w (.cells #[.int .i64 k, .int .i64 a, .string s, .int .i64 xm, .slice ga l cap, .slice g5 n5 c5, .slice g6 n6 c6, .slice g7 n7 c7] 45))
  have y4 := X1.cell 4
  have HX1 := Hid.mk X1
  clear hF hl hx h X1
  go_enter Tryd.func80, Tryd.ntmps80
  go_wp2
  generalize w.alloc (.cells #[.int .i64 k, .int .i64 a, .string s, .int .i64 xm, .slice ga l cap, .slice g5 n5 c5, .slice g6 n6 c6, .slice g7 n7 c7] 45) = w1 at *
  go_loopw [10] (fun c wr => ∃ j : Nat, c = .int .i64 j ∧ j ≤ l ∧ Hid (Below w.heap.size w wr) ∧ Hid (Cs wr b f m nf n fl bd) ∧ Hid (atmF a (scD bd) (ts.drop j) = F) ∧ Hid (Bx wr w.heap.size #[.int .i64 k, .int .i64 a, .string s, .int .i64 xm, .slice ga l cap, .slice g5 n5 c5, .slice g6 n6 c6, .slice g7 n7 c7] 45)) (fun c _ => l - (intOf c).toNat)
  case atStart => exact ⟨0, rfl, Nat.zero_le _, B1, H1, HR, HX1⟩
  case round =>
    obtain ⟨j, rfl, hj, BW, CW, HK, XW⟩ := hrel
    by_cases hlt : j < l
    · have kl : j < ts.length := by rw [HN.out]; exact hlt
      obtain ⟨g, off, rfl, hg, hx⟩ := HX.out (by rw [HN.out]; omega)
      have c0 := hx _ _ (atmC_get ts j kl).1
      have c1 := hx _ _ (atmC_get ts j kl).2
      replace c0 := (BW.out.cell (World.block_lt_of_cell? _ _ c0)).trans c0
      replace c1 := (BW.out.cell (World.block_lt_of_cell? _ _ c1)).trans c1
      rw [← Nat.add_assoc] at c1
      have hs := HL.out _ (List.getElem_mem kl)
      have hst := HK.out
      rw [List.drop_eq_getElem_cons kl, atmF] at hst
      have hlt' : (j : Int) < l := by omega
      generalize (ts[j]'kl).num = tn at c1
      generalize (ts[j]'kl).name = nm at *
      have CW1 := Hid.mk (CW.out.alloc (.cells #[.string (str nm), .int .i64 tn] 40))
      have BW1 : Hid (Below w.heap.size w (wr.alloc (.cells #[.string (str nm), .int .i64 tn] 40))) := ⟨BW.out.alloc (BW.out.size) _⟩
      have XW1 : Hid (Bx (wr.alloc (.cells #[.string (str nm), .int .i64 tn] 40)) w.heap.size #[.int .i64 k, .int .i64 a, .string s, .int .i64 xm, .slice (some ⟨g, off, none⟩) l cap, .slice g5 n5 c5, .slice g6 n6 c6, .slice g7 n7 c7] 45) := ⟨((Joins.below_alloc1 wr _).block _ XW.out.lt).trans XW.out⟩
      have d0 : (wr.alloc (.cells #[.string (str nm), .int .i64 tn] 40)).cell? ⟨wr.heap.size, 0, none⟩ = some (.string (str nm)) := Joins.cell_of_block (heap_alloc_new wr _) 0
      have d1 : (wr.alloc (.cells #[.string (str nm), .int .i64 tn] 40)).cell? ⟨w.heap.size, 1, none⟩ = some (.int .i64 a) := XW1.out.cell 1
      have C := phas_any CW1.out nm hs
      have FA := pfail_any CW1.out a 31
      by_cases q : nm = []
      · rw [if_neg (fun z => z.1 q)] at hst
        have HK' := Hid.mk hst
        have q' : (str nm).toList = [] := by rw [q, ByteArray.toList_eq]; rfl
        clear hst hx HK HR HX q C FA CW BW XW H1 B1 HX1
        go_wp2
        exact ⟨⟨j + 1, by go_num, by omega, BW1, CW1, HK', XW1⟩, by simp [intOf]; omega⟩
      · have q' : ¬ (str nm).toList = [] := by rw [ByteArray.toList_eq, str_list]; exact q
        have q2 : (!(str nm).toList.isEmpty) = true := by rw [ByteArray.toList_eq, str_list]; simp [q]
        cases z : decide (0 < bd nm)
        · rw [if_pos ⟨q, z⟩] at hst
          rw [z] at C
          have HT := Hid.mk hst
          clear hst hx HK HR HX q z CW BW XW H1 B1 HX1
          go_wp2_with (first
            | (go_at_call 32; refine C.mono ?_; rintro e w7 ⟨rfl, rfl⟩)
            | (go_at_call 33; refine FA.mono ?_; rintro e w8 ⟨rfl, G8, F8⟩; have HE := Hid.mk (And.intro G8 F8); clear G8 F8))
          go_ret
          rw [← HT.out]
          exact ⟨rfl, (Ge.of_below BW1.out).trans HE.out.1, HE.out.2⟩
        · rw [if_neg (fun y => by rw [scD, z] at y; exact absurd y.2 (by simp))] at hst
          rw [z] at C
          have HK' := Hid.mk hst
          clear hst hx HK HR HX q z CW BW XW H1 B1 HX1 FA
          go_wp2_with (first
            | (go_at_call 32; refine C.mono ?_; rintro e w7 ⟨rfl, rfl⟩))
          exact ⟨⟨j + 1, by go_num, by omega, BW1, CW1, HK', XW1⟩, by simp [intOf]; omega⟩
    · obtain rfl : j = l := by omega
      have HT : Hid (F = none) := ⟨by have := HK.out; rw [List.drop_eq_nil_of_le (by rw [HN.out]; omega), atmF] at this; exact this.symm⟩
      clear HK HR HX XW H1 B1 HX1
      go_wp2
      go_ret
      rw [HT.out]
      exact ⟨rfl, Ge.of_below BW.out, CW.out⟩
end
end Go.Proofs.YtcbdolflgpmaoaaDoor

/- Package scope: the names of binds; one of a pattern. -/
namespace Go.Proofs.YtcbdolflgpmaoaaDoor
open Go.RowKit
open Go.Maps (Keyed string_keyed)
set_option linter.unusedVariables false
set_option linter.unusedSimpArgs false

set_option maxHeartbeats 1000000 in
theorem namesOf_any {w : World} {ok : Nat → Prop} (bs : List B) (v : Value) (xs : List Value) (R : IsRow w ok xs bs.length v) (I : isBs w ok bs xs) :
    Calls Tryd.prog 48 #[v] w fun e w' => ∃ r, e = .returned r ∧ Below w.heap.size w w' ∧ Nw w' w.heap.size r (bs.map nameB') := by
  obtain ⟨ga, cap, rfl, hc, hx⟩ := R
  have HX : Hid ((0 < bs.length → ∃ g off, ga = some ⟨g, off, none⟩ ∧ ok g ∧ ∀ (j : Nat) (u : Value), xs[j]? = some u → w.cell? ⟨g, off + j, none⟩ = some u) ∧ isBs w ok bs xs) := ⟨hx, I⟩
  obtain ⟨n, hn⟩ : ∃ n, bs.length = n := ⟨_, rfl⟩
  have HN : Hid (bs.length = n) := ⟨hn⟩
  rw [hn] at hc ⊢
  clear hn hx I
  obtain ⟨i0, hi, hz0, hz1, hz2⟩ := info_parts info9
  go_enter Tryd.func48, Tryd.ntmps48
  go_wp2
  go_loopw [3, 8] (fun v c wr => ∃ k : Nat, c = .int .i64 k ∧ k ≤ n ∧ Below w.heap.size w wr ∧ Nw wr w.heap.size v ((bs.take k).map nameB')) (fun _ c _ => n - (intOf c).toNat)
  case atStart => exact ⟨0, rfl, Nat.zero_le _, Below.refl _ _, by rw [List.take_zero]; exact Nw.nil _ _⟩
  case round =>
    obtain ⟨k, rfl, hk, BW, OW⟩ := hrel
    by_cases hlt : k < n
    · have kl : k < bs.length := by rw [HN.out]; exact hlt
      obtain ⟨g, off, rfl, _, hx⟩ := HX.out.1 (by omega)
      obtain ⟨d, hd, hg⟩ := isBs_get bs xs HX.out.2 k kl
      obtain ⟨a, k1, xa, xm, xs, _, _, _, _, _, rfl, ⟨h2, m2, z2, rfl⟩, ⟨h7, m7, z7, rfl⟩, ⟨h8, m8, z8, rfl⟩, ⟨h9, m9, z9, rfl⟩, ⟨h10, m10, z10, rfl⟩⟩ := isB_ls hd rfl
      have bl : ∀ (j : Nat) (u : Value), [Value.string (str (nameB' (bs[k]'kl))), .int .i64 a, .slice h2 m2 z2, .int .i64 k1, .int .i64 xa, .string xs, .int .i64 xm, .slice h7 m7 z7, .slice h8 m8 z8, .slice h9 m9 z9, .slice h10 m10 z10][j]? = some u → wr.cell? ⟨g, off + k * 11 + j, none⟩ = some u := fun j u hj => by
        have h0 := hx _ _ (hg j u hj)
        rw [← Nat.add_assoc] at h0
        exact (BW.cell (World.block_lt_of_cell? _ _ h0)).trans h0
      have c0 := bl 0 _ rfl
      have c1 := bl 1 _ rfl
      have c2 := bl 2 _ rfl
      have c3 := bl 3 _ rfl
      have c4 := bl 4 _ rfl
      have c5 := bl 5 _ rfl
      have c6 := bl 6 _ rfl
      have c7 := bl 7 _ rfl
      have c8 := bl 8 _ rfl
      have c9 := bl 9 _ rfl
      have c10 := bl 10 _ rfl
      rw [Nat.add_zero] at c0
      have hlt' : (k : Int) < n := by omega
      have e1 : (bs.take (k + 1)).map nameB' = (bs.take k).map nameB' ++ [nameB' (bs[k]'kl)] := by rw [← List.take_append_getElem kl, List.map_append, List.map_cons, List.map_nil]
      have HE : Hid ((bs.take (k + 1)).map nameB' = (bs.take k).map nameB' ++ [nameB' (bs[k]'kl)]) := ⟨e1⟩
      have e2 : ((bs.take k).map nameB').length = k := by rw [List.length_map, List.length_take]; omega
      have HO : Hid (RowS wr w.heap.size 9 1 u3 k (strC ((bs.take k).map nameB'))) := ⟨by have := OW; unfold Nw at this; rwa [e2] at this⟩
      have HBW : Hid (Below w.heap.size w wr) := ⟨BW⟩
      have sB := BW.size
      have HM : Hid (k + 1 ≤ maxLen ∧ (k + 1) * 16 ≤ 140737488355328) := ⟨by unfold maxLen; omega, by omega⟩
      clear hx hd hg OW BW e1 e2 bl
      generalize nameB' (bs[k]'kl) = nm at *
      have d0 : (wr.alloc (.cells #[.string (str nm), .int .i64 a, .slice h2 m2 z2, .int .i64 k1, .int .i64 xa, .string xs, .int .i64 xm, .slice h7 m7 z7, .slice h8 m8 z8, .slice h9 m9 z9, .slice h10 m10 z10] 49)).cell? ⟨wr.heap.size, 0, none⟩ = some (.string (str nm)) := Joins.cell_of_block (heap_alloc_new wr _) 0
      have HS : Hid (0 < 1 → ∃ ad, some (⟨wr.heap.size + 1, 0, none⟩ : Addr) = some ad ∧ ∀ j u, [Value.string (str nm)][j]? = some u → ((wr.alloc (.cells #[.string (str nm), .int .i64 a, .slice h2 m2 z2, .int .i64 k1, .int .i64 xa, .string xs, .int .i64 xm, .slice h7 m7 z7, .slice h8 m8 z8, .slice h9 m9 z9, .slice h10 m10 z10] 49)).alloc (.cells #[.string (str nm)] 9)).cell? (ad.add j) = some u) := ⟨fun _ => ⟨_, rfl, by have := @new_one (wr.alloc (.cells #[.string (str nm), .int .i64 a, .slice h2 m2 z2, .int .i64 k1, .int .i64 xa, .string xs, .int .i64 xm, .slice h7 m7 z7, .slice h8 m8 z8, .slice h9 m9 z9, .slice h10 m10 z10] 49)) (.string (str nm)) 9; rwa [World.size_alloc] at this⟩⟩
      have HA : Hid (Below wr.heap.size wr ((wr.alloc (.cells #[.string (str nm), .int .i64 a, .slice h2 m2 z2, .int .i64 k1, .int .i64 xa, .string xs, .int .i64 xm, .slice h7 m7 z7, .slice h8 m8 z8, .slice h9 m9 z9, .slice h10 m10 z10] 49)).alloc (.cells #[.string (str nm)] 9))) := ⟨(Joins.below_alloc1 wr _).alloc (Joins.below_alloc1 wr _).size _⟩
      go_wp2_with (at_builtin; refine wpList_append_T rfl (.tmp 12) (.tmp 15) 38 rfl w.heap.size 9 i0 _ 1 16 Tryd.underlying38 hi hz0 hz1 hz2 rfl (by decide) u3 k (strC ((bs.take k).map nameB')) rfl (RowS.kept HO.out HA.out) (some ⟨wr.heap.size + 1, 0, none⟩) 1 1 [.string (str nm)] rfl rfl HS.out one_cell (k + 1) rfl (strC ((bs.take k).map nameB') ++ [.string (str nm)]) rfl HM.out.1 HM.out.2 (Nat.le_trans sB HA.out.size) ?_; intro g1 c1 w1 R1 B1; have HR1 : Hid (RowS w1 w.heap.size 9 1 (.slice g1 (k + 1) c1) (k + 1) (strC ((bs.take k).map nameB') ++ [.string (str nm)])) := ⟨R1⟩; have HB1 : Hid (Below w.heap.size w w1) := ⟨(HBW.out.trans (Joins.below_le HA.out sB)).trans B1⟩; clear R1 B1)
      refine ⟨⟨k + 1, by go_num, by omega, HB1.out, ?_⟩, by simp [intOf]; omega⟩
      unfold Nw
      rw [HE.out, strC_snoc, List.length_append, List.length_map, List.length_take, Nat.min_eq_left (by omega)]
      exact HR1.out
    · obtain rfl : k = n := by omega
      have HO : Hid (Nw wr w.heap.size u3 (bs.map nameB')) := ⟨by have := OW; rwa [List.take_of_length_le (by rw [HN.out]; exact Nat.le_refl _)] at this⟩
      have HBW : Hid (Below w.heap.size w wr) := ⟨BW⟩
      clear BW OW
      go_wp2
      go_ret
      exact ⟨_, rfl, HBW.out, HO.out⟩
section
variable {w w' : World} {b f m nf n : Nat} {fl : Nm → Option Int} {bd : Nm → Nat}
/-- an alternative's cells -/
abbrev altV (k a : Int) (s : ByteArray) (n : Int) (v4 : Value) (k1 xa : Int) (xs : ByteArray) (xm : Int) (v9 v10 v11 v12 : Value) : Array Value := #[.int .i64 k, .int .i64 a, .string s, .int .i64 n, v4, .int .i64 k1, .int .i64 xa, .string xs, .int .i64 xm, v9, v10, v11, v12]
set_option maxHeartbeats 2000000 in
theorem onlyOne_any (h : Cs w b f m nf n fl bd) (k a xn k1 xa xm : Int) (s xs : ByteArray) (g4 g9 g10 g11 g12 : Option Addr) (n4 n9 n10 n11 n12 c4 c9 c10 c11 c12 : Nat) (q : Bool) :
    Calls Tryd.prog 89 #[ptr b, .agg (altV k a s xn (.slice g4 n4 c4) k1 xa xs xm (.slice g9 n9 c9) (.slice g10 n10 c10) (.slice g11 n11 c11) (.slice g12 n12 c12)), .bool q] w (Res w b f m nf n fl bd (if q = true then some (a, 30) else none)) := by
  have CW := Hid.mk (h.alloc (.cells (altV k a s xn (.slice g4 n4 c4) k1 xa xs xm (.slice g9 n9 c9) (.slice g10 n10 c10) (.slice g11 n11 c11) (.slice g12 n12 c12)) 92))
  have BW := Hid.mk (Joins.below_alloc1 w (.cells (altV k a s xn (.slice g4 n4 c4) k1 xa xs xm (.slice g9 n9 c9) (.slice g10 n10 c10) (.slice g11 n11 c11) (.slice g12 n12 c12)) 92))
  have d1 : (w.alloc (.cells (altV k a s xn (.slice g4 n4 c4) k1 xa xs xm (.slice g9 n9 c9) (.slice g10 n10 c10) (.slice g11 n11 c11) (.slice g12 n12 c12)) 92)).cell? ⟨w.heap.size, 1, none⟩ = some (.int .i64 a) := Joins.cell_of_block (heap_alloc_new w _) 1
  have FA := pfail_any CW.out a 30
  clear h
  cases q
  · rw [if_neg (by simp)]
    go_enter Tryd.func89, Tryd.ntmps89
    go_wp2
    go_ret
    exact ⟨rfl, Ge.of_below BW.out, CW.out⟩
  · rw [if_pos rfl]
    go_enter Tryd.func89, Tryd.ntmps89
    go_wp2_with (go_at_call 33; refine FA.mono ?_; rintro e w8 ⟨rfl, G8, F8⟩; have HE := Hid.mk (And.intro G8 F8); clear G8 F8)
    go_ret
    exact ⟨rfl, (Ge.of_below BW.out).trans HE.out.1, HE.out.2⟩
end
end Go.Proofs.YtcbdolflgpmaoaaDoor
