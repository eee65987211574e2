/- Package scope's checker: names that are unlike; a constructor's fields; atoms. -/
import Derived.Test.YtbajpejnnfacbaaGreatDoorPcc
import Derived.Test.YtbajpejnnfacbaaGreatDoorSch
namespace Go.Proofs.YtbajpejnnfacbaaGreatDoor
open Go.RowKit
open Go.Maps (Keyed string_keyed)
set_option linter.unusedVariables false
set_option linter.unusedSimpArgs false

set_option maxHeartbeats 1000000 in
theorem index_any {w : World} {ok : Nat → Prop} (ls : List Nm) (v : Value) (R : IsRow w ok (strC ls) ls.length v) (s : Nm) :
    Calls Tryz.prog 117 #[v, .string (str s)] w fun e w' => ∃ r : Int, e = .returned (.int .i64 r) ∧ decide (0 ≤ r) = ls.contains s ∧ w' = w := by
  obtain ⟨ga, cap, rfl, hc, hx⟩ := R
  obtain ⟨r, hr⟩ : ∃ r, ls.contains s = r := ⟨_, rfl⟩
  have HR : Hid ((ls.drop 0).contains s = r) := ⟨by rw [List.drop_zero]; exact hr⟩
  have HX := Hid.mk hx
  rw [hr]
  clear hr hx
  obtain ⟨n, hn⟩ : ∃ n, ls.length = n := ⟨_, rfl⟩
  have HN : Hid (ls.length = n) := ⟨hn⟩
  rw [hn] at hc ⊢
  clear hn
  go_enter Tryz.func117, Tryz.ntmps117
  go_wp2
  go_loopw [8] (fun c wr => ∃ k : Nat, c = .int .i64 k ∧ k ≤ n ∧ Hid ((ls.drop k).contains s = r) ∧ w = wr) (fun c _ => n - (intOf c).toNat)
  case atStart => exact ⟨0, rfl, Nat.zero_le _, HR, rfl⟩
  case round =>
    obtain ⟨k, rfl, hk, HK, rfl⟩ := hrel
    by_cases hlt : k < n
    · have kl : k < ls.length := by rw [HN.out]; exact hlt
      obtain ⟨g, off, rfl, _, hx⟩ := HX.out (by rw [HN.out]; omega)
      have c0 := hx k _ (strC_get ls k kl)
      have hst := HK.out
      rw [drop_has kl s] at hst
      have hlt' : (k : Int) < n := by omega
      generalize str (ls[k]'kl) = t at c0 hst
      have hcm : ((str s).toList == t.toList) = (t.toList == (str s).toList) := by rw [Bool.eq_iff_iff, beq_iff_eq, beq_iff_eq]; exact eq_comm
      cases q : (t.toList == (str s).toList)
      · rw [q, Bool.false_or] at hst
        rw [q] at hcm
        have HK' : Hid ((ls.drop (k + 1)).contains s = r) := ⟨hst⟩
        clear hst hx HK HR HX q
        go_wp2
        exact ⟨⟨k + 1, by go_num, by omega, HK', trivial⟩, by simp [intOf]; omega⟩
      · rw [q, Bool.true_or] at hst
        rw [q] at hcm
        have HT : Hid (true = r) := ⟨hst⟩
        clear hst hx HK HR HX q
        go_wp2
        go_ret
        exact ⟨k, rfl, by rw [← HT.out]; simp, rfl⟩
    · obtain rfl : k = n := by omega
      have HT : Hid (false = r) := ⟨by have := HK.out; rwa [List.drop_eq_nil_of_le (by rw [HN.out]; omega)] at this⟩
      clear HK HR HX
      go_wp2
      go_ret
      exact ⟨-1, rfl, by rw [← HT.out]; rfl, rfl⟩
set_option maxHeartbeats 1000000 in
theorem contains_any {w : World} {ok : Nat → Prop} (ls : List Nm) (v : Value) (R : IsRow w ok (strC ls) ls.length v) (s : Nm) :
    Calls Tryz.prog 105 #[v, .string (str s)] w fun e w' => e = .returned (.bool (ls.contains s)) ∧ w' = w := by
  have Q := index_any ls v R s
  generalize ls.contains s = q at Q ⊢
  clear R
  go_enter Tryz.func105, Tryz.ntmps105
  go_wp2_with (go_at_call 117; refine Q.mono ?_; rintro e w6 ⟨r, rfl, hr, rfl⟩; have HR := Hid.mk hr; clear hr)
  go_ret
  exact ⟨by rw [← HR.out]; rfl, rfl⟩
/-- names that are bound at one place -/
def unF (a : Int) (l : List Nm) : Flt := if l.contains [] then some (a, 31) else if twiceN l then some (a, 30) else none
section
variable {w w' : World} {b f m nf n : Nat} {fl : Nm → Option Int} {bd : Nm → Nat}
set_option maxHeartbeats 2000000 in
theorem unlike_any (h : Cs w b f m nf n fl bd) (l : List Nm) (v : Value) (I : IsRow w (but3 b f m) (strC l) l.length v) (hl : ∀ s ∈ l, s.length ≤ maxLen) (a : Int) :
    Calls Tryz.prog 81 #[ptr b, v, .int .i64 a] w (Res w b f m nf n fl bd (unF a l)) := by
  have Q := contains_any l v I []
  rw [show str [] = (⟨#[]⟩ : ByteArray) from rfl] at Q
  have D := fd70_any l v I hl
  have FA := fun W (k : Below w.heap.size w W) (c : Int) => pfail_any (h.later k) a c
  have HH := Hid.mk h
  have e1 := fd_twice l
  have HR := Hid.mk (Below.refl w.heap.size w)
  unfold unF
  clear h I hl
  cases q : l.contains []
  · rw [q] at Q
    rw [if_neg (by simp)]
    cases q2 : twiceN l
    · rw [if_neg (by simp)]
      rw [q2] at e1
      have e2 : ¬ 0 ≤ firstD l := of_decide_eq_false e1
      have e3 : firstD l < 0 := by omega
      generalize firstD l = r at *
      clear e1 q q2
      go_enter Tryz.func81, Tryz.ntmps81
      go_wp2_with (first
        | (go_at_call 105; refine Q.mono ?_; rintro e w6 ⟨rfl, rfl⟩)
        | (go_at_call 106; refine D.mono ?_; rintro e w7 ⟨rfl, B7⟩; have HB := Hid.mk B7; clear B7))
      go_ret
      exact ⟨rfl, Ge.of_below HB.out, HH.out.later HB.out⟩
    · rw [if_pos rfl]
      rw [q2] at e1
      have e2 : 0 ≤ firstD l := of_decide_eq_true e1
      generalize firstD l = r at *
      clear e1 q q2
      go_enter Tryz.func81, Tryz.ntmps81
      go_wp2_with (first
        | (go_at_call 105; refine Q.mono ?_; rintro e w6 ⟨rfl, rfl⟩)
        | (go_at_call 106; refine D.mono ?_; rintro e w7 ⟨rfl, B7⟩; have HB := Hid.mk B7; clear B7)
        | (go_at_call 45; refine (FA _ HB.out _).mono ?_; rintro e w8 ⟨rfl, G8, F8⟩; have HE := Hid.mk (And.intro G8 F8); clear G8 F8))
      go_ret
      exact ⟨rfl, (Ge.of_below HB.out).trans HE.out.1, HE.out.2⟩
  · rw [q] at Q
    rw [if_pos rfl]
    clear q e1
    go_enter Tryz.func81, Tryz.ntmps81
    go_wp2_with (first
      | (go_at_call 105; refine Q.mono ?_; rintro e w6 ⟨rfl, rfl⟩)
      | (go_at_call 45; refine (FA _ HR.out _).mono ?_; rintro e w8 ⟨rfl, G8, F8⟩; have HE := Hid.mk (And.intro G8 F8); clear G8 F8))
    go_ret
    exact ⟨rfl, HE.out.1, HE.out.2⟩
set_option maxHeartbeats 2000000 in
theorem fits_any (h : Cs w b f m nf n fl bd) (s : Nm) (hs : s.length ≤ maxLen) (k : Nat) (a : Int) :
    Calls Tryz.prog 129 #[ptr b, .string (str s), .int .i64 k, .int .i64 a] w (Res w b f m nf n fl bd (conF a (fl s) k)) := by
  have c0 : w.cell? ⟨b, 0, none⟩ = some (.map (some f)) := h.cell 0
  obtain ⟨D, hD, q⟩ := h.fs
  have hat0 := (q s).2
  have hh := (q s).1
  have FA := fun (c : Int) => pfail_any h a c
  have HC := Hid.mk h
  unfold conF
  clear h q
  cases e : fl s with
  | none =>
    rw [e] at hat0 hh
    have HH := Hid.mk hh
    clear hat0 e hh
    go_enter Tryz.func129, Tryz.ntmps129
    go_wp2_with (first
      | (at_lookup; refine wpList_lookup_own_ok_int _ rfl _ _ 70 rfl 9 3 .i64 law9 Tryz.underlying70 Tryz.underlying3 (zero3 _) f nf D rfl hD _ _ rfl (key_str hs) ?_; intro c hat hwc; rw [HH.out])
      | (go_at_call 45; refine (FA _).mono ?_; rintro e w8 ⟨rfl, G8, F8⟩; have HE := Hid.mk (And.intro G8 F8); clear G8 F8))
    go_ret
    exact ⟨rfl, HE.out.1, HE.out.2⟩
  | some r =>
    rw [e] at hat0 hh
    have HH := Hid.mk hh
    have HA := Hid.mk hat0
    clear hat0 e hh
    by_cases z : r = k
    · simp only [z, if_true]
      go_enter Tryz.func129, Tryz.ntmps129
      go_wp2_with (first
        | (at_lookup; refine wpList_lookup_own_ok_int _ rfl _ _ 70 rfl 9 3 .i64 law9 Tryz.underlying70 Tryz.underlying3 (zero3 _) f nf D rfl hD _ _ rfl (key_str hs) ?_; intro c hat hwc; rw [HH.out]; obtain rfl : c = (k : Int) := (by have := hat.symm.trans HA.out; cases this; rw [z]; rfl); clear hat))
      go_ret
      exact ⟨rfl, Ge.refl _ _ _ _, HC.out⟩
    · simp only [z, if_false]
      have z' : ¬ (k : Int) = r := fun e => z e.symm
      go_enter Tryz.func129, Tryz.ntmps129
      go_wp2_with (first
        | (at_lookup; refine wpList_lookup_own_ok_int _ rfl _ _ 70 rfl 9 3 .i64 law9 Tryz.underlying70 Tryz.underlying3 (zero3 _) f nf D rfl hD _ _ rfl (key_str hs) ?_; intro c hat hwc; rw [HH.out]; obtain rfl : c = r := (by have := hat.symm.trans HA.out; cases this; rfl); clear hat)
        | (go_at_call 45; refine (FA _).mono ?_; rintro e w8 ⟨rfl, G8, F8⟩; have HE := Hid.mk (And.intro G8 F8); clear G8 F8))
      go_ret
      exact ⟨rfl, HE.out.1, HE.out.2⟩
end
end Go.Proofs.YtbajpejnnfacbaaGreatDoor

/- The document's check: an expression without parts. -/
namespace Go.Proofs.YtbajpejnnfacbaaGreatDoor
open Go.RowKit
set_option linter.unusedVariables false
set_option linter.unusedSimpArgs false

theorem fr_alloc_row {w : World} {ok : Nat → Prop} {xs : List Value} {n : Nat} {v : Value} {o : Obj} (h : IsRow w ok xs n v) : IsRow (w.alloc o) ok xs n v := h.keeps (keeps_below (Joins.below_alloc1 w o) (fun _ h => h))
end Go.Proofs.YtbajpejnnfacbaaGreatDoor

/- The document's check: constructors, primitives, numbers, kinds that are none. -/
namespace Go.Proofs.YtbajpejnnfacbaaGreatDoor
open Go.RowKit
set_option linter.unusedVariables false
set_option linter.unusedSimpArgs false

theorem Bx.drew {w : World} {m : Nat} {cs : Array Value} {t : TypeId} (h : Bx w m cs t) : Bx w.drew m cs t := h
theorem Bx.later {w w' : World} {m : Nat} {cs : Array Value} {t : TypeId} (h : Bx w m cs t) (hb : Below w.heap.size w w') : Bx w' m cs t := (hb.block m h.lt).trans h
end Go.Proofs.YtbajpejnnfacbaaGreatDoor

/- The document's check: what each expression is asked; a form. -/
namespace Go.Proofs.YtbajpejnnfacbaaGreatDoor
open Go.RowKit
set_option linter.unusedVariables false
set_option linter.unusedSimpArgs false

theorem isE_eight {w : World} {ok : Nat → Prop} {x : E} {c : List Value} (h : isE w ok x c) : ∃ (k a m : Int) (s : ByteArray) (g4 g5 g6 g7 : Option Addr) (n4 n5 n6 n7 c4 c5 c6 c7 : Nat),
    c = [.int .i64 k, .int .i64 a, .string s, .int .i64 m, .slice g4 n4 c4, .slice g5 n5 c5, .slice g6 n6 c6, .slice g7 n7 c7] := by
  obtain ⟨k, a, n, m, ts, bs, ks, al⟩ := x
  simp only [isE] at h
  obtain ⟨vt, vb, vk, va, xb, xk, xa, rfl, ⟨_, _, rfl, _⟩, ⟨_, _, rfl, _⟩, _, ⟨_, _, rfl, _⟩, _, ⟨_, _, rfl, _⟩, _⟩ := h
  exact ⟨_, _, _, _, _, _, _, _, _, _, _, _, _, _, _, _, rfl⟩
mutual
/-- how many names a tree may bring into scope -/
def nmE : E → Nat
  | .mk _ _ _ _ _ bs ks al => bs.length + nmBs bs + nmEs ks + nmAs al
def nmB : B → Nat
  | .mk _ _ l x => l.length + nmE x
def nmA : A → Nat
  | .mk _ _ _ _ vs x => vs.length + 1 + nmE x
def nmEs : List E → Nat
  | [] => 0
  | x :: r => nmE x + nmEs r
def nmBs : List B → Nat
  | [] => 0
  | x :: r => nmB x + nmBs r
def nmAs : List A → Nat
  | [] => 0
  | x :: r => nmA x + nmAs r
end
theorem has_app (a b : List Nm) (y : Nm) : (a ++ b).contains y = (a.contains y || b.contains y) := by
  rw [List.contains_eq_any_beq, List.any_append, ← List.contains_eq_any_beq, ← List.contains_eq_any_beq]
end Go.Proofs.YtbajpejnnfacbaaGreatDoor

/- Package scope's checker: atoms; the names of binds. -/
namespace Go.Proofs.YtbajpejnnfacbaaGreatDoor
open Go.RowKit
open Go.Maps (Keyed string_keyed)
set_option linter.unusedVariables false
set_option linter.unusedSimpArgs false

section
variable {w w' : World} {b f m nf n : Nat} {fl : Nm → Option Int} {bd : Nm → Nat}
/-- which names are in scope -/
abbrev scD (bd : Nm → Nat) : Nm → Bool := fun y => decide (0 < bd y)
set_option maxHeartbeats 4000000 in
theorem patoms_any (h : Cs w b f m nf n fl bd) (k a xm : Int) (s : ByteArray) (ts : List Atm) (vt : Value) (T : IsRow w (but3 b f m) (atmC ts) ts.length vt) (g5 g6 g7 : Option Addr) (n5 n6 n7 c5 c6 c7 : Nat) (hl : ∀ t ∈ ts, t.name.length ≤ maxLen) :
    Calls Tryz.prog 128 #[ptr b, .agg #[.int .i64 k, .int .i64 a, .string s, .int .i64 xm, vt, .slice g5 n5 c5, .slice g6 n6 c6, .slice g7 n7 c7]] w (Res w b f m nf n fl bd (atmF a (scD bd) ts)) := by
  obtain ⟨ga, cap, rfl, hc, hx⟩ := T
  obtain ⟨F, hF⟩ : ∃ F, atmF a (scD bd) ts = F := ⟨_, rfl⟩
  have HR : Hid (atmF a (scD bd) (ts.drop 0) = F) := ⟨by rw [List.drop_zero]; exact hF⟩
  rw [hF]
  have HX := Hid.mk hx
  have HL := Hid.mk hl
  obtain ⟨l, hl⟩ : ∃ l, ts.length = l := ⟨_, rfl⟩
  have HN := Hid.mk hl
  rw [hl] at hc ⊢
  have H1 := Hid.mk (h.alloc (.cells #[.int .i64 k, .int .i64 a, .string s, .int .i64 xm, .slice ga l cap, .slice g5 n5 c5, .slice g6 n6 c6, .slice g7 n7 c7] 53))
  have X1 : Bx (w.alloc (.cells #[.int .i64 k, .int .i64 a, .string s, .int .i64 xm, .slice ga l cap, .slice g5 n5 c5, .slice g6 n6 c6, .slice g7 n7 c7] 53)) w.heap.size #[.int .i64 k, .int .i64 a, .string s, .int .i64 xm, .slice ga l cap, .slice g5 n5 c5, .slice g6 n6 c6, .slice g7 n7 c7] 53 := heap_alloc_new w _
  have B1 := Hid.mk (Joins.below_alloc1 w (.cells #[.int .i64 k, .int .i64 a, .string s, .int .i64 xm, .slice ga l cap, .slice g5 n5 c5, .slice g6 n6 c6, .slice g7 n7 c7] 53))
  have y4 := X1.cell 4
  have HX1 := Hid.mk X1
  clear hF hl hx h X1
  go_enter Tryz.func128, Tryz.ntmps128
  go_wp2
  generalize w.alloc (.cells #[.int .i64 k, .int .i64 a, .string s, .int .i64 xm, .slice ga l cap, .slice g5 n5 c5, .slice g6 n6 c6, .slice g7 n7 c7] 53) = w1 at *
  go_loopw [10] (fun c wr => ∃ j : Nat, c = .int .i64 j ∧ j ≤ l ∧ Hid (Below w.heap.size w wr) ∧ Hid (Cs wr b f m nf n fl bd) ∧ Hid (atmF a (scD bd) (ts.drop j) = F) ∧ Hid (Bx wr w.heap.size #[.int .i64 k, .int .i64 a, .string s, .int .i64 xm, .slice ga l cap, .slice g5 n5 c5, .slice g6 n6 c6, .slice g7 n7 c7] 53)) (fun c _ => l - (intOf c).toNat)
  case atStart => exact ⟨0, rfl, Nat.zero_le _, B1, H1, HR, HX1⟩
  case round =>
    obtain ⟨j, rfl, hj, BW, CW, HK, XW⟩ := hrel
    by_cases hlt : j < l
    · have kl : j < ts.length := by rw [HN.out]; exact hlt
      obtain ⟨g, off, rfl, hg, hx⟩ := HX.out (by rw [HN.out]; omega)
      have c0 := hx _ _ (atmC_get ts j kl).1
      have c1 := hx _ _ (atmC_get ts j kl).2
      replace c0 := (BW.out.cell (World.block_lt_of_cell? _ _ c0)).trans c0
      replace c1 := (BW.out.cell (World.block_lt_of_cell? _ _ c1)).trans c1
      rw [← Nat.add_assoc] at c1
      have hs := HL.out _ (List.getElem_mem kl)
      have hst := HK.out
      rw [List.drop_eq_getElem_cons kl, atmF] at hst
      have hlt' : (j : Int) < l := by omega
      generalize (ts[j]'kl).num = tn at c1
      generalize (ts[j]'kl).name = nm at *
      have CW1 := Hid.mk (CW.out.alloc (.cells #[.string (str nm), .int .i64 tn] 68))
      have BW1 : Hid (Below w.heap.size w (wr.alloc (.cells #[.string (str nm), .int .i64 tn] 68))) := ⟨BW.out.alloc (BW.out.size) _⟩
      have XW1 : Hid (Bx (wr.alloc (.cells #[.string (str nm), .int .i64 tn] 68)) w.heap.size #[.int .i64 k, .int .i64 a, .string s, .int .i64 xm, .slice (some ⟨g, off, none⟩) l cap, .slice g5 n5 c5, .slice g6 n6 c6, .slice g7 n7 c7] 53) := ⟨((Joins.below_alloc1 wr _).block _ XW.out.lt).trans XW.out⟩
      have d0 : (wr.alloc (.cells #[.string (str nm), .int .i64 tn] 68)).cell? ⟨wr.heap.size, 0, none⟩ = some (.string (str nm)) := Joins.cell_of_block (heap_alloc_new wr _) 0
      have d1 : (wr.alloc (.cells #[.string (str nm), .int .i64 tn] 68)).cell? ⟨w.heap.size, 1, none⟩ = some (.int .i64 a) := XW1.out.cell 1
      have C := phas_any CW1.out nm hs
      have FA := pfail_any CW1.out a 31
      by_cases q : nm = []
      · rw [if_neg (fun z => z.1 q)] at hst
        have HK' := Hid.mk hst
        have q' : (str nm).toList = [] := by rw [q, ByteArray.toList_eq]; rfl
        clear hst hx HK HR HX q C FA CW BW XW H1 B1 HX1
        go_wp2
        exact ⟨⟨j + 1, by go_num, by omega, BW1, CW1, HK', XW1⟩, by simp [intOf]; omega⟩
      · have q' : ¬ (str nm).toList = [] := by rw [ByteArray.toList_eq, str_list]; exact q
        have q2 : (!(str nm).toList.isEmpty) = true := by rw [ByteArray.toList_eq, str_list]; simp [q]
        cases z : decide (0 < bd nm)
        · rw [if_pos ⟨q, z⟩] at hst
          rw [z] at C
          have HT := Hid.mk hst
          clear hst hx HK HR HX q z CW BW XW H1 B1 HX1
          go_wp2_with (first
            | (go_at_call 44; refine C.mono ?_; rintro e w7 ⟨rfl, rfl⟩)
            | (go_at_call 45; refine FA.mono ?_; rintro e w8 ⟨rfl, G8, F8⟩; have HE := Hid.mk (And.intro G8 F8); clear G8 F8))
          go_ret
          rw [← HT.out]
          exact ⟨rfl, (Ge.of_below BW1.out).trans HE.out.1, HE.out.2⟩
        · rw [if_neg (fun y => by rw [scD, z] at y; exact absurd y.2 (by simp))] at hst
          rw [z] at C
          have HK' := Hid.mk hst
          clear hst hx HK HR HX q z CW BW XW H1 B1 HX1 FA
          go_wp2_with (first
            | (go_at_call 44; refine C.mono ?_; rintro e w7 ⟨rfl, rfl⟩))
          exact ⟨⟨j + 1, by go_num, by omega, BW1, CW1, HK', XW1⟩, by simp [intOf]; omega⟩
    · obtain rfl : j = l := by omega
      have HT : Hid (F = none) := ⟨by have := HK.out; rw [List.drop_eq_nil_of_le (by rw [HN.out]; omega), atmF] at this; exact this.symm⟩
      clear HK HR HX XW H1 B1 HX1
      go_wp2
      go_ret
      rw [HT.out]
      exact ⟨rfl, Ge.of_below BW.out, CW.out⟩
end
end Go.Proofs.YtbajpejnnfacbaaGreatDoor
