/- Package vars' reader: the functions that it hands to itself; the names of binds. -/
import Derived.Test.YtmlegdnenklkhaaVad
namespace Go.Proofs.Ytmlegdnenklkhaa
open Go.RowKit
open Go.Maps (Keyed string_keyed)
set_option linter.unusedVariables false
set_option linter.unusedSimpArgs false

abbrev exp8 (k a xm : Int) (s : ByteArray) (g4 g5 g6 g7 : Option Addr) (n4 n5 n6 n7 c4 c5 c6 c7 : Nat) : Array Value := #[.int .i64 k, .int .i64 a, .string s, .int .i64 xm, .slice g4 n4 c4, .slice g5 n5 c5, .slice g6 n6 c6, .slice g7 n7 c7]
abbrev bnd11 (s : ByteArray) (a : Int) (g2 : Option Addr) (n2 c2 : Nat) (k xa xm : Int) (xs : ByteArray) (g4 g5 g6 g7 : Option Addr) (n4 n5 n6 n7 c4 c5 c6 c7 : Nat) : Array Value := #[.string s, .int .i64 a, .slice g2 n2 c2, .int .i64 k, .int .i64 xa, .string xs, .int .i64 xm, .slice g4 n4 c4, .slice g5 n5 c5, .slice g6 n6 c6, .slice g7 n7 c7]
abbrev alt13 (ak aa : Int) (s : ByteArray) (an : Int) (g2 : Option Addr) (n2 c2 : Nat) (k xa xm : Int) (xs : ByteArray) (g4 g5 g6 g7 : Option Addr) (n4 n5 n6 n7 c4 c5 c6 c7 : Nat) : Array Value := #[.int .i64 ak, .int .i64 aa, .string s, .int .i64 an, .slice g2 n2 c2, .int .i64 k, .int .i64 xa, .string xs, .int .i64 xm, .slice g4 n4 c4, .slice g5 n5 c5, .slice g6 n6 c6, .slice g7 n7 c7]
section
variable {w w' : World} {b p q n : Nat} {bd : Nm → Nat} {fr : List Nm} {v : Value}
set_option maxHeartbeats 2000000 in
theorem c44_any (x : E) (H : RE x) (h : Rs w b p q n bd fr v) (rb bb : Nat) (s : ByteArray) (a : Int) (g2 : Option Addr) (n2 c2 : Nat) (k xa xm : Int) (xs : ByteArray) (g4 g5 g6 g7 : Option Addr) (n4 n5 n6 n7 c4 c5 c6 c7 : Nat)
    (X1 : Bx w rb #[ptr b] 74) (X2 : Bx w bb (bnd11 s a g2 n2 c2 k xa xm xs g4 g5 g6 g7 n4 n5 n6 n7 c4 c5 c6 c7) 47) (I : isE w (Qk b p q v.ownBlock w.heap.size) x (exp8 k xa xm xs g4 g5 g6 g7 n4 n5 n6 n7 c4 c5 c6 c7).toList) (ok : okE x) (hn : n + coE x ≤ 1000000000) :
    Calls Try.prog 44 #[ptr rb, ptr bb] w (Out w b p q (n + coE x) bd (fvE (scD bd) x fr) v) := by
  have C := H w b p q n bd fr v _ h I ok hn
  have y0 := X1.cell 0
  have z3 := X2.cell 3
  have z4 := X2.cell 4
  have z5 := X2.cell 5
  have z6 := X2.cell 6
  have z7 := X2.cell 7
  have z8 := X2.cell 8
  have z9 := X2.cell 9
  have z10 := X2.cell 10
  clear h I H X1 X2
  go_enter Try.func44, Try.ntmps44
  go_wp2_with (go_at_call 26; refine C.mono ?_; intro e w8 H8; obtain ⟨v8, rfl, F8, R8⟩ := H8; have HF := Hid.mk F8; have HR := Hid.mk R8; clear F8 R8)
  go_end0
  exact ⟨v8, rfl, HF.out, HR.out⟩
set_option maxHeartbeats 2000000 in
theorem c46_any (x : E) (H : RE x) (h : Rs w b p q n bd fr v) (rb bb : Nat) (ak aa : Int) (s : ByteArray) (an : Int) (g2 : Option Addr) (n2 c2 : Nat) (k xa xm : Int) (xs : ByteArray) (g4 g5 g6 g7 : Option Addr) (n4 n5 n6 n7 c4 c5 c6 c7 : Nat)
    (X1 : Bx w rb #[ptr b] 74) (X2 : Bx w bb (alt13 ak aa s an g2 n2 c2 k xa xm xs g4 g5 g6 g7 n4 n5 n6 n7 c4 c5 c6 c7) 51) (I : isE w (Qk b p q v.ownBlock w.heap.size) x (exp8 k xa xm xs g4 g5 g6 g7 n4 n5 n6 n7 c4 c5 c6 c7).toList) (ok : okE x) (hn : n + coE x ≤ 1000000000) :
    Calls Try.prog 46 #[ptr rb, ptr bb] w (Out w b p q (n + coE x) bd (fvE (scD bd) x fr) v) := by
  have C := H w b p q n bd fr v _ h I ok hn
  have y0 := X1.cell 0
  have z5 := X2.cell 5
  have z6 := X2.cell 6
  have z7 := X2.cell 7
  have z8 := X2.cell 8
  have z9 := X2.cell 9
  have z10 := X2.cell 10
  have z11 := X2.cell 11
  have z12 := X2.cell 12
  clear h I H X1 X2
  go_enter Try.func46, Try.ntmps46
  go_wp2_with (go_at_call 26; refine C.mono ?_; intro e w8 H8; obtain ⟨v8, rfl, F8, R8⟩ := H8; have HF := Hid.mk F8; have HR := Hid.mk R8; clear F8 R8)
  go_end0
  exact ⟨v8, rfl, HF.out, HR.out⟩
theorem fvBs_snoc (sc : Nm → Bool) : ∀ (l : List B) (t : B) (fr : List Nm), fvBs sc (l ++ [t]) fr = fvB sc t (fvBs sc l fr)
  | [], t, fr => by simp only [List.nil_append, fvBs]
  | x :: r, t, fr => by rw [List.cons_append, fvBs, fvBs, fvBs_snoc sc r t]
theorem fvAs_snoc (sc : Nm → Bool) : ∀ (l : List A) (t : A) (fr : List Nm), fvAs sc (l ++ [t]) fr = fvA sc t (fvAs sc l fr)
  | [], t, fr => by simp only [List.nil_append, fvAs]
  | x :: r, t, fr => by rw [List.cons_append, fvAs, fvAs, fvAs_snoc sc r t]
theorem coBs_app : ∀ (l r : List B), coBs (l ++ r) = coBs l + coBs r
  | [], r => by simp [coBs]
  | x :: l, r => by rw [List.cons_append, coBs, coBs, coBs_app l r, Nat.add_assoc]
theorem coAs_app : ∀ (l r : List A), coAs (l ++ r) = coAs l + coAs r
  | [], r => by simp [coAs]
  | x :: l, r => by rw [List.cons_append, coAs, coAs, coAs_app l r, Nat.add_assoc]
theorem coBs_take (l : List B) (k : Nat) (h : k < l.length) : coBs (l.take (k + 1)) = coBs (l.take k) + coB (l[k]'h) ∧ coBs (l.take k) + coB (l[k]'h) ≤ coBs l := by
  have e1 : coBs (l.take (k + 1)) = coBs (l.take k) + coB (l[k]'h) := by rw [← List.take_append_getElem h, coBs_app, coBs, coBs, Nat.add_zero]
  refine ⟨e1, ?_⟩
  rw [← e1]
  have := coBs_app (l.take (k + 1)) (l.drop (k + 1))
  rw [List.take_append_drop] at this
  omega
theorem coAs_take (l : List A) (k : Nat) (h : k < l.length) : coAs (l.take (k + 1)) = coAs (l.take k) + coA (l[k]'h) ∧ coAs (l.take k) + coA (l[k]'h) ≤ coAs l := by
  have e1 : coAs (l.take (k + 1)) = coAs (l.take k) + coA (l[k]'h) := by rw [← List.take_append_getElem h, coAs_app, coAs, coAs, Nat.add_zero]
  refine ⟨e1, ?_⟩
  rw [← e1]
  have := coAs_app (l.take (k + 1)) (l.drop (k + 1))
  rw [List.take_append_drop] at this
  omega
theorem Nw.rowQ {w : World} {z : Nat} {v : Value} {l : List Nm} {ok : Nat → Prop} (h : Nw w z v l) (hl : l.length ≤ 1000000000) (ho : ∀ g, z ≤ g → g < w.heap.size → ok g) : IsRow w ok (strC l) l.length v := by
  unfold Nw at h
  generalize l.length = n at h hl ⊢
  generalize strC l = xs at h ⊢
  rcases h with ⟨rfl, rfl, ga, rfl⟩ | h
  · exact ⟨ga, 0, rfl, ⟨Nat.le_refl _, hl⟩, fun z => absurd z (Nat.lt_irrefl 0)⟩
  · exact row_of_owns h (fun g hg => ho g (h.lt g hg).1 (h.lt g hg).2) hl
end
end Go.Proofs.Ytmlegdnenklkhaa
