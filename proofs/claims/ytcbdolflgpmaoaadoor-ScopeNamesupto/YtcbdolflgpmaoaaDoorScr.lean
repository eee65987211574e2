/- The document's check: any alternative; a case that lacks a part. -/
import Derived.Test.YtcbdolflgpmaoaaDoorScp
namespace Go.Proofs.YtcbdolflgpmaoaaDoor
open Go.RowKit
set_option linter.unusedVariables false
set_option linter.unusedSimpArgs false

/-- what is wrong with an alternative by itself -/
def kF (ds : List D) (k a : Int) (n : Nm) (vs : List Nm) : Flt :=
  if k = 1 then (match arityN ds n with | none => some (a, 32) | some r => if r ≠ vs.length then some (a, 33) else if vs.contains [] then some (a, 31) else if twiceN vs then some (a, 30) else none)
  else if k = 2 then none else if k = 3 then (if n = [] then some (a, 31) else none) else some (a, 2)
theorem alt_any (k a m : Int) (n : Nm) (vs : List Nm) (x : E) (H : EOK x) (ag : Bool) (w : World) (b : Nat) (vd vb : Value) (f : Flt) (ds : List D) (d : List Value) (is : List Nm) (vi : Value) (h : Ck w b vd vb f) (R : IsRow w (but b) (datC ds) ds.length vd) (I : isA w (but b) (.mk k a n m vs x) d) (IR : IsRow w (but b) (strC is) is.length vi) (hw : is.length + vs.length + 1 + nmE x ≤ 1000000000) :
    Calls Tryd.prog 68 #[ptr b, .agg d.toArray, .bool ag, vi] w fun e w' => e = done ∧ Fr b w w' ∧ Ck w' b vd vb (orF (orF (orF f (kF ds k a n vs)) (if ag = true then some (a, 30) else none)) (chE ds prN tA (altS (fun y => is.contains y) k n vs) x)) := by
  unfold kF altS
  by_cases k1 : k = 1
  · subst k1
    exact alt_con a m n vs x H ag w b vd vb f ds d is vi h R I IR hw
  · by_cases k2 : k = 2
    · subst k2
      exact alt_int a m n vs x H ag w b vd vb f ds d is vi h R I IR hw
    · by_cases k3 : k = 3
      · subst k3
        have e : (fun y => is.contains y || [n].contains y) = (fun y => is.contains y || n == y) := by
          funext y
          rw [List.contains_cons, eqb_comm y n]
          simp
        have := alt_all a m n vs x H ag w b vd vb f ds d is vi h R I IR hw
        rw [e] at this
        exact this
      · rw [if_neg k1, if_neg k2, if_neg k3, if_neg k1, if_neg k3]
        exact alt_none k (by omega) a m n vs x H ag w b vd vb f ds d is vi h R I IR hw
/-- alternatives that clash -/
def clash (k m : Int) (n : Nm) (h : Hd3) : Bool := (k == 1 && h.kind == 1 && n == h.name) || (k == 2 && h.kind == 2 && m == h.num)
theorem alt_eq (ds : List D) (ahead : List Hd3) (k a : Int) (n : Nm) (m : Int) (vs : List Nm) :
    altF ds ahead k a n m vs = orF (orF (if ahead.any (fun h => h.kind == 3) = true then some (a, 35) else none) (kF ds k a n vs)) (if ahead.any (clash k m n) = true then some (a, 30) else none) := by
  unfold altF kF
  by_cases q : ahead.any (fun h => h.kind == 3) = true
  · rw [if_pos q, if_pos q]; rfl
  · rw [if_neg q, if_neg q, orF_left]
    by_cases k1 : k = 1
    · subst k1
      have e : (fun h : Hd3 => h.kind == 1 && h.name == n) = clash 1 m n := by
        funext h
        unfold clash
        rw [eqb_comm n h.name]
        simp
      rw [if_pos rfl, if_pos rfl, e]
      cases arityN ds n with
      | none => rfl
      | some r =>
        dsimp only
        by_cases c1 : r ≠ vs.length
        · rw [if_pos c1, if_pos c1]; rfl
        · rw [if_neg c1, if_neg c1]
          by_cases c2 : vs.contains [] = true
          · rw [if_pos c2, if_pos c2]; rfl
          · rw [if_neg c2, if_neg c2]
            by_cases c3 : twiceN vs = true
            · rw [if_pos c3, if_pos c3]; rfl
            · rw [if_neg c3, if_neg c3]; rfl
    · by_cases k2 : k = 2
      · subst k2
        have e : (fun h : Hd3 => h.kind == 2 && h.num == m) = clash 2 m n := by
          funext h
          unfold clash
          rw [show (m == h.num) = (h.num == m) by rw [Bool.eq_iff_iff, beq_iff_eq, beq_iff_eq]; exact eq_comm]
          simp
        rw [if_neg k1, if_pos rfl, if_neg k1, if_pos rfl, e]
        rfl
      · have e : ahead.any (clash k m n) = false := by
          rw [List.any_eq_false]
          intro h _
          unfold clash
          simp [k1, k2]
        rw [if_neg k1, if_neg k2, if_neg k1, if_neg k2, e]
        by_cases k3 : k = 3
        · rw [if_pos k3, if_neg (show ¬ (false = true) by simp), orF_nil]
        · rw [if_neg k3]; rfl
set_option maxHeartbeats 4000000 in
theorem cases_none (k a m : Int) (n : Nm) (g4 g5 g6 g7 : Option Addr) (l4 l5 l6 l7 c4 c5 c6 c7 : Nat) (w : World) (b : Nat) (vd vb vi : Value) (h : Ck w b vd vb none) (z : l6 = 0 ∨ l7 = 0) :
    Calls Tryd.prog 54 #[ptr b, .agg #[.int .i64 k, .int .i64 a, .string (str n), .int .i64 m, .slice g4 l4 c4, .slice g5 l5 c5, .slice g6 l6 c6, .slice g7 l7 c7], vi] w fun e w' => e = done ∧ Fr b w w' ∧ Ck w' b vd vb (some (a, 2)) := by
  have CW : Hid (Ck (w.alloc (.cells #[.int .i64 k, .int .i64 a, .string (str n), .int .i64 m, .slice g4 l4 c4, .slice g5 l5 c5, .slice g6 l6 c6, .slice g7 l7 c7] 45)) b vd vb none) := ⟨h.fr_alloc _⟩
  have FW : Hid (Fr b w (w.alloc (.cells #[.int .i64 k, .int .i64 a, .string (str n), .int .i64 m, .slice g4 l4 c4, .slice g5 l5 c5, .slice g6 l6 c6, .slice g7 l7 c7] 45))) := ⟨(Fr.refl b w).alloc _⟩
  clear h
  by_cases z5 : l6 = 0
  · have e5 : ((l6 : Int) == 0) = true := by simp [z5]
    clear z z5
    go_enter Tryd.func54, Tryd.ntmps54
    go_wp2_with (go_at_call 17; refine (fail_any CW.out a _).mono ?_; rintro e w8 ⟨rfl, F8, C8⟩; have HE := Hid.mk (And.intro (FW.out.trans F8) C8); clear F8 C8)
    exact bodyPost_ret (results_none rfl _ _ _) rfl ⟨rfl, HE.out.1, HE.out.2⟩
  · have e5 : ((l6 : Int) == 0) = false := by simp; omega
    have e6 : ((l7 : Int) == 0) = true := by simp; omega
    clear z z5
    go_enter Tryd.func54, Tryd.ntmps54
    go_wp2_with (go_at_call 17; refine (fail_any CW.out a _).mono ?_; rintro e w8 ⟨rfl, F8, C8⟩; have HE := Hid.mk (And.intro (FW.out.trans F8) C8); clear F8 C8)
    exact bodyPost_ret (results_none rfl _ _ _) rfl ⟨rfl, HE.out.1, HE.out.2⟩
end Go.Proofs.YtcbdolflgpmaoaaDoor

/- The document's check: a case. -/
namespace Go.Proofs.YtcbdolflgpmaoaaDoor
open Go.RowKit
set_option linter.unusedVariables false
set_option linter.unusedSimpArgs false

def bodA : A → E | .mk _ _ _ _ _ x => x
def hdA : A → Hd3 | .mk k _ n m _ _ => ⟨k, n, m⟩
/-- those ahead, the last first -/
def ahd (l : List A) (j : Nat) : List Hd3 := ((l.take j).map hdA).reverse
theorem ahd_step (l : List A) (j : Nat) (h : j < l.length) : ahd l (j + 1) = hdA (l[j]'h) :: ahd l j := by
  unfold ahd
  rw [← List.take_append_getElem h, List.map_append, List.reverse_append]
  rfl
theorem chAs_cons {ds : List D} {sc : Nm → Bool} (ahead : List Hd3) (x : A) (r : List A) : chAs ds prN tA sc ahead (x :: r) = orF (chA ds prN tA sc ahead x) (chAs ds prN tA sc (hdA x :: ahead) r) := by
  obtain ⟨k, a, n, m, vs, e⟩ := x
  rw [chAs]
  rfl
theorem nmAs_le : ∀ (l : List A) (j : Nat) (h : j < l.length), nmA (l[j]'h) ≤ nmAs l
  | x :: r, 0, _ => by rw [nmAs]; simp
  | x :: r, j + 1, h => by
    have := nmAs_le r j (by simpa using h)
    rw [nmAs]
    simp only [List.getElem_cons_succ]
    omega
theorem isA_form {w : World} {ok : Nat → Prop} {k a : Int} {n : Nm} {m : Int} {vs : List Nm} {x : E} {c : List Value} (h : isA w ok (.mk k a n m vs x) c) : ∃ (bk ba bm : Int) (bs0 : ByteArray) (h4 h5 h6 h7 : Option Addr) (m4 m5 m6 m7 d4 d5 d6 d7 : Nat) (h3 : Option Addr) (m3 d3 : Nat),
    c = [.int .i64 k, .int .i64 a, .string (str n), .int .i64 m, .slice h3 m3 d3, .int .i64 bk, .int .i64 ba, .string bs0, .int .i64 bm, .slice h4 m4 d4, .slice h5 m5 d5, .slice h6 m6 d6, .slice h7 m7 d7] := by
  simp only [isA] at h
  obtain ⟨vv, d, rfl, ⟨_, _, rfl, _⟩, h⟩ := h
  obtain ⟨_, _, _, _, _, _, _, _, _, _, _, _, _, _, _, _, rfl⟩ := isE_eight h
  exact ⟨_, _, _, _, _, _, _, _, _, _, _, _, _, _, _, _, _, _, _, rfl⟩
theorem last_eq (k : Int) (o : Bool) (a : Int) : (if (k == 3 || o) = true then some (a, 35) else none : Flt) = orF (if o = true then some (a, 35) else none) (if k = 3 then some (a, 35) else none) := by
  by_cases z : k = 3
  · subst z
    cases o <;> rfl
  · rw [show (k == 3) = false from beq_eq_false_iff_ne.2 z, Bool.false_or, if_neg z, orF_nil]
set_option maxRecDepth 100000 in
set_option maxHeartbeats 8000000 in
theorem cases_some (k a m : Int) (n : Nm) (g4 g5 g6 g7 : Option Addr) (l4 l5 l6 l7 c4 c5 c6 c7 : Nat) (al : List A) (ks : List E) (w : World) (b : Nat) (vd vb vi : Value) (ds : List D) (is : List Nm) (xa xk : List Value) (HA : ∀ x ∈ al, EOK (bodA x)) (HK : ∀ x ∈ ks, EOK x)
    (h : Ck w b vd vb none) (R : IsRow w (but b) (datC ds) ds.length vd) (IR : IsRow w (but b) (strC is) is.length vi)
    (IA : IsRow w (but b) xa al.length (.slice g7 l7 c7)) (IAS : isAs w (but b) al xa) (IK : IsRow w (but b) xk ks.length (.slice g6 l6 c6)) (IKS : isEs w (but b) ks xk) (z6 : l6 ≠ 0) (z7 : l7 ≠ 0) (e6 : ks.length = l6) (e7 : al.length = l7) (hw : is.length + nmEs ks + nmAs al ≤ 1000000000) :
    Calls Tryd.prog 54 #[ptr b, .agg #[.int .i64 k, .int .i64 a, .string (str n), .int .i64 m, .slice g4 l4 c4, .slice g5 l5 c5, .slice g6 l6 c6, .slice g7 l7 c7], vi] w fun e w' => e = done ∧ Fr b w w' ∧ Ck w' b vd vb (orF (chK ds prN tA (fun x => is.contains x) ks) (chAs ds prN tA (fun x => is.contains x) [] al)) := by
  have lt := h.lt
  have ne : w.heap.size ≠ b := by omega
  have kl : 0 < ks.length := by omega
  obtain ⟨k1, k2, rfl, hk1, hxk⟩ := rowC (show IsRow w (but b) xk l6 (.slice g6 l6 c6) by rwa [e6] at IK) (by omega)
  obtain ⟨p1, p2, rfl, hp, hxa⟩ := rowC (show IsRow w (but b) xa l7 (.slice g7 l7 c7) by rwa [e7] at IA) (by omega)
  obtain ⟨d, hd, hgk⟩ := isEs_get ks xk IKS 0 kl
  obtain ⟨kk, ka, km, ks0, h4, h5, h6, h7, m4, m5, m6, m7, d4, d5, d6, d7, rfl⟩ := isE_eight hd
  have CW : Hid (Ck (w.alloc (.cells #[.int .i64 k, .int .i64 a, .string (str n), .int .i64 m, .slice g4 l4 c4, .slice g5 l5 c5, .slice (some ⟨k1, k2, none⟩) l6 c6, .slice (some ⟨p1, p2, none⟩) l7 c7] 45)) b vd vb none) := ⟨h.fr_alloc _⟩
  have XW : Hid (Bx (w.alloc (.cells #[.int .i64 k, .int .i64 a, .string (str n), .int .i64 m, .slice g4 l4 c4, .slice g5 l5 c5, .slice (some ⟨k1, k2, none⟩) l6 c6, .slice (some ⟨p1, p2, none⟩) l7 c7] 45)) w.heap.size #[.int .i64 k, .int .i64 a, .string (str n), .int .i64 m, .slice g4 l4 c4, .slice g5 l5 c5, .slice (some ⟨k1, k2, none⟩) l6 c6, .slice (some ⟨p1, p2, none⟩) l7 c7] 45) := ⟨heap_alloc_new w _⟩
  have FW : Hid (Fr b w (w.alloc (.cells #[.int .i64 k, .int .i64 a, .string (str n), .int .i64 m, .slice g4 l4 c4, .slice g5 l5 c5, .slice (some ⟨k1, k2, none⟩) l6 c6, .slice (some ⟨p1, p2, none⟩) l7 c7] 45))) := ⟨(Fr.refl b w).alloc _⟩
  have ke0 : (w.alloc (.cells #[.int .i64 k, .int .i64 a, .string (str n), .int .i64 m, .slice g4 l4 c4, .slice g5 l5 c5, .slice (some ⟨k1, k2, none⟩) l6 c6, .slice (some ⟨p1, p2, none⟩) l7 c7] 45)).cell? ⟨k1, k2, none⟩ = some (.int .i64 kk) := by have h0 := (keeps_fr FW.out).cell k1 _ _ hk1 (hxk _ _ (hgk 0 _ rfl)); simpa only [Nat.zero_mul, Nat.zero_add, Nat.add_zero, ← Nat.add_assoc] using h0
  have ke1 : (w.alloc (.cells #[.int .i64 k, .int .i64 a, .string (str n), .int .i64 m, .slice g4 l4 c4, .slice g5 l5 c5, .slice (some ⟨k1, k2, none⟩) l6 c6, .slice (some ⟨p1, p2, none⟩) l7 c7] 45)).cell? ⟨k1, k2 + 1, none⟩ = some (.int .i64 ka) := by have h0 := (keeps_fr FW.out).cell k1 _ _ hk1 (hxk _ _ (hgk 1 _ rfl)); simpa only [Nat.zero_mul, Nat.zero_add, Nat.add_zero, ← Nat.add_assoc] using h0
  have ke2 : (w.alloc (.cells #[.int .i64 k, .int .i64 a, .string (str n), .int .i64 m, .slice g4 l4 c4, .slice g5 l5 c5, .slice (some ⟨k1, k2, none⟩) l6 c6, .slice (some ⟨p1, p2, none⟩) l7 c7] 45)).cell? ⟨k1, k2 + 2, none⟩ = some (.string ks0) := by have h0 := (keeps_fr FW.out).cell k1 _ _ hk1 (hxk _ _ (hgk 2 _ rfl)); simpa only [Nat.zero_mul, Nat.zero_add, Nat.add_zero, ← Nat.add_assoc] using h0
  have ke3 : (w.alloc (.cells #[.int .i64 k, .int .i64 a, .string (str n), .int .i64 m, .slice g4 l4 c4, .slice g5 l5 c5, .slice (some ⟨k1, k2, none⟩) l6 c6, .slice (some ⟨p1, p2, none⟩) l7 c7] 45)).cell? ⟨k1, k2 + 3, none⟩ = some (.int .i64 km) := by have h0 := (keeps_fr FW.out).cell k1 _ _ hk1 (hxk _ _ (hgk 3 _ rfl)); simpa only [Nat.zero_mul, Nat.zero_add, Nat.add_zero, ← Nat.add_assoc] using h0
  have ke4 : (w.alloc (.cells #[.int .i64 k, .int .i64 a, .string (str n), .int .i64 m, .slice g4 l4 c4, .slice g5 l5 c5, .slice (some ⟨k1, k2, none⟩) l6 c6, .slice (some ⟨p1, p2, none⟩) l7 c7] 45)).cell? ⟨k1, k2 + 4, none⟩ = some (.slice h4 m4 d4) := by have h0 := (keeps_fr FW.out).cell k1 _ _ hk1 (hxk _ _ (hgk 4 _ rfl)); simpa only [Nat.zero_mul, Nat.zero_add, Nat.add_zero, ← Nat.add_assoc] using h0
  have ke5 : (w.alloc (.cells #[.int .i64 k, .int .i64 a, .string (str n), .int .i64 m, .slice g4 l4 c4, .slice g5 l5 c5, .slice (some ⟨k1, k2, none⟩) l6 c6, .slice (some ⟨p1, p2, none⟩) l7 c7] 45)).cell? ⟨k1, k2 + 5, none⟩ = some (.slice h5 m5 d5) := by have h0 := (keeps_fr FW.out).cell k1 _ _ hk1 (hxk _ _ (hgk 5 _ rfl)); simpa only [Nat.zero_mul, Nat.zero_add, Nat.add_zero, ← Nat.add_assoc] using h0
  have ke6 : (w.alloc (.cells #[.int .i64 k, .int .i64 a, .string (str n), .int .i64 m, .slice g4 l4 c4, .slice g5 l5 c5, .slice (some ⟨k1, k2, none⟩) l6 c6, .slice (some ⟨p1, p2, none⟩) l7 c7] 45)).cell? ⟨k1, k2 + 6, none⟩ = some (.slice h6 m6 d6) := by have h0 := (keeps_fr FW.out).cell k1 _ _ hk1 (hxk _ _ (hgk 6 _ rfl)); simpa only [Nat.zero_mul, Nat.zero_add, Nat.add_zero, ← Nat.add_assoc] using h0
  have ke7 : (w.alloc (.cells #[.int .i64 k, .int .i64 a, .string (str n), .int .i64 m, .slice g4 l4 c4, .slice g5 l5 c5, .slice (some ⟨k1, k2, none⟩) l6 c6, .slice (some ⟨p1, p2, none⟩) l7 c7] 45)).cell? ⟨k1, k2 + 7, none⟩ = some (.slice h7 m7 d7) := by have h0 := (keeps_fr FW.out).cell k1 _ _ hk1 (hxk _ _ (hgk 7 _ rfl)); simpa only [Nat.zero_mul, Nat.zero_add, Nat.add_zero, ← Nat.add_assoc] using h0
  have EO := HK (ks[0]'kl) (List.getElem_mem kl) _ b vd vb none ds _ is vi CW.out (R.keeps (keeps_fr FW.out)) (isE_keeps (keeps_fr FW.out) _ _ hd) (IR.keeps (keeps_fr FW.out)) (by have := nmEs_le ks 0 kl; omega)
  rw [orF_left, ← chK_get ks kl] at EO
  obtain ⟨F, hF⟩ : ∃ F, orF (chK ds prN tA (fun x => is.contains x) ks) (chAs ds prN tA (fun x => is.contains x) [] al) = F := ⟨_, rfl⟩
  rw [hF]
  have HF := Hid.mk hF
  generalize chK ds prN tA (fun x => is.contains x) ks = F0 at EO HF
  have HALL : Hid ((∀ x ∈ al, EOK (bodA x)) ∧ IsRow w (but b) (datC ds) ds.length vd ∧ IsRow w (but b) (strC is) is.length vi ∧ isAs w (but b) al xa ∧ (∀ j u, xa[j]? = some u → w.cell? ⟨p1, p2 + j, none⟩ = some u) ∧ p1 ≠ b ∧ al.length = l7 ∧ is.length + nmAs al ≤ 1000000000) := ⟨HA, R, IR, IAS, hxa, hp, e7, by omega⟩
  have e6' : ((l6 : Int) == 0) = false := by simp; omega
  have e7' : ((l7 : Int) == 0) = false := by simp; omega
  have l6' : (0 : Int) < l6 := by omega
  have hl7 : l7 ≤ 1000000000 := by obtain ⟨_, _, e, hc, _⟩ := IA; omega
  clear hF HA HK R IR IA IAS IK IKS e6 e7 z6 z7 h hw hxk hgk hd hxa hk1 hp kl
  go_enter Tryd.func54, Tryd.ntmps54
  go_wp2_with (go_at_call 35; refine EO.mono ?_; rintro e w2 ⟨rfl, F8, C8⟩; replace FW : Hid (Fr b w w2) := ⟨FW.out.trans F8⟩; replace CW : Hid (Ck w2 b vd vb F0) := Hid.mk C8; replace XW : Hid (Bx w2 w.heap.size #[.int .i64 k, .int .i64 a, .string (str n), .int .i64 m, .slice g4 l4 c4, .slice g5 l5 c5, .slice (some ⟨k1, k2, none⟩) l6 c6, .slice (some ⟨p1, p2, none⟩) l7 c7] 45) := ⟨XW.out.fr F8 ne⟩; have x1 : w2.cell? ⟨w.heap.size, 1, none⟩ = some (.int .i64 a) := XW.out.cell 1; have x6 : w2.cell? ⟨w.heap.size, 6, none⟩ = some (.slice (some ⟨k1, k2, none⟩) l6 c6) := XW.out.cell 6; have x7 : w2.cell? ⟨w.heap.size, 7, none⟩ = some (.slice (some ⟨p1, p2, none⟩) l7 c7) := XW.out.cell 7; clear F8 C8 EO)
  clear ke0 ke1 ke2 ke3 ke4 ke5 ke6 ke7
  have HN0 : Hid (orF F0 (chAs ds prN tA (fun x => is.contains x) (ahd al 0) (al.drop 0)) = F) := ⟨HF.out⟩
  go_loopw [6] (fun c wr => ∃ (j : Nat) (fk : Flt), c = .int .i64 j ∧ j ≤ l7 ∧ Ck wr b vd vb fk ∧ Hid (orF fk (chAs ds prN tA (fun x => is.contains x) (ahd al j) (al.drop j)) = F) ∧ Fr b w wr ∧ Bx wr w.heap.size #[.int .i64 k, .int .i64 a, .string (str n), .int .i64 m, .slice g4 l4 c4, .slice g5 l5 c5, .slice (some ⟨k1, k2, none⟩) l6 c6, .slice (some ⟨p1, p2, none⟩) l7 c7] 45) (fun c _ => l7 - (intOf c).toNat)
  case atStart => exact ⟨0, F0, rfl, Nat.zero_le _, CW.out, HN0, FW.out, XW.out⟩
  case round =>
    clear CW FW XW HN0 x1 x6 x7
    obtain ⟨j, fk, rfl, hj, CW, HK, FW, XW⟩ := hrel
    replace CW := Hid.mk CW
    replace FW := Hid.mk FW
    replace XW := Hid.mk XW
    have x1 : wr.cell? ⟨w.heap.size, 1, none⟩ = some (.int .i64 a) := XW.out.cell 1
    have x6 : wr.cell? ⟨w.heap.size, 6, none⟩ = some (.slice (some ⟨k1, k2, none⟩) l6 c6) := XW.out.cell 6
    have x7 : wr.cell? ⟨w.heap.size, 7, none⟩ = some (.slice (some ⟨p1, p2, none⟩) l7 c7) := XW.out.cell 7
    have y2 : wr.cell? ⟨b, 2, none⟩ = some (.bool fk.isSome) := CW.out.cell 2
    by_cases hlt : j < l7
    · have hlt' : (j : Int) < l7 := by omega
      cases fk with
      | some z =>
        simp only [Option.isSome_some] at y2
        have HE : Hid (Fr b w wr ∧ Ck wr b vd vb F) := ⟨FW.out, by have := HK.out; rw [orF_some] at this; rw [← this]; exact CW.out⟩
        clear CW HK
        go_wp2
        go_end0
        exact ⟨rfl, HE.out.1, HE.out.2⟩
      | none =>
        simp only [Option.isSome_none] at y2
        have kl : j < al.length := by rw [HALL.out.2.2.2.2.2.2.1]; exact hlt
        obtain ⟨d, hd, hg⟩ := isAs_get al xa HALL.out.2.2.2.1 j kl
        have hst := HK.out
        rw [List.drop_eq_getElem_cons kl, chAs_cons, ← ahd_step al j kl, orF_left] at hst
        have EB := HALL.out.1 (al[j]'kl) (List.getElem_mem kl)
        have NB := nmAs_le al j kl
        generalize hA : al[j]'kl = A0 at hd hst EB NB
        obtain ⟨ak, aa, an, am, avs, ax⟩ := A0
        obtain ⟨bk, ba, bm, bs0, h4, h5, h6, h7, m4, m5, m6, m7, d4, d5, d6, d7, h3, m3, d3, rfl⟩ := isA_form hd
        have f0 : wr.cell? ⟨p1, p2 + j * 13, none⟩ = some (.int .i64 ak) := by have h0 := (keeps_fr FW.out).cell p1 _ _ HALL.out.2.2.2.2.2.1 (HALL.out.2.2.2.2.1 _ _ (hg 0 _ rfl)); simpa only [Nat.add_zero, ← Nat.add_assoc] using h0
        have f1 : wr.cell? ⟨p1, p2 + j * 13 + 1, none⟩ = some (.int .i64 aa) := by have h0 := (keeps_fr FW.out).cell p1 _ _ HALL.out.2.2.2.2.2.1 (HALL.out.2.2.2.2.1 _ _ (hg 1 _ rfl)); simpa only [Nat.add_zero, ← Nat.add_assoc] using h0
        have f2 : wr.cell? ⟨p1, p2 + j * 13 + 2, none⟩ = some (.string (str an)) := by have h0 := (keeps_fr FW.out).cell p1 _ _ HALL.out.2.2.2.2.2.1 (HALL.out.2.2.2.2.1 _ _ (hg 2 _ rfl)); simpa only [Nat.add_zero, ← Nat.add_assoc] using h0
        have f3 : wr.cell? ⟨p1, p2 + j * 13 + 3, none⟩ = some (.int .i64 am) := by have h0 := (keeps_fr FW.out).cell p1 _ _ HALL.out.2.2.2.2.2.1 (HALL.out.2.2.2.2.1 _ _ (hg 3 _ rfl)); simpa only [Nat.add_zero, ← Nat.add_assoc] using h0
        have f4 : wr.cell? ⟨p1, p2 + j * 13 + 4, none⟩ = some (.slice h3 m3 d3) := by have h0 := (keeps_fr FW.out).cell p1 _ _ HALL.out.2.2.2.2.2.1 (HALL.out.2.2.2.2.1 _ _ (hg 4 _ rfl)); simpa only [Nat.add_zero, ← Nat.add_assoc] using h0
        have f5 : wr.cell? ⟨p1, p2 + j * 13 + 5, none⟩ = some (.int .i64 bk) := by have h0 := (keeps_fr FW.out).cell p1 _ _ HALL.out.2.2.2.2.2.1 (HALL.out.2.2.2.2.1 _ _ (hg 5 _ rfl)); simpa only [Nat.add_zero, ← Nat.add_assoc] using h0
        have f6 : wr.cell? ⟨p1, p2 + j * 13 + 6, none⟩ = some (.int .i64 ba) := by have h0 := (keeps_fr FW.out).cell p1 _ _ HALL.out.2.2.2.2.2.1 (HALL.out.2.2.2.2.1 _ _ (hg 6 _ rfl)); simpa only [Nat.add_zero, ← Nat.add_assoc] using h0
        have f7 : wr.cell? ⟨p1, p2 + j * 13 + 7, none⟩ = some (.string bs0) := by have h0 := (keeps_fr FW.out).cell p1 _ _ HALL.out.2.2.2.2.2.1 (HALL.out.2.2.2.2.1 _ _ (hg 7 _ rfl)); simpa only [Nat.add_zero, ← Nat.add_assoc] using h0
        have f8 : wr.cell? ⟨p1, p2 + j * 13 + 8, none⟩ = some (.int .i64 bm) := by have h0 := (keeps_fr FW.out).cell p1 _ _ HALL.out.2.2.2.2.2.1 (HALL.out.2.2.2.2.1 _ _ (hg 8 _ rfl)); simpa only [Nat.add_zero, ← Nat.add_assoc] using h0
        have f9 : wr.cell? ⟨p1, p2 + j * 13 + 9, none⟩ = some (.slice h4 m4 d4) := by have h0 := (keeps_fr FW.out).cell p1 _ _ HALL.out.2.2.2.2.2.1 (HALL.out.2.2.2.2.1 _ _ (hg 9 _ rfl)); simpa only [Nat.add_zero, ← Nat.add_assoc] using h0
        have f10 : wr.cell? ⟨p1, p2 + j * 13 + 10, none⟩ = some (.slice h5 m5 d5) := by have h0 := (keeps_fr FW.out).cell p1 _ _ HALL.out.2.2.2.2.2.1 (HALL.out.2.2.2.2.1 _ _ (hg 10 _ rfl)); simpa only [Nat.add_zero, ← Nat.add_assoc] using h0
        have f11 : wr.cell? ⟨p1, p2 + j * 13 + 11, none⟩ = some (.slice h6 m6 d6) := by have h0 := (keeps_fr FW.out).cell p1 _ _ HALL.out.2.2.2.2.2.1 (HALL.out.2.2.2.2.1 _ _ (hg 11 _ rfl)); simpa only [Nat.add_zero, ← Nat.add_assoc] using h0
        have f12 : wr.cell? ⟨p1, p2 + j * 13 + 12, none⟩ = some (.slice h7 m7 d7) := by have h0 := (keeps_fr FW.out).cell p1 _ _ HALL.out.2.2.2.2.2.1 (HALL.out.2.2.2.2.1 _ _ (hg 12 _ rfl)); simpa only [Nat.add_zero, ← Nat.add_assoc] using h0
        have CW1 : Hid (Ck (wr.alloc (.cells #[.int .i64 ak, .int .i64 aa, .string (str an), .int .i64 am, .slice h3 m3 d3, .int .i64 bk, .int .i64 ba, .string bs0, .int .i64 bm, .slice h4 m4 d4, .slice h5 m5 d5, .slice h6 m6 d6, .slice h7 m7 d7] 92)) b vd vb none) := ⟨CW.out.fr_alloc _⟩
        have FW1 : Hid (Fr b w (wr.alloc (.cells #[.int .i64 ak, .int .i64 aa, .string (str an), .int .i64 am, .slice h3 m3 d3, .int .i64 bk, .int .i64 ba, .string bs0, .int .i64 bm, .slice h4 m4 d4, .slice h5 m5 d5, .slice h6 m6 d6, .slice h7 m7 d7] 92))) := ⟨FW.out.alloc _⟩
        have XW1 : Hid (Bx (wr.alloc (.cells #[.int .i64 ak, .int .i64 aa, .string (str an), .int .i64 am, .slice h3 m3 d3, .int .i64 bk, .int .i64 ba, .string bs0, .int .i64 bm, .slice h4 m4 d4, .slice h5 m5 d5, .slice h6 m6 d6, .slice h7 m7 d7] 92)) w.heap.size #[.int .i64 k, .int .i64 a, .string (str n), .int .i64 m, .slice g4 l4 c4, .slice g5 l5 c5, .slice (some ⟨k1, k2, none⟩) l6 c6, .slice (some ⟨p1, p2, none⟩) l7 c7] 45) := ⟨XW.out.later (Joins.below_alloc1 wr _)⟩
        have AW1 : Hid (Bx (wr.alloc (.cells #[.int .i64 ak, .int .i64 aa, .string (str an), .int .i64 am, .slice h3 m3 d3, .int .i64 bk, .int .i64 ba, .string bs0, .int .i64 bm, .slice h4 m4 d4, .slice h5 m5 d5, .slice h6 m6 d6, .slice h7 m7 d7] 92)) wr.heap.size #[.int .i64 ak, .int .i64 aa, .string (str an), .int .i64 am, .slice h3 m3 d3, .int .i64 bk, .int .i64 ba, .string bs0, .int .i64 bm, .slice h4 m4 d4, .slice h5 m5 d5, .slice h6 m6 d6, .slice h7 m7 d7] 92) := ⟨heap_alloc_new wr _⟩
        have neA : wr.heap.size ≠ b := by have := CW.out.lt; omega
        have HD := Hid.mk hd
        have HEB := Hid.mk EB
        have HNB : Hid (avs.length + 1 + nmE ax ≤ nmAs al) := ⟨by rw [nmA] at NB; exact NB⟩
        have HST := Hid.mk hst
        clear hst hg EB NB hd HK
        go_wp2
        clear CW FW XW x1 x6 x7 y2 f0 f1 f2 f3 f4 f5 f6 f7 f8 f9 f10 f11 f12
        generalize wr.alloc (.cells #[.int .i64 ak, .int .i64 aa, .string (str an), .int .i64 am, .slice h3 m3 d3, .int .i64 bk, .int .i64 ba, .string bs0, .int .i64 bm, .slice h4 m4 d4, .slice h5 m5 d5, .slice h6 m6 d6, .slice h7 m7 d7] 92) = w3 at *
        generalize wr.heap.size = AA at *
        go_loopw [8, 9] (fun agv c wr2 => ∃ (q : Nat) (ag : Bool) (fk2 : Flt), agv = .bool ag ∧ c = .int .i64 q ∧ q ≤ j ∧ Hid (ag = (ahd al q).any (clash ak am an)) ∧ Hid (fk2 = if (ahd al q).any (fun h => h.kind == 3) = true then some (aa, 35) else none) ∧ Ck wr2 b vd vb fk2 ∧ Fr b w wr2 ∧ Bx wr2 w.heap.size #[.int .i64 k, .int .i64 a, .string (str n), .int .i64 m, .slice g4 l4 c4, .slice g5 l5 c5, .slice (some ⟨k1, k2, none⟩) l6 c6, .slice (some ⟨p1, p2, none⟩) l7 c7] 45 ∧ Bx wr2 AA #[.int .i64 ak, .int .i64 aa, .string (str an), .int .i64 am, .slice h3 m3 d3, .int .i64 bk, .int .i64 ba, .string bs0, .int .i64 bm, .slice h4 m4 d4, .slice h5 m5 d5, .slice h6 m6 d6, .slice h7 m7 d7] 92) (fun _ c _ => j - (intOf c).toNat)
        case atStart => exact ⟨0, false, none, rfl, rfl, Nat.zero_le _, ⟨rfl⟩, ⟨rfl⟩, CW1.out, FW1.out, XW1.out, AW1.out⟩
        case round =>
          clear CW1 FW1 XW1 AW1
          obtain ⟨q, ag, fk2, rfl, rfl, hq, HAG, HFK, CW, FW, XW, AW⟩ := hrel
          replace CW := Hid.mk CW
          replace FW := Hid.mk FW
          replace XW := Hid.mk XW
          replace AW := Hid.mk AW
          have x1 : wr.cell? ⟨w.heap.size, 1, none⟩ = some (.int .i64 a) := XW.out.cell 1
          have x6 : wr.cell? ⟨w.heap.size, 6, none⟩ = some (.slice (some ⟨k1, k2, none⟩) l6 c6) := XW.out.cell 6
          have x7 : wr.cell? ⟨w.heap.size, 7, none⟩ = some (.slice (some ⟨p1, p2, none⟩) l7 c7) := XW.out.cell 7
          by_cases hlq : q < j
          · have hlq' : (q : Int) < j := by omega
            have hq7 : (q : Int) < l7 := by omega
            have kq : q < al.length := by rw [HALL.out.2.2.2.2.2.2.1]; omega
            obtain ⟨d2, hdq, hgq⟩ := isAs_get al xa HALL.out.2.2.2.1 q kq
            have EAH := ahd_step al q kq
            generalize al[q]'kq = Q0 at hdq EAH
            obtain ⟨ck, ca, cn, cm, cvs, cx⟩ := Q0
            obtain ⟨tk, ta, tm, ts0, i4, i5, i6, i7, o4, o5, o6, o7, r4, r5, r6, r7, i3, o3, r3, rfl⟩ := isA_form hdq
            have u0 : wr.cell? ⟨p1, p2 + q * 13, none⟩ = some (.int .i64 ck) := by have h0 := (keeps_fr FW.out).cell p1 _ _ HALL.out.2.2.2.2.2.1 (HALL.out.2.2.2.2.1 _ _ (hgq 0 _ rfl)); simpa only [Nat.add_zero, ← Nat.add_assoc] using h0
            have u1 : wr.cell? ⟨p1, p2 + q * 13 + 1, none⟩ = some (.int .i64 ca) := by have h0 := (keeps_fr FW.out).cell p1 _ _ HALL.out.2.2.2.2.2.1 (HALL.out.2.2.2.2.1 _ _ (hgq 1 _ rfl)); simpa only [Nat.add_zero, ← Nat.add_assoc] using h0
            have u2 : wr.cell? ⟨p1, p2 + q * 13 + 2, none⟩ = some (.string (str cn)) := by have h0 := (keeps_fr FW.out).cell p1 _ _ HALL.out.2.2.2.2.2.1 (HALL.out.2.2.2.2.1 _ _ (hgq 2 _ rfl)); simpa only [Nat.add_zero, ← Nat.add_assoc] using h0
            have u3 : wr.cell? ⟨p1, p2 + q * 13 + 3, none⟩ = some (.int .i64 cm) := by have h0 := (keeps_fr FW.out).cell p1 _ _ HALL.out.2.2.2.2.2.1 (HALL.out.2.2.2.2.1 _ _ (hgq 3 _ rfl)); simpa only [Nat.add_zero, ← Nat.add_assoc] using h0
            have u4 : wr.cell? ⟨p1, p2 + q * 13 + 4, none⟩ = some (.slice i3 o3 r3) := by have h0 := (keeps_fr FW.out).cell p1 _ _ HALL.out.2.2.2.2.2.1 (HALL.out.2.2.2.2.1 _ _ (hgq 4 _ rfl)); simpa only [Nat.add_zero, ← Nat.add_assoc] using h0
            have u5 : wr.cell? ⟨p1, p2 + q * 13 + 5, none⟩ = some (.int .i64 tk) := by have h0 := (keeps_fr FW.out).cell p1 _ _ HALL.out.2.2.2.2.2.1 (HALL.out.2.2.2.2.1 _ _ (hgq 5 _ rfl)); simpa only [Nat.add_zero, ← Nat.add_assoc] using h0
            have u6 : wr.cell? ⟨p1, p2 + q * 13 + 6, none⟩ = some (.int .i64 ta) := by have h0 := (keeps_fr FW.out).cell p1 _ _ HALL.out.2.2.2.2.2.1 (HALL.out.2.2.2.2.1 _ _ (hgq 6 _ rfl)); simpa only [Nat.add_zero, ← Nat.add_assoc] using h0
            have u7 : wr.cell? ⟨p1, p2 + q * 13 + 7, none⟩ = some (.string ts0) := by have h0 := (keeps_fr FW.out).cell p1 _ _ HALL.out.2.2.2.2.2.1 (HALL.out.2.2.2.2.1 _ _ (hgq 7 _ rfl)); simpa only [Nat.add_zero, ← Nat.add_assoc] using h0
            have u8 : wr.cell? ⟨p1, p2 + q * 13 + 8, none⟩ = some (.int .i64 tm) := by have h0 := (keeps_fr FW.out).cell p1 _ _ HALL.out.2.2.2.2.2.1 (HALL.out.2.2.2.2.1 _ _ (hgq 8 _ rfl)); simpa only [Nat.add_zero, ← Nat.add_assoc] using h0
            have u9 : wr.cell? ⟨p1, p2 + q * 13 + 9, none⟩ = some (.slice i4 o4 r4) := by have h0 := (keeps_fr FW.out).cell p1 _ _ HALL.out.2.2.2.2.2.1 (HALL.out.2.2.2.2.1 _ _ (hgq 9 _ rfl)); simpa only [Nat.add_zero, ← Nat.add_assoc] using h0
            have u10 : wr.cell? ⟨p1, p2 + q * 13 + 10, none⟩ = some (.slice i5 o5 r5) := by have h0 := (keeps_fr FW.out).cell p1 _ _ HALL.out.2.2.2.2.2.1 (HALL.out.2.2.2.2.1 _ _ (hgq 10 _ rfl)); simpa only [Nat.add_zero, ← Nat.add_assoc] using h0
            have u11 : wr.cell? ⟨p1, p2 + q * 13 + 11, none⟩ = some (.slice i6 o6 r6) := by have h0 := (keeps_fr FW.out).cell p1 _ _ HALL.out.2.2.2.2.2.1 (HALL.out.2.2.2.2.1 _ _ (hgq 11 _ rfl)); simpa only [Nat.add_zero, ← Nat.add_assoc] using h0
            have u12 : wr.cell? ⟨p1, p2 + q * 13 + 12, none⟩ = some (.slice i7 o7 r7) := by have h0 := (keeps_fr FW.out).cell p1 _ _ HALL.out.2.2.2.2.2.1 (HALL.out.2.2.2.2.1 _ _ (hgq 12 _ rfl)); simpa only [Nat.add_zero, ← Nat.add_assoc] using h0
            have HAG2 : Hid ((ahd al (q + 1)).any (clash ak am an) = (clash ak am an ⟨ck, cn, cm⟩ || ag)) := ⟨by rw [EAH, List.any_cons, ← HAG.out]; rfl⟩
            have HFK2 : Hid ((if (ahd al (q + 1)).any (fun h => h.kind == 3) = true then some (aa, 35) else none) = orF fk2 (if ck = 3 then some (aa, 35) else none)) := ⟨by rw [EAH, List.any_cons, HFK.out]; simp only [hdA]; exact last_eq _ _ _⟩
            have lwB := CW.out.lt
            have neB : wr.heap.size ≠ b := by omega
            replace CW : Hid (Ck (wr.alloc (.cells #[.int .i64 ck, .int .i64 ca, .string (str cn), .int .i64 cm, .slice i3 o3 r3, .int .i64 tk, .int .i64 ta, .string ts0, .int .i64 tm, .slice i4 o4 r4, .slice i5 o5 r5, .slice i6 o6 r6, .slice i7 o7 r7] 92)) b vd vb fk2) := Hid.mk (CW.out.fr_alloc (.cells #[.int .i64 ck, .int .i64 ca, .string (str cn), .int .i64 cm, .slice i3 o3 r3, .int .i64 tk, .int .i64 ta, .string ts0, .int .i64 tm, .slice i4 o4 r4, .slice i5 o5 r5, .slice i6 o6 r6, .slice i7 o7 r7] 92))
            replace FW : Hid (Fr b w (wr.alloc (.cells #[.int .i64 ck, .int .i64 ca, .string (str cn), .int .i64 cm, .slice i3 o3 r3, .int .i64 tk, .int .i64 ta, .string ts0, .int .i64 tm, .slice i4 o4 r4, .slice i5 o5 r5, .slice i6 o6 r6, .slice i7 o7 r7] 92))) := ⟨FW.out.alloc _⟩
            replace XW : Hid (Bx (wr.alloc (.cells #[.int .i64 ck, .int .i64 ca, .string (str cn), .int .i64 cm, .slice i3 o3 r3, .int .i64 tk, .int .i64 ta, .string ts0, .int .i64 tm, .slice i4 o4 r4, .slice i5 o5 r5, .slice i6 o6 r6, .slice i7 o7 r7] 92)) w.heap.size #[.int .i64 k, .int .i64 a, .string (str n), .int .i64 m, .slice g4 l4 c4, .slice g5 l5 c5, .slice (some ⟨k1, k2, none⟩) l6 c6, .slice (some ⟨p1, p2, none⟩) l7 c7] 45) := ⟨XW.out.later (Joins.below_alloc1 wr _)⟩
            replace AW : Hid (Bx (wr.alloc (.cells #[.int .i64 ck, .int .i64 ca, .string (str cn), .int .i64 cm, .slice i3 o3 r3, .int .i64 tk, .int .i64 ta, .string ts0, .int .i64 tm, .slice i4 o4 r4, .slice i5 o5 r5, .slice i6 o6 r6, .slice i7 o7 r7] 92)) AA #[.int .i64 ak, .int .i64 aa, .string (str an), .int .i64 am, .slice h3 m3 d3, .int .i64 bk, .int .i64 ba, .string bs0, .int .i64 bm, .slice h4 m4 d4, .slice h5 m5 d5, .slice h6 m6 d6, .slice h7 m7 d7] 92) := ⟨AW.out.later (Joins.below_alloc1 wr _)⟩
            have BW : Hid (Bx (wr.alloc (.cells #[.int .i64 ck, .int .i64 ca, .string (str cn), .int .i64 cm, .slice i3 o3 r3, .int .i64 tk, .int .i64 ta, .string ts0, .int .i64 tm, .slice i4 o4 r4, .slice i5 o5 r5, .slice i6 o6 r6, .slice i7 o7 r7] 92)) wr.heap.size #[.int .i64 ck, .int .i64 ca, .string (str cn), .int .i64 cm, .slice i3 o3 r3, .int .i64 tk, .int .i64 ta, .string ts0, .int .i64 tm, .slice i4 o4 r4, .slice i5 o5 r5, .slice i6 o6 r6, .slice i7 o7 r7] 92) := ⟨heap_alloc_new wr _⟩
            have s0 : (wr.alloc (.cells #[.int .i64 ck, .int .i64 ca, .string (str cn), .int .i64 cm, .slice i3 o3 r3, .int .i64 tk, .int .i64 ta, .string ts0, .int .i64 tm, .slice i4 o4 r4, .slice i5 o5 r5, .slice i6 o6 r6, .slice i7 o7 r7] 92)).cell? ⟨AA, 0, none⟩ = some (.int .i64 ak) := AW.out.cell 0
            have s1 : (wr.alloc (.cells #[.int .i64 ck, .int .i64 ca, .string (str cn), .int .i64 cm, .slice i3 o3 r3, .int .i64 tk, .int .i64 ta, .string ts0, .int .i64 tm, .slice i4 o4 r4, .slice i5 o5 r5, .slice i6 o6 r6, .slice i7 o7 r7] 92)).cell? ⟨AA, 1, none⟩ = some (.int .i64 aa) := AW.out.cell 1
            have s2 : (wr.alloc (.cells #[.int .i64 ck, .int .i64 ca, .string (str cn), .int .i64 cm, .slice i3 o3 r3, .int .i64 tk, .int .i64 ta, .string ts0, .int .i64 tm, .slice i4 o4 r4, .slice i5 o5 r5, .slice i6 o6 r6, .slice i7 o7 r7] 92)).cell? ⟨AA, 2, none⟩ = some (.string (str an)) := AW.out.cell 2
            have s3 : (wr.alloc (.cells #[.int .i64 ck, .int .i64 ca, .string (str cn), .int .i64 cm, .slice i3 o3 r3, .int .i64 tk, .int .i64 ta, .string ts0, .int .i64 tm, .slice i4 o4 r4, .slice i5 o5 r5, .slice i6 o6 r6, .slice i7 o7 r7] 92)).cell? ⟨AA, 3, none⟩ = some (.int .i64 am) := AW.out.cell 3
            clear hgq hdq EAH HAG HFK
            have SE : ((str an).toList == (str cn).toList) = (an == cn) := str_eqb an cn
            cases ag
            · by_cases c1 : ak = 1
              · have a1 : (ak == 1) = true := by simp [c1]
                have a2 : (ak == 2) = false := by simp [c1]
                by_cases c2 : ck = 1
                · have b1 : (ck == 1) = true := by simp [c2]
                  have c3 : ¬ ck = 3 := by omega
                  have c3b : (ck == 3) = false := by simp [c3]
                  by_cases y4 : an = cn
                  · have e1 : ((str an).toList == (str cn).toList) = true := by rw [SE]; simp [y4]
                    have HAGx : Hid (true = (ahd al (q + 1)).any (clash ak am an)) := ⟨by rw [HAG2.out]; unfold clash; simp [c1, c2, y4]⟩
                    have HFKx := HFK2.out
                    rw [if_neg c3, orF_nil] at HFKx
                    replace HFKx := Hid.mk HFKx.symm
                    clear HAG2 HFK2
                    (try clear c1)
                    (try clear c2)
                    (try clear y5)
                    (try clear y4)
                    (try clear c3)
                    (try clear SE)
                    go_wp2_with (first
                      | (go_at_call 17; refine (fail_any CW.out aa _).mono ?_; rintro e w8 ⟨rfl, F8, C8⟩; replace FW : Hid (Fr b w w8) := ⟨FW.out.trans F8⟩; replace CW := Hid.mk C8; replace XW : Hid (Bx w8 w.heap.size #[.int .i64 k, .int .i64 a, .string (str n), .int .i64 m, .slice g4 l4 c4, .slice g5 l5 c5, .slice (some ⟨k1, k2, none⟩) l6 c6, .slice (some ⟨p1, p2, none⟩) l7 c7] 45) := ⟨XW.out.fr F8 ne⟩; replace AW : Hid (Bx w8 AA #[.int .i64 ak, .int .i64 aa, .string (str an), .int .i64 am, .slice h3 m3 d3, .int .i64 bk, .int .i64 ba, .string bs0, .int .i64 bm, .slice h4 m4 d4, .slice h5 m5 d5, .slice h6 m6 d6, .slice h7 m7 d7] 92) := ⟨AW.out.fr F8 neA⟩; replace BW : Hid (Bx w8 wr.heap.size #[.int .i64 ck, .int .i64 ca, .string (str cn), .int .i64 cm, .slice i3 o3 r3, .int .i64 tk, .int .i64 ta, .string ts0, .int .i64 tm, .slice i4 o4 r4, .slice i5 o5 r5, .slice i6 o6 r6, .slice i7 o7 r7] 92) := ⟨BW.out.fr F8 neB⟩; have x1 : w8.cell? ⟨w.heap.size, 1, none⟩ = some (.int .i64 a) := XW.out.cell 1; have x6 : w8.cell? ⟨w.heap.size, 6, none⟩ = some (.slice (some ⟨k1, k2, none⟩) l6 c6) := XW.out.cell 6; have x7 : w8.cell? ⟨w.heap.size, 7, none⟩ = some (.slice (some ⟨p1, p2, none⟩) l7 c7) := XW.out.cell 7; have s0 : w8.cell? ⟨AA, 0, none⟩ = some (.int .i64 ak) := AW.out.cell 0; have s1 : w8.cell? ⟨AA, 1, none⟩ = some (.int .i64 aa) := AW.out.cell 1; have s2 : w8.cell? ⟨AA, 2, none⟩ = some (.string (str an)) := AW.out.cell 2; have s3 : w8.cell? ⟨AA, 3, none⟩ = some (.int .i64 am) := AW.out.cell 3; have t0 : w8.cell? ⟨wr.heap.size, 0, none⟩ = some (.int .i64 ck) := BW.out.cell 0; have t1 : w8.cell? ⟨wr.heap.size, 1, none⟩ = some (.int .i64 ca) := BW.out.cell 1; have t2 : w8.cell? ⟨wr.heap.size, 2, none⟩ = some (.string (str cn)) := BW.out.cell 2; have t3 : w8.cell? ⟨wr.heap.size, 3, none⟩ = some (.int .i64 cm) := BW.out.cell 3; clear F8 C8))
                    exact ⟨⟨q + 1, true, _, rfl, by go_num, by omega, HAGx, HFKx, CW.out, FW.out, XW.out, AW.out⟩, by simp [intOf]; omega⟩
                  · have e1 : ((str an).toList == (str cn).toList) = false := by rw [SE]; simp [y4]
                    have HAGx : Hid (false = (ahd al (q + 1)).any (clash ak am an)) := ⟨by rw [HAG2.out]; unfold clash; simp [c1, c2, y4]⟩
                    have HFKx := HFK2.out
                    rw [if_neg c3, orF_nil] at HFKx
                    replace HFKx := Hid.mk HFKx.symm
                    clear HAG2 HFK2
                    (try clear c1)
                    (try clear c2)
                    (try clear y5)
                    (try clear y4)
                    (try clear c3)
                    (try clear SE)
                    go_wp2_with (first
                      | (go_at_call 17; refine (fail_any CW.out aa _).mono ?_; rintro e w8 ⟨rfl, F8, C8⟩; replace FW : Hid (Fr b w w8) := ⟨FW.out.trans F8⟩; replace CW := Hid.mk C8; replace XW : Hid (Bx w8 w.heap.size #[.int .i64 k, .int .i64 a, .string (str n), .int .i64 m, .slice g4 l4 c4, .slice g5 l5 c5, .slice (some ⟨k1, k2, none⟩) l6 c6, .slice (some ⟨p1, p2, none⟩) l7 c7] 45) := ⟨XW.out.fr F8 ne⟩; replace AW : Hid (Bx w8 AA #[.int .i64 ak, .int .i64 aa, .string (str an), .int .i64 am, .slice h3 m3 d3, .int .i64 bk, .int .i64 ba, .string bs0, .int .i64 bm, .slice h4 m4 d4, .slice h5 m5 d5, .slice h6 m6 d6, .slice h7 m7 d7] 92) := ⟨AW.out.fr F8 neA⟩; replace BW : Hid (Bx w8 wr.heap.size #[.int .i64 ck, .int .i64 ca, .string (str cn), .int .i64 cm, .slice i3 o3 r3, .int .i64 tk, .int .i64 ta, .string ts0, .int .i64 tm, .slice i4 o4 r4, .slice i5 o5 r5, .slice i6 o6 r6, .slice i7 o7 r7] 92) := ⟨BW.out.fr F8 neB⟩; have x1 : w8.cell? ⟨w.heap.size, 1, none⟩ = some (.int .i64 a) := XW.out.cell 1; have x6 : w8.cell? ⟨w.heap.size, 6, none⟩ = some (.slice (some ⟨k1, k2, none⟩) l6 c6) := XW.out.cell 6; have x7 : w8.cell? ⟨w.heap.size, 7, none⟩ = some (.slice (some ⟨p1, p2, none⟩) l7 c7) := XW.out.cell 7; have s0 : w8.cell? ⟨AA, 0, none⟩ = some (.int .i64 ak) := AW.out.cell 0; have s1 : w8.cell? ⟨AA, 1, none⟩ = some (.int .i64 aa) := AW.out.cell 1; have s2 : w8.cell? ⟨AA, 2, none⟩ = some (.string (str an)) := AW.out.cell 2; have s3 : w8.cell? ⟨AA, 3, none⟩ = some (.int .i64 am) := AW.out.cell 3; have t0 : w8.cell? ⟨wr.heap.size, 0, none⟩ = some (.int .i64 ck) := BW.out.cell 0; have t1 : w8.cell? ⟨wr.heap.size, 1, none⟩ = some (.int .i64 ca) := BW.out.cell 1; have t2 : w8.cell? ⟨wr.heap.size, 2, none⟩ = some (.string (str cn)) := BW.out.cell 2; have t3 : w8.cell? ⟨wr.heap.size, 3, none⟩ = some (.int .i64 cm) := BW.out.cell 3; clear F8 C8))
                    exact ⟨⟨q + 1, false, _, rfl, by go_num, by omega, HAGx, HFKx, CW.out, FW.out, XW.out, AW.out⟩, by simp [intOf]; omega⟩
                · have b1 : (ck == 1) = false := by simp [c2]
                  by_cases c3 : ck = 3
                  · have c3b : (ck == 3) = true := by simp [c3]
                    skip
                    have d2 : (ck == 2) = false := by simp [c3]
                    have HAGx : Hid (false = (ahd al (q + 1)).any (clash ak am an)) := ⟨by rw [HAG2.out]; unfold clash; simp [c1, c2, c3]⟩
                    have HFKx := HFK2.out
                    rw [if_pos c3] at HFKx
                    replace HFKx := Hid.mk HFKx.symm
                    clear HAG2 HFK2
                    (try clear c1)
                    (try clear c2)
                    (try clear y5)
                    (try clear y4)
                    (try clear c3)
                    (try clear SE)
                    go_wp2_with (first
                      | (go_at_call 17; refine (fail_any CW.out aa _).mono ?_; rintro e w8 ⟨rfl, F8, C8⟩; replace FW : Hid (Fr b w w8) := ⟨FW.out.trans F8⟩; replace CW := Hid.mk C8; replace XW : Hid (Bx w8 w.heap.size #[.int .i64 k, .int .i64 a, .string (str n), .int .i64 m, .slice g4 l4 c4, .slice g5 l5 c5, .slice (some ⟨k1, k2, none⟩) l6 c6, .slice (some ⟨p1, p2, none⟩) l7 c7] 45) := ⟨XW.out.fr F8 ne⟩; replace AW : Hid (Bx w8 AA #[.int .i64 ak, .int .i64 aa, .string (str an), .int .i64 am, .slice h3 m3 d3, .int .i64 bk, .int .i64 ba, .string bs0, .int .i64 bm, .slice h4 m4 d4, .slice h5 m5 d5, .slice h6 m6 d6, .slice h7 m7 d7] 92) := ⟨AW.out.fr F8 neA⟩; replace BW : Hid (Bx w8 wr.heap.size #[.int .i64 ck, .int .i64 ca, .string (str cn), .int .i64 cm, .slice i3 o3 r3, .int .i64 tk, .int .i64 ta, .string ts0, .int .i64 tm, .slice i4 o4 r4, .slice i5 o5 r5, .slice i6 o6 r6, .slice i7 o7 r7] 92) := ⟨BW.out.fr F8 neB⟩; have x1 : w8.cell? ⟨w.heap.size, 1, none⟩ = some (.int .i64 a) := XW.out.cell 1; have x6 : w8.cell? ⟨w.heap.size, 6, none⟩ = some (.slice (some ⟨k1, k2, none⟩) l6 c6) := XW.out.cell 6; have x7 : w8.cell? ⟨w.heap.size, 7, none⟩ = some (.slice (some ⟨p1, p2, none⟩) l7 c7) := XW.out.cell 7; have s0 : w8.cell? ⟨AA, 0, none⟩ = some (.int .i64 ak) := AW.out.cell 0; have s1 : w8.cell? ⟨AA, 1, none⟩ = some (.int .i64 aa) := AW.out.cell 1; have s2 : w8.cell? ⟨AA, 2, none⟩ = some (.string (str an)) := AW.out.cell 2; have s3 : w8.cell? ⟨AA, 3, none⟩ = some (.int .i64 am) := AW.out.cell 3; have t0 : w8.cell? ⟨wr.heap.size, 0, none⟩ = some (.int .i64 ck) := BW.out.cell 0; have t1 : w8.cell? ⟨wr.heap.size, 1, none⟩ = some (.int .i64 ca) := BW.out.cell 1; have t2 : w8.cell? ⟨wr.heap.size, 2, none⟩ = some (.string (str cn)) := BW.out.cell 2; have t3 : w8.cell? ⟨wr.heap.size, 3, none⟩ = some (.int .i64 cm) := BW.out.cell 3; clear F8 C8))
                    exact ⟨⟨q + 1, false, _, rfl, by go_num, by omega, HAGx, HFKx, CW.out, FW.out, XW.out, AW.out⟩, by simp [intOf]; omega⟩
                  · have c3b : (ck == 3) = false := by simp [c3]
                    have HAGx : Hid (false = (ahd al (q + 1)).any (clash ak am an)) := ⟨by rw [HAG2.out]; unfold clash; simp [c1, c2]⟩
                    have HFKx := HFK2.out
                    rw [if_neg c3, orF_nil] at HFKx
                    replace HFKx := Hid.mk HFKx.symm
                    clear HAG2 HFK2
                    (try clear c1)
                    (try clear c2)
                    (try clear y5)
                    (try clear y4)
                    (try clear c3)
                    (try clear SE)
                    go_wp2_with (first
                      | (go_at_call 17; refine (fail_any CW.out aa _).mono ?_; rintro e w8 ⟨rfl, F8, C8⟩; replace FW : Hid (Fr b w w8) := ⟨FW.out.trans F8⟩; replace CW := Hid.mk C8; replace XW : Hid (Bx w8 w.heap.size #[.int .i64 k, .int .i64 a, .string (str n), .int .i64 m, .slice g4 l4 c4, .slice g5 l5 c5, .slice (some ⟨k1, k2, none⟩) l6 c6, .slice (some ⟨p1, p2, none⟩) l7 c7] 45) := ⟨XW.out.fr F8 ne⟩; replace AW : Hid (Bx w8 AA #[.int .i64 ak, .int .i64 aa, .string (str an), .int .i64 am, .slice h3 m3 d3, .int .i64 bk, .int .i64 ba, .string bs0, .int .i64 bm, .slice h4 m4 d4, .slice h5 m5 d5, .slice h6 m6 d6, .slice h7 m7 d7] 92) := ⟨AW.out.fr F8 neA⟩; replace BW : Hid (Bx w8 wr.heap.size #[.int .i64 ck, .int .i64 ca, .string (str cn), .int .i64 cm, .slice i3 o3 r3, .int .i64 tk, .int .i64 ta, .string ts0, .int .i64 tm, .slice i4 o4 r4, .slice i5 o5 r5, .slice i6 o6 r6, .slice i7 o7 r7] 92) := ⟨BW.out.fr F8 neB⟩; have x1 : w8.cell? ⟨w.heap.size, 1, none⟩ = some (.int .i64 a) := XW.out.cell 1; have x6 : w8.cell? ⟨w.heap.size, 6, none⟩ = some (.slice (some ⟨k1, k2, none⟩) l6 c6) := XW.out.cell 6; have x7 : w8.cell? ⟨w.heap.size, 7, none⟩ = some (.slice (some ⟨p1, p2, none⟩) l7 c7) := XW.out.cell 7; have s0 : w8.cell? ⟨AA, 0, none⟩ = some (.int .i64 ak) := AW.out.cell 0; have s1 : w8.cell? ⟨AA, 1, none⟩ = some (.int .i64 aa) := AW.out.cell 1; have s2 : w8.cell? ⟨AA, 2, none⟩ = some (.string (str an)) := AW.out.cell 2; have s3 : w8.cell? ⟨AA, 3, none⟩ = some (.int .i64 am) := AW.out.cell 3; have t0 : w8.cell? ⟨wr.heap.size, 0, none⟩ = some (.int .i64 ck) := BW.out.cell 0; have t1 : w8.cell? ⟨wr.heap.size, 1, none⟩ = some (.int .i64 ca) := BW.out.cell 1; have t2 : w8.cell? ⟨wr.heap.size, 2, none⟩ = some (.string (str cn)) := BW.out.cell 2; have t3 : w8.cell? ⟨wr.heap.size, 3, none⟩ = some (.int .i64 cm) := BW.out.cell 3; clear F8 C8))
                    exact ⟨⟨q + 1, false, _, rfl, by go_num, by omega, HAGx, HFKx, CW.out, FW.out, XW.out, AW.out⟩, by simp [intOf]; omega⟩
              · have a1 : (ak == 1) = false := by simp [c1]
                by_cases y5 : ak = 2
                · have a2 : (ak == 2) = true := by simp [y5]
                  by_cases c2 : ck = 2
                  · have b2 : (ck == 2) = true := by simp [c2]
                    have c3 : ¬ ck = 3 := by omega
                    have c3b : (ck == 3) = false := by simp [c3]
                    by_cases y4 : am = cm
                    · have e1 : (am == cm) = true := by simp [y4]
                      have HAGx : Hid (true = (ahd al (q + 1)).any (clash ak am an)) := ⟨by rw [HAG2.out]; unfold clash; simp [y5, c2, y4]⟩
                      have HFKx := HFK2.out
                      rw [if_neg c3, orF_nil] at HFKx
                      replace HFKx := Hid.mk HFKx.symm
                      clear HAG2 HFK2
                      (try clear c1)
                      (try clear c2)
                      (try clear y5)
                      (try clear y4)
                      (try clear c3)
                      (try clear SE)
                      go_wp2_with (first
                        | (go_at_call 17; refine (fail_any CW.out aa _).mono ?_; rintro e w8 ⟨rfl, F8, C8⟩; replace FW : Hid (Fr b w w8) := ⟨FW.out.trans F8⟩; replace CW := Hid.mk C8; replace XW : Hid (Bx w8 w.heap.size #[.int .i64 k, .int .i64 a, .string (str n), .int .i64 m, .slice g4 l4 c4, .slice g5 l5 c5, .slice (some ⟨k1, k2, none⟩) l6 c6, .slice (some ⟨p1, p2, none⟩) l7 c7] 45) := ⟨XW.out.fr F8 ne⟩; replace AW : Hid (Bx w8 AA #[.int .i64 ak, .int .i64 aa, .string (str an), .int .i64 am, .slice h3 m3 d3, .int .i64 bk, .int .i64 ba, .string bs0, .int .i64 bm, .slice h4 m4 d4, .slice h5 m5 d5, .slice h6 m6 d6, .slice h7 m7 d7] 92) := ⟨AW.out.fr F8 neA⟩; replace BW : Hid (Bx w8 wr.heap.size #[.int .i64 ck, .int .i64 ca, .string (str cn), .int .i64 cm, .slice i3 o3 r3, .int .i64 tk, .int .i64 ta, .string ts0, .int .i64 tm, .slice i4 o4 r4, .slice i5 o5 r5, .slice i6 o6 r6, .slice i7 o7 r7] 92) := ⟨BW.out.fr F8 neB⟩; have x1 : w8.cell? ⟨w.heap.size, 1, none⟩ = some (.int .i64 a) := XW.out.cell 1; have x6 : w8.cell? ⟨w.heap.size, 6, none⟩ = some (.slice (some ⟨k1, k2, none⟩) l6 c6) := XW.out.cell 6; have x7 : w8.cell? ⟨w.heap.size, 7, none⟩ = some (.slice (some ⟨p1, p2, none⟩) l7 c7) := XW.out.cell 7; have s0 : w8.cell? ⟨AA, 0, none⟩ = some (.int .i64 ak) := AW.out.cell 0; have s1 : w8.cell? ⟨AA, 1, none⟩ = some (.int .i64 aa) := AW.out.cell 1; have s2 : w8.cell? ⟨AA, 2, none⟩ = some (.string (str an)) := AW.out.cell 2; have s3 : w8.cell? ⟨AA, 3, none⟩ = some (.int .i64 am) := AW.out.cell 3; have t0 : w8.cell? ⟨wr.heap.size, 0, none⟩ = some (.int .i64 ck) := BW.out.cell 0; have t1 : w8.cell? ⟨wr.heap.size, 1, none⟩ = some (.int .i64 ca) := BW.out.cell 1; have t2 : w8.cell? ⟨wr.heap.size, 2, none⟩ = some (.string (str cn)) := BW.out.cell 2; have t3 : w8.cell? ⟨wr.heap.size, 3, none⟩ = some (.int .i64 cm) := BW.out.cell 3; clear F8 C8))
                      exact ⟨⟨q + 1, true, _, rfl, by go_num, by omega, HAGx, HFKx, CW.out, FW.out, XW.out, AW.out⟩, by simp [intOf]; omega⟩
                    · have e1 : (am == cm) = false := by simp [y4]
                      have HAGx : Hid (false = (ahd al (q + 1)).any (clash ak am an)) := ⟨by rw [HAG2.out]; unfold clash; simp [y5, c2, y4]⟩
                      have HFKx := HFK2.out
                      rw [if_neg c3, orF_nil] at HFKx
                      replace HFKx := Hid.mk HFKx.symm
                      clear HAG2 HFK2
                      (try clear c1)
                      (try clear c2)
                      (try clear y5)
                      (try clear y4)
                      (try clear c3)
                      (try clear SE)
                      go_wp2_with (first
                        | (go_at_call 17; refine (fail_any CW.out aa _).mono ?_; rintro e w8 ⟨rfl, F8, C8⟩; replace FW : Hid (Fr b w w8) := ⟨FW.out.trans F8⟩; replace CW := Hid.mk C8; replace XW : Hid (Bx w8 w.heap.size #[.int .i64 k, .int .i64 a, .string (str n), .int .i64 m, .slice g4 l4 c4, .slice g5 l5 c5, .slice (some ⟨k1, k2, none⟩) l6 c6, .slice (some ⟨p1, p2, none⟩) l7 c7] 45) := ⟨XW.out.fr F8 ne⟩; replace AW : Hid (Bx w8 AA #[.int .i64 ak, .int .i64 aa, .string (str an), .int .i64 am, .slice h3 m3 d3, .int .i64 bk, .int .i64 ba, .string bs0, .int .i64 bm, .slice h4 m4 d4, .slice h5 m5 d5, .slice h6 m6 d6, .slice h7 m7 d7] 92) := ⟨AW.out.fr F8 neA⟩; replace BW : Hid (Bx w8 wr.heap.size #[.int .i64 ck, .int .i64 ca, .string (str cn), .int .i64 cm, .slice i3 o3 r3, .int .i64 tk, .int .i64 ta, .string ts0, .int .i64 tm, .slice i4 o4 r4, .slice i5 o5 r5, .slice i6 o6 r6, .slice i7 o7 r7] 92) := ⟨BW.out.fr F8 neB⟩; have x1 : w8.cell? ⟨w.heap.size, 1, none⟩ = some (.int .i64 a) := XW.out.cell 1; have x6 : w8.cell? ⟨w.heap.size, 6, none⟩ = some (.slice (some ⟨k1, k2, none⟩) l6 c6) := XW.out.cell 6; have x7 : w8.cell? ⟨w.heap.size, 7, none⟩ = some (.slice (some ⟨p1, p2, none⟩) l7 c7) := XW.out.cell 7; have s0 : w8.cell? ⟨AA, 0, none⟩ = some (.int .i64 ak) := AW.out.cell 0; have s1 : w8.cell? ⟨AA, 1, none⟩ = some (.int .i64 aa) := AW.out.cell 1; have s2 : w8.cell? ⟨AA, 2, none⟩ = some (.string (str an)) := AW.out.cell 2; have s3 : w8.cell? ⟨AA, 3, none⟩ = some (.int .i64 am) := AW.out.cell 3; have t0 : w8.cell? ⟨wr.heap.size, 0, none⟩ = some (.int .i64 ck) := BW.out.cell 0; have t1 : w8.cell? ⟨wr.heap.size, 1, none⟩ = some (.int .i64 ca) := BW.out.cell 1; have t2 : w8.cell? ⟨wr.heap.size, 2, none⟩ = some (.string (str cn)) := BW.out.cell 2; have t3 : w8.cell? ⟨wr.heap.size, 3, none⟩ = some (.int .i64 cm) := BW.out.cell 3; clear F8 C8))
                      exact ⟨⟨q + 1, false, _, rfl, by go_num, by omega, HAGx, HFKx, CW.out, FW.out, XW.out, AW.out⟩, by simp [intOf]; omega⟩
                  · have b2 : (ck == 2) = false := by simp [c2]
                    by_cases c3 : ck = 3
                    · have c3b : (ck == 3) = true := by simp [c3]
                      have d1 : (ck == 1) = false := by simp [c3]
                      skip
                      have HAGx : Hid (false = (ahd al (q + 1)).any (clash ak am an)) := ⟨by rw [HAG2.out]; unfold clash; simp [y5, c2, c3]⟩
                      have HFKx := HFK2.out
                      rw [if_pos c3] at HFKx
                      replace HFKx := Hid.mk HFKx.symm
                      clear HAG2 HFK2
                      (try clear c1)
                      (try clear c2)
                      (try clear y5)
                      (try clear y4)
                      (try clear c3)
                      (try clear SE)
                      go_wp2_with (first
                        | (go_at_call 17; refine (fail_any CW.out aa _).mono ?_; rintro e w8 ⟨rfl, F8, C8⟩; replace FW : Hid (Fr b w w8) := ⟨FW.out.trans F8⟩; replace CW := Hid.mk C8; replace XW : Hid (Bx w8 w.heap.size #[.int .i64 k, .int .i64 a, .string (str n), .int .i64 m, .slice g4 l4 c4, .slice g5 l5 c5, .slice (some ⟨k1, k2, none⟩) l6 c6, .slice (some ⟨p1, p2, none⟩) l7 c7] 45) := ⟨XW.out.fr F8 ne⟩; replace AW : Hid (Bx w8 AA #[.int .i64 ak, .int .i64 aa, .string (str an), .int .i64 am, .slice h3 m3 d3, .int .i64 bk, .int .i64 ba, .string bs0, .int .i64 bm, .slice h4 m4 d4, .slice h5 m5 d5, .slice h6 m6 d6, .slice h7 m7 d7] 92) := ⟨AW.out.fr F8 neA⟩; replace BW : Hid (Bx w8 wr.heap.size #[.int .i64 ck, .int .i64 ca, .string (str cn), .int .i64 cm, .slice i3 o3 r3, .int .i64 tk, .int .i64 ta, .string ts0, .int .i64 tm, .slice i4 o4 r4, .slice i5 o5 r5, .slice i6 o6 r6, .slice i7 o7 r7] 92) := ⟨BW.out.fr F8 neB⟩; have x1 : w8.cell? ⟨w.heap.size, 1, none⟩ = some (.int .i64 a) := XW.out.cell 1; have x6 : w8.cell? ⟨w.heap.size, 6, none⟩ = some (.slice (some ⟨k1, k2, none⟩) l6 c6) := XW.out.cell 6; have x7 : w8.cell? ⟨w.heap.size, 7, none⟩ = some (.slice (some ⟨p1, p2, none⟩) l7 c7) := XW.out.cell 7; have s0 : w8.cell? ⟨AA, 0, none⟩ = some (.int .i64 ak) := AW.out.cell 0; have s1 : w8.cell? ⟨AA, 1, none⟩ = some (.int .i64 aa) := AW.out.cell 1; have s2 : w8.cell? ⟨AA, 2, none⟩ = some (.string (str an)) := AW.out.cell 2; have s3 : w8.cell? ⟨AA, 3, none⟩ = some (.int .i64 am) := AW.out.cell 3; have t0 : w8.cell? ⟨wr.heap.size, 0, none⟩ = some (.int .i64 ck) := BW.out.cell 0; have t1 : w8.cell? ⟨wr.heap.size, 1, none⟩ = some (.int .i64 ca) := BW.out.cell 1; have t2 : w8.cell? ⟨wr.heap.size, 2, none⟩ = some (.string (str cn)) := BW.out.cell 2; have t3 : w8.cell? ⟨wr.heap.size, 3, none⟩ = some (.int .i64 cm) := BW.out.cell 3; clear F8 C8))
                      exact ⟨⟨q + 1, false, _, rfl, by go_num, by omega, HAGx, HFKx, CW.out, FW.out, XW.out, AW.out⟩, by simp [intOf]; omega⟩
                    · have c3b : (ck == 3) = false := by simp [c3]
                      have HAGx : Hid (false = (ahd al (q + 1)).any (clash ak am an)) := ⟨by rw [HAG2.out]; unfold clash; simp [y5, c2]⟩
                      have HFKx := HFK2.out
                      rw [if_neg c3, orF_nil] at HFKx
                      replace HFKx := Hid.mk HFKx.symm
                      clear HAG2 HFK2
                      (try clear c1)
                      (try clear c2)
                      (try clear y5)
                      (try clear y4)
                      (try clear c3)
                      (try clear SE)
                      go_wp2_with (first
                        | (go_at_call 17; refine (fail_any CW.out aa _).mono ?_; rintro e w8 ⟨rfl, F8, C8⟩; replace FW : Hid (Fr b w w8) := ⟨FW.out.trans F8⟩; replace CW := Hid.mk C8; replace XW : Hid (Bx w8 w.heap.size #[.int .i64 k, .int .i64 a, .string (str n), .int .i64 m, .slice g4 l4 c4, .slice g5 l5 c5, .slice (some ⟨k1, k2, none⟩) l6 c6, .slice (some ⟨p1, p2, none⟩) l7 c7] 45) := ⟨XW.out.fr F8 ne⟩; replace AW : Hid (Bx w8 AA #[.int .i64 ak, .int .i64 aa, .string (str an), .int .i64 am, .slice h3 m3 d3, .int .i64 bk, .int .i64 ba, .string bs0, .int .i64 bm, .slice h4 m4 d4, .slice h5 m5 d5, .slice h6 m6 d6, .slice h7 m7 d7] 92) := ⟨AW.out.fr F8 neA⟩; replace BW : Hid (Bx w8 wr.heap.size #[.int .i64 ck, .int .i64 ca, .string (str cn), .int .i64 cm, .slice i3 o3 r3, .int .i64 tk, .int .i64 ta, .string ts0, .int .i64 tm, .slice i4 o4 r4, .slice i5 o5 r5, .slice i6 o6 r6, .slice i7 o7 r7] 92) := ⟨BW.out.fr F8 neB⟩; have x1 : w8.cell? ⟨w.heap.size, 1, none⟩ = some (.int .i64 a) := XW.out.cell 1; have x6 : w8.cell? ⟨w.heap.size, 6, none⟩ = some (.slice (some ⟨k1, k2, none⟩) l6 c6) := XW.out.cell 6; have x7 : w8.cell? ⟨w.heap.size, 7, none⟩ = some (.slice (some ⟨p1, p2, none⟩) l7 c7) := XW.out.cell 7; have s0 : w8.cell? ⟨AA, 0, none⟩ = some (.int .i64 ak) := AW.out.cell 0; have s1 : w8.cell? ⟨AA, 1, none⟩ = some (.int .i64 aa) := AW.out.cell 1; have s2 : w8.cell? ⟨AA, 2, none⟩ = some (.string (str an)) := AW.out.cell 2; have s3 : w8.cell? ⟨AA, 3, none⟩ = some (.int .i64 am) := AW.out.cell 3; have t0 : w8.cell? ⟨wr.heap.size, 0, none⟩ = some (.int .i64 ck) := BW.out.cell 0; have t1 : w8.cell? ⟨wr.heap.size, 1, none⟩ = some (.int .i64 ca) := BW.out.cell 1; have t2 : w8.cell? ⟨wr.heap.size, 2, none⟩ = some (.string (str cn)) := BW.out.cell 2; have t3 : w8.cell? ⟨wr.heap.size, 3, none⟩ = some (.int .i64 cm) := BW.out.cell 3; clear F8 C8))
                      exact ⟨⟨q + 1, false, _, rfl, by go_num, by omega, HAGx, HFKx, CW.out, FW.out, XW.out, AW.out⟩, by simp [intOf]; omega⟩
                · have a2 : (ak == 2) = false := by simp [y5]
                  by_cases c3 : ck = 3
                  · have c3b : (ck == 3) = true := by simp [c3]
                    have d1 : (ck == 1) = false := by simp [c3]
                    have d2 : (ck == 2) = false := by simp [c3]
                    have HAGx : Hid (false = (ahd al (q + 1)).any (clash ak am an)) := ⟨by rw [HAG2.out]; unfold clash; simp [c1, y5, c3]⟩
                    have HFKx := HFK2.out
                    rw [if_pos c3] at HFKx
                    replace HFKx := Hid.mk HFKx.symm
                    clear HAG2 HFK2
                    (try clear c1)
                    (try clear c2)
                    (try clear y5)
                    (try clear y4)
                    (try clear c3)
                    (try clear SE)
                    go_wp2_with (first
                      | (go_at_call 17; refine (fail_any CW.out aa _).mono ?_; rintro e w8 ⟨rfl, F8, C8⟩; replace FW : Hid (Fr b w w8) := ⟨FW.out.trans F8⟩; replace CW := Hid.mk C8; replace XW : Hid (Bx w8 w.heap.size #[.int .i64 k, .int .i64 a, .string (str n), .int .i64 m, .slice g4 l4 c4, .slice g5 l5 c5, .slice (some ⟨k1, k2, none⟩) l6 c6, .slice (some ⟨p1, p2, none⟩) l7 c7] 45) := ⟨XW.out.fr F8 ne⟩; replace AW : Hid (Bx w8 AA #[.int .i64 ak, .int .i64 aa, .string (str an), .int .i64 am, .slice h3 m3 d3, .int .i64 bk, .int .i64 ba, .string bs0, .int .i64 bm, .slice h4 m4 d4, .slice h5 m5 d5, .slice h6 m6 d6, .slice h7 m7 d7] 92) := ⟨AW.out.fr F8 neA⟩; replace BW : Hid (Bx w8 wr.heap.size #[.int .i64 ck, .int .i64 ca, .string (str cn), .int .i64 cm, .slice i3 o3 r3, .int .i64 tk, .int .i64 ta, .string ts0, .int .i64 tm, .slice i4 o4 r4, .slice i5 o5 r5, .slice i6 o6 r6, .slice i7 o7 r7] 92) := ⟨BW.out.fr F8 neB⟩; have x1 : w8.cell? ⟨w.heap.size, 1, none⟩ = some (.int .i64 a) := XW.out.cell 1; have x6 : w8.cell? ⟨w.heap.size, 6, none⟩ = some (.slice (some ⟨k1, k2, none⟩) l6 c6) := XW.out.cell 6; have x7 : w8.cell? ⟨w.heap.size, 7, none⟩ = some (.slice (some ⟨p1, p2, none⟩) l7 c7) := XW.out.cell 7; have s0 : w8.cell? ⟨AA, 0, none⟩ = some (.int .i64 ak) := AW.out.cell 0; have s1 : w8.cell? ⟨AA, 1, none⟩ = some (.int .i64 aa) := AW.out.cell 1; have s2 : w8.cell? ⟨AA, 2, none⟩ = some (.string (str an)) := AW.out.cell 2; have s3 : w8.cell? ⟨AA, 3, none⟩ = some (.int .i64 am) := AW.out.cell 3; have t0 : w8.cell? ⟨wr.heap.size, 0, none⟩ = some (.int .i64 ck) := BW.out.cell 0; have t1 : w8.cell? ⟨wr.heap.size, 1, none⟩ = some (.int .i64 ca) := BW.out.cell 1; have t2 : w8.cell? ⟨wr.heap.size, 2, none⟩ = some (.string (str cn)) := BW.out.cell 2; have t3 : w8.cell? ⟨wr.heap.size, 3, none⟩ = some (.int .i64 cm) := BW.out.cell 3; clear F8 C8))
                    exact ⟨⟨q + 1, false, _, rfl, by go_num, by omega, HAGx, HFKx, CW.out, FW.out, XW.out, AW.out⟩, by simp [intOf]; omega⟩
                  · have c3b : (ck == 3) = false := by simp [c3]
                    have HAGx : Hid (false = (ahd al (q + 1)).any (clash ak am an)) := ⟨by rw [HAG2.out]; unfold clash; simp [c1, y5]⟩
                    have HFKx := HFK2.out
                    rw [if_neg c3, orF_nil] at HFKx
                    replace HFKx := Hid.mk HFKx.symm
                    clear HAG2 HFK2
                    (try clear c1)
                    (try clear c2)
                    (try clear y5)
                    (try clear y4)
                    (try clear c3)
                    (try clear SE)
                    go_wp2_with (first
                      | (go_at_call 17; refine (fail_any CW.out aa _).mono ?_; rintro e w8 ⟨rfl, F8, C8⟩; replace FW : Hid (Fr b w w8) := ⟨FW.out.trans F8⟩; replace CW := Hid.mk C8; replace XW : Hid (Bx w8 w.heap.size #[.int .i64 k, .int .i64 a, .string (str n), .int .i64 m, .slice g4 l4 c4, .slice g5 l5 c5, .slice (some ⟨k1, k2, none⟩) l6 c6, .slice (some ⟨p1, p2, none⟩) l7 c7] 45) := ⟨XW.out.fr F8 ne⟩; replace AW : Hid (Bx w8 AA #[.int .i64 ak, .int .i64 aa, .string (str an), .int .i64 am, .slice h3 m3 d3, .int .i64 bk, .int .i64 ba, .string bs0, .int .i64 bm, .slice h4 m4 d4, .slice h5 m5 d5, .slice h6 m6 d6, .slice h7 m7 d7] 92) := ⟨AW.out.fr F8 neA⟩; replace BW : Hid (Bx w8 wr.heap.size #[.int .i64 ck, .int .i64 ca, .string (str cn), .int .i64 cm, .slice i3 o3 r3, .int .i64 tk, .int .i64 ta, .string ts0, .int .i64 tm, .slice i4 o4 r4, .slice i5 o5 r5, .slice i6 o6 r6, .slice i7 o7 r7] 92) := ⟨BW.out.fr F8 neB⟩; have x1 : w8.cell? ⟨w.heap.size, 1, none⟩ = some (.int .i64 a) := XW.out.cell 1; have x6 : w8.cell? ⟨w.heap.size, 6, none⟩ = some (.slice (some ⟨k1, k2, none⟩) l6 c6) := XW.out.cell 6; have x7 : w8.cell? ⟨w.heap.size, 7, none⟩ = some (.slice (some ⟨p1, p2, none⟩) l7 c7) := XW.out.cell 7; have s0 : w8.cell? ⟨AA, 0, none⟩ = some (.int .i64 ak) := AW.out.cell 0; have s1 : w8.cell? ⟨AA, 1, none⟩ = some (.int .i64 aa) := AW.out.cell 1; have s2 : w8.cell? ⟨AA, 2, none⟩ = some (.string (str an)) := AW.out.cell 2; have s3 : w8.cell? ⟨AA, 3, none⟩ = some (.int .i64 am) := AW.out.cell 3; have t0 : w8.cell? ⟨wr.heap.size, 0, none⟩ = some (.int .i64 ck) := BW.out.cell 0; have t1 : w8.cell? ⟨wr.heap.size, 1, none⟩ = some (.int .i64 ca) := BW.out.cell 1; have t2 : w8.cell? ⟨wr.heap.size, 2, none⟩ = some (.string (str cn)) := BW.out.cell 2; have t3 : w8.cell? ⟨wr.heap.size, 3, none⟩ = some (.int .i64 cm) := BW.out.cell 3; clear F8 C8))
                    exact ⟨⟨q + 1, false, _, rfl, by go_num, by omega, HAGx, HFKx, CW.out, FW.out, XW.out, AW.out⟩, by simp [intOf]; omega⟩
            · by_cases c3 : ck = 3
              · have c3b : (ck == 3) = true := by simp [c3]
                have d1 : (ck == 1) = false := by simp [c3]
                have d2 : (ck == 2) = false := by simp [c3]
                have HAGx : Hid (true = (ahd al (q + 1)).any (clash ak am an)) := ⟨by rw [HAG2.out]; unfold clash; simp [Bool.or_true, c3]⟩
                have HFKx := HFK2.out
                rw [if_pos c3] at HFKx
                replace HFKx := Hid.mk HFKx.symm
                clear HAG2 HFK2
                (try clear c1)
                (try clear c2)
                (try clear y5)
                (try clear y4)
                (try clear c3)
                (try clear SE)
                go_wp2_with (first
                  | (go_at_call 17; refine (fail_any CW.out aa _).mono ?_; rintro e w8 ⟨rfl, F8, C8⟩; replace FW : Hid (Fr b w w8) := ⟨FW.out.trans F8⟩; replace CW := Hid.mk C8; replace XW : Hid (Bx w8 w.heap.size #[.int .i64 k, .int .i64 a, .string (str n), .int .i64 m, .slice g4 l4 c4, .slice g5 l5 c5, .slice (some ⟨k1, k2, none⟩) l6 c6, .slice (some ⟨p1, p2, none⟩) l7 c7] 45) := ⟨XW.out.fr F8 ne⟩; replace AW : Hid (Bx w8 AA #[.int .i64 ak, .int .i64 aa, .string (str an), .int .i64 am, .slice h3 m3 d3, .int .i64 bk, .int .i64 ba, .string bs0, .int .i64 bm, .slice h4 m4 d4, .slice h5 m5 d5, .slice h6 m6 d6, .slice h7 m7 d7] 92) := ⟨AW.out.fr F8 neA⟩; replace BW : Hid (Bx w8 wr.heap.size #[.int .i64 ck, .int .i64 ca, .string (str cn), .int .i64 cm, .slice i3 o3 r3, .int .i64 tk, .int .i64 ta, .string ts0, .int .i64 tm, .slice i4 o4 r4, .slice i5 o5 r5, .slice i6 o6 r6, .slice i7 o7 r7] 92) := ⟨BW.out.fr F8 neB⟩; have x1 : w8.cell? ⟨w.heap.size, 1, none⟩ = some (.int .i64 a) := XW.out.cell 1; have x6 : w8.cell? ⟨w.heap.size, 6, none⟩ = some (.slice (some ⟨k1, k2, none⟩) l6 c6) := XW.out.cell 6; have x7 : w8.cell? ⟨w.heap.size, 7, none⟩ = some (.slice (some ⟨p1, p2, none⟩) l7 c7) := XW.out.cell 7; have s0 : w8.cell? ⟨AA, 0, none⟩ = some (.int .i64 ak) := AW.out.cell 0; have s1 : w8.cell? ⟨AA, 1, none⟩ = some (.int .i64 aa) := AW.out.cell 1; have s2 : w8.cell? ⟨AA, 2, none⟩ = some (.string (str an)) := AW.out.cell 2; have s3 : w8.cell? ⟨AA, 3, none⟩ = some (.int .i64 am) := AW.out.cell 3; have t0 : w8.cell? ⟨wr.heap.size, 0, none⟩ = some (.int .i64 ck) := BW.out.cell 0; have t1 : w8.cell? ⟨wr.heap.size, 1, none⟩ = some (.int .i64 ca) := BW.out.cell 1; have t2 : w8.cell? ⟨wr.heap.size, 2, none⟩ = some (.string (str cn)) := BW.out.cell 2; have t3 : w8.cell? ⟨wr.heap.size, 3, none⟩ = some (.int .i64 cm) := BW.out.cell 3; clear F8 C8))
                exact ⟨⟨q + 1, true, _, rfl, by go_num, by omega, HAGx, HFKx, CW.out, FW.out, XW.out, AW.out⟩, by simp [intOf]; omega⟩
              · have c3b : (ck == 3) = false := by simp [c3]
                have HAGx : Hid (true = (ahd al (q + 1)).any (clash ak am an)) := ⟨by rw [HAG2.out]; unfold clash; simp [Bool.or_true]⟩
                have HFKx := HFK2.out
                rw [if_neg c3, orF_nil] at HFKx
                replace HFKx := Hid.mk HFKx.symm
                clear HAG2 HFK2
                (try clear c1)
                (try clear c2)
                (try clear y5)
                (try clear y4)
                (try clear c3)
                (try clear SE)
                go_wp2_with (first
                  | (go_at_call 17; refine (fail_any CW.out aa _).mono ?_; rintro e w8 ⟨rfl, F8, C8⟩; replace FW : Hid (Fr b w w8) := ⟨FW.out.trans F8⟩; replace CW := Hid.mk C8; replace XW : Hid (Bx w8 w.heap.size #[.int .i64 k, .int .i64 a, .string (str n), .int .i64 m, .slice g4 l4 c4, .slice g5 l5 c5, .slice (some ⟨k1, k2, none⟩) l6 c6, .slice (some ⟨p1, p2, none⟩) l7 c7] 45) := ⟨XW.out.fr F8 ne⟩; replace AW : Hid (Bx w8 AA #[.int .i64 ak, .int .i64 aa, .string (str an), .int .i64 am, .slice h3 m3 d3, .int .i64 bk, .int .i64 ba, .string bs0, .int .i64 bm, .slice h4 m4 d4, .slice h5 m5 d5, .slice h6 m6 d6, .slice h7 m7 d7] 92) := ⟨AW.out.fr F8 neA⟩; replace BW : Hid (Bx w8 wr.heap.size #[.int .i64 ck, .int .i64 ca, .string (str cn), .int .i64 cm, .slice i3 o3 r3, .int .i64 tk, .int .i64 ta, .string ts0, .int .i64 tm, .slice i4 o4 r4, .slice i5 o5 r5, .slice i6 o6 r6, .slice i7 o7 r7] 92) := ⟨BW.out.fr F8 neB⟩; have x1 : w8.cell? ⟨w.heap.size, 1, none⟩ = some (.int .i64 a) := XW.out.cell 1; have x6 : w8.cell? ⟨w.heap.size, 6, none⟩ = some (.slice (some ⟨k1, k2, none⟩) l6 c6) := XW.out.cell 6; have x7 : w8.cell? ⟨w.heap.size, 7, none⟩ = some (.slice (some ⟨p1, p2, none⟩) l7 c7) := XW.out.cell 7; have s0 : w8.cell? ⟨AA, 0, none⟩ = some (.int .i64 ak) := AW.out.cell 0; have s1 : w8.cell? ⟨AA, 1, none⟩ = some (.int .i64 aa) := AW.out.cell 1; have s2 : w8.cell? ⟨AA, 2, none⟩ = some (.string (str an)) := AW.out.cell 2; have s3 : w8.cell? ⟨AA, 3, none⟩ = some (.int .i64 am) := AW.out.cell 3; have t0 : w8.cell? ⟨wr.heap.size, 0, none⟩ = some (.int .i64 ck) := BW.out.cell 0; have t1 : w8.cell? ⟨wr.heap.size, 1, none⟩ = some (.int .i64 ca) := BW.out.cell 1; have t2 : w8.cell? ⟨wr.heap.size, 2, none⟩ = some (.string (str cn)) := BW.out.cell 2; have t3 : w8.cell? ⟨wr.heap.size, 3, none⟩ = some (.int .i64 cm) := BW.out.cell 3; clear F8 C8))
                exact ⟨⟨q + 1, true, _, rfl, by go_num, by omega, HAGx, HFKx, CW.out, FW.out, XW.out, AW.out⟩, by simp [intOf]; omega⟩
          · obtain rfl : j = q := by omega
            have hlq' : ¬ (j : Int) < j := by omega
            have AO := alt_any ak aa am an avs ax HEB.out ag wr b vd vb fk2 ds _ is vi CW.out (HALL.out.2.1.keeps (keeps_fr FW.out)) (isA_keeps (keeps_fr FW.out) _ _ HD.out) (HALL.out.2.2.1.keeps (keeps_fr FW.out)) (by have := HNB.out; have := HALL.out.2.2.2.2.2.2.2; omega)
            have hst := HST.out
            rw [chA, alt_eq, ← HFK.out, ← HAG.out] at hst
            have HST2 := Hid.mk hst
            have s0 : wr.cell? ⟨AA, 0, none⟩ = some (.int .i64 ak) := AW.out.cell 0
            have s1 : wr.cell? ⟨AA, 1, none⟩ = some (.int .i64 aa) := AW.out.cell 1
            have s2 : wr.cell? ⟨AA, 2, none⟩ = some (.string (str an)) := AW.out.cell 2
            have s3 : wr.cell? ⟨AA, 3, none⟩ = some (.int .i64 am) := AW.out.cell 3
            have s4 : wr.cell? ⟨AA, 4, none⟩ = some (.slice h3 m3 d3) := AW.out.cell 4
            have s5 : wr.cell? ⟨AA, 5, none⟩ = some (.int .i64 bk) := AW.out.cell 5
            have s6 : wr.cell? ⟨AA, 6, none⟩ = some (.int .i64 ba) := AW.out.cell 6
            have s7 : wr.cell? ⟨AA, 7, none⟩ = some (.string bs0) := AW.out.cell 7
            have s8 : wr.cell? ⟨AA, 8, none⟩ = some (.int .i64 bm) := AW.out.cell 8
            have s9 : wr.cell? ⟨AA, 9, none⟩ = some (.slice h4 m4 d4) := AW.out.cell 9
            have s10 : wr.cell? ⟨AA, 10, none⟩ = some (.slice h5 m5 d5) := AW.out.cell 10
            have s11 : wr.cell? ⟨AA, 11, none⟩ = some (.slice h6 m6 d6) := AW.out.cell 11
            have s12 : wr.cell? ⟨AA, 12, none⟩ = some (.slice h7 m7 d7) := AW.out.cell 12
            clear hst HST HAG HFK
            go_wp2_with (go_at_call 68; refine AO.mono ?_; rintro e w9 ⟨rfl, F8, C8⟩; replace FW : Hid (Fr b w w9) := ⟨FW.out.trans F8⟩; replace CW := Hid.mk C8; replace XW : Hid (Bx w9 w.heap.size #[.int .i64 k, .int .i64 a, .string (str n), .int .i64 m, .slice g4 l4 c4, .slice g5 l5 c5, .slice (some ⟨k1, k2, none⟩) l6 c6, .slice (some ⟨p1, p2, none⟩) l7 c7] 45) := ⟨XW.out.fr F8 ne⟩; clear F8 C8 AO)
            exact ⟨⟨j + 1, _, by go_num, by omega, CW.out, HST2, FW.out, XW.out⟩, by simp [intOf]; omega⟩
    · obtain rfl : l7 = j := by omega
      have hlt' : ¬ (l7 : Int) < l7 := by omega
      have HE : Hid (Fr b w wr ∧ Ck wr b vd vb F) := ⟨FW.out, by have := HK.out; rw [List.drop_eq_nil_of_le (by rw [HALL.out.2.2.2.2.2.2.1]; exact Nat.le_refl _), chAs, orF_nil] at this; rw [← this]; exact CW.out⟩
      clear CW HK
      go_wp2
      go_end0
      exact ⟨rfl, HE.out.1, HE.out.2⟩
end Go.Proofs.YtcbdolflgpmaoaaDoor
