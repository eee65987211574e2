/- The document's check: an alternative. -/
import Derived.Test.YtbajpejnnfacbaaGreatDoorScm
namespace Go.Proofs.YtbajpejnnfacbaaGreatDoor
open Go.RowKit
set_option linter.unusedVariables false
set_option linter.unusedSimpArgs false

end Go.Proofs.YtbajpejnnfacbaaGreatDoor

/- The document's check: an alternative that takes all, one of a constructor. -/
namespace Go.Proofs.YtbajpejnnfacbaaGreatDoor
open Go.RowKit
set_option linter.unusedVariables false
set_option linter.unusedSimpArgs false

theorem one_row (W : World) (n : Nm) (b : Nat) (h : b < W.heap.size) : IsRow (W.alloc (.cells #[.string (str n)] 9)) (but b) (strC [n]) [n].length (.slice (some ⟨W.heap.size, 0, none⟩) 1 1) := by
  refine ⟨_, 1, rfl, ⟨Nat.le_refl _, by simp⟩, fun _ => ⟨W.heap.size, 0, rfl, by show W.heap.size ≠ b; omega, fun j u hj => ?_⟩⟩
  have := Joins.cell_of_block (heap_alloc_new W (.cells #[.string (str n)] 9)) (0 + j)
  rw [this, Nat.zero_add]
  simpa [strC] using hj
end Go.Proofs.YtbajpejnnfacbaaGreatDoor

/- The document's check: an alternative of a constructor. -/
namespace Go.Proofs.YtbajpejnnfacbaaGreatDoor
open Go.RowKit
set_option linter.unusedVariables false
set_option linter.unusedSimpArgs false

end Go.Proofs.YtbajpejnnfacbaaGreatDoor

/- The document's check: any alternative; a case that lacks a part. -/
namespace Go.Proofs.YtbajpejnnfacbaaGreatDoor
open Go.RowKit
set_option linter.unusedVariables false
set_option linter.unusedSimpArgs false

/-- what is wrong with an alternative by itself -/
def kF (ds : List D) (k a : Int) (n : Nm) (vs : List Nm) : Flt :=
  if k = 1 then (match arityN ds n with | none => some (a, 32) | some r => if r ≠ vs.length then some (a, 33) else if vs.contains [] then some (a, 31) else if twiceN vs then some (a, 30) else none)
  else if k = 2 then none else if k = 3 then (if n = [] then some (a, 31) else none) else some (a, 2)
/-- alternatives that clash -/
def clash (k m : Int) (n : Nm) (h : Hd3) : Bool := (k == 1 && h.kind == 1 && n == h.name) || (k == 2 && h.kind == 2 && m == h.num)
theorem alt_eq (ds : List D) (ahead : List Hd3) (k a : Int) (n : Nm) (m : Int) (vs : List Nm) :
    altF ds ahead k a n m vs = orF (orF (if ahead.any (fun h => h.kind == 3) = true then some (a, 35) else none) (kF ds k a n vs)) (if ahead.any (clash k m n) = true then some (a, 30) else none) := by
  unfold altF kF
  by_cases q : ahead.any (fun h => h.kind == 3) = true
  · rw [if_pos q, if_pos q]; rfl
  · rw [if_neg q, if_neg q, orF_left]
    by_cases k1 : k = 1
    · subst k1
      have e : (fun h : Hd3 => h.kind == 1 && h.name == n) = clash 1 m n := by
        funext h
        unfold clash
        rw [eqb_comm n h.name]
        simp
      rw [if_pos rfl, if_pos rfl, e]
      cases arityN ds n with
      | none => rfl
      | some r =>
        dsimp only
        by_cases c1 : r ≠ vs.length
        · rw [if_pos c1, if_pos c1]; rfl
        · rw [if_neg c1, if_neg c1]
          by_cases c2 : vs.contains [] = true
          · rw [if_pos c2, if_pos c2]; rfl
          · rw [if_neg c2, if_neg c2]
            by_cases c3 : twiceN vs = true
            · rw [if_pos c3, if_pos c3]; rfl
            · rw [if_neg c3, if_neg c3]; rfl
    · by_cases k2 : k = 2
      · subst k2
        have e : (fun h : Hd3 => h.kind == 2 && h.num == m) = clash 2 m n := by
          funext h
          unfold clash
          rw [show (m == h.num) = (h.num == m) by rw [Bool.eq_iff_iff, beq_iff_eq, beq_iff_eq]; exact eq_comm]
          simp
        rw [if_neg k1, if_pos rfl, if_neg k1, if_pos rfl, e]
        rfl
      · have e : ahead.any (clash k m n) = false := by
          rw [List.any_eq_false]
          intro h _
          unfold clash
          simp [k1, k2]
        rw [if_neg k1, if_neg k2, if_neg k1, if_neg k2, e]
        by_cases k3 : k = 3
        · rw [if_pos k3, if_neg (show ¬ (false = true) by simp), orF_nil]
        · rw [if_neg k3]; rfl
end Go.Proofs.YtbajpejnnfacbaaGreatDoor

/- The document's check: a case. -/
namespace Go.Proofs.YtbajpejnnfacbaaGreatDoor
open Go.RowKit
set_option linter.unusedVariables false
set_option linter.unusedSimpArgs false

def bodA : A → E | .mk _ _ _ _ _ x => x
def hdA : A → Hd3 | .mk k _ n m _ _ => ⟨k, n, m⟩
/-- those ahead, the last first -/
def ahd (l : List A) (j : Nat) : List Hd3 := ((l.take j).map hdA).reverse
theorem ahd_step (l : List A) (j : Nat) (h : j < l.length) : ahd l (j + 1) = hdA (l[j]'h) :: ahd l j := by
  unfold ahd
  rw [← List.take_append_getElem h, List.map_append, List.reverse_append]
  rfl
theorem chAs_cons {ds : List D} {sc : Nm → Bool} (ahead : List Hd3) (x : A) (r : List A) : chAs ds prN tA sc ahead (x :: r) = orF (chA ds prN tA sc ahead x) (chAs ds prN tA sc (hdA x :: ahead) r) := by
  obtain ⟨k, a, n, m, vs, e⟩ := x
  rw [chAs]
  rfl
theorem nmAs_le : ∀ (l : List A) (j : Nat) (h : j < l.length), nmA (l[j]'h) ≤ nmAs l
  | x :: r, 0, _ => by rw [nmAs]; simp
  | x :: r, j + 1, h => by
    have := nmAs_le r j (by simpa using h)
    rw [nmAs]
    simp only [List.getElem_cons_succ]
    omega
theorem isA_form {w : World} {ok : Nat → Prop} {k a : Int} {n : Nm} {m : Int} {vs : List Nm} {x : E} {c : List Value} (h : isA w ok (.mk k a n m vs x) c) : ∃ (bk ba bm : Int) (bs0 : ByteArray) (h4 h5 h6 h7 : Option Addr) (m4 m5 m6 m7 d4 d5 d6 d7 : Nat) (h3 : Option Addr) (m3 d3 : Nat),
    c = [.int .i64 k, .int .i64 a, .string (str n), .int .i64 m, .slice h3 m3 d3, .int .i64 bk, .int .i64 ba, .string bs0, .int .i64 bm, .slice h4 m4 d4, .slice h5 m5 d5, .slice h6 m6 d6, .slice h7 m7 d7] := by
  simp only [isA] at h
  obtain ⟨vv, d, rfl, ⟨_, _, rfl, _⟩, h⟩ := h
  obtain ⟨_, _, _, _, _, _, _, _, _, _, _, _, _, _, _, _, rfl⟩ := isE_eight h
  exact ⟨_, _, _, _, _, _, _, _, _, _, _, _, _, _, _, _, _, _, _, rfl⟩
theorem last_eq (k : Int) (o : Bool) (a : Int) : (if (k == 3 || o) = true then some (a, 35) else none : Flt) = orF (if o = true then some (a, 35) else none) (if k = 3 then some (a, 35) else none) := by
  by_cases z : k = 3
  · subst z
    cases o <;> rfl
  · rw [show (k == 3) = false from beq_eq_false_iff_ne.2 z, Bool.false_or, if_neg z, orF_nil]
end Go.Proofs.YtbajpejnnfacbaaGreatDoor
