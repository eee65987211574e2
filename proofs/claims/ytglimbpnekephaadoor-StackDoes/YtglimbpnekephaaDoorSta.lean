/- What all texts of this seat use: worlds, frames as plain data, lists in memory, the table of kinds; and stack.Right. -/
import Derived.Test.YtglimbpnekephaaDoorProg
import Derived.WalkKit
import Derived.Handy
import Derived.BigQuiet
import Derived.Deep.QuietTactic
import Derived.Deep.RegionWith
import Derived.Below
import Derived.WalkMore
import Derived.Lib.SmallJoins
import Derived.KernelRfl
import Derived.OpenShut
namespace Go.Proofs.YtglimbpnekephaaDoor
open Go.RowKit
set_option linter.unusedVariables false
set_option linter.unusedSimpArgs false

theorem retInt {k : IntKind} {a b : Int} (h : a = b) : Ending.returned (.int k a) = .returned (.int k b) := by rw [h]
theorem retBool {a b : Bool} (h : a = b) : Ending.returned (.bool a) = .returned (.bool b) := by rw [h]
structure Hid (p : Prop) : Prop where
  out : p
def intOf : Value → Int
  | .int _ n => n
  | _ => 0
theorem belowOn {w wr w' : World} (B : Below w.heap.size w wr) (h : Below wr.heap.size wr w') : Below w.heap.size w w' := B.trans (h.mono B.size)

/-! ## Frames -/
/-- a frame: kind, A, B, pointers -/
structure Fr where
  k : Int
  a : Int
  b : Int
  ps : List Int
def hasB (a b n : Int) : Bool := decide (a ≤ n ∧ n ≤ b)
theorem hasB_yes {a b n : Int} : hasB a b n = true ↔ a ≤ n ∧ n ≤ b := by simp [hasB]
theorem hasB_no {a b n : Int} : hasB a b n = false ↔ ¬ (a ≤ n ∧ n ≤ b) := by simp [hasB]
def tA : Nat → Int | 4 => 1 | _ => 0
def tB : Nat → Int | 1 => 1048575 | 4 => 16 | 5 => 1048575 | _ => 0
def tC : Nat → Int | _ => 0
def tD : Nat → Int | 4 => 2 | 5 => 7 | _ => 0
def tE : Nat → Int | 2 => 1 | 3 => 1 | 4 => 1 | _ => 0
def tF : Nat → Int | 1 => 1000 | 2 => 1 | 3 => 8 | 4 => 3 | _ => 0
def wrongP (p : Int) : Bool := decide (p < 0 ∨ 524288 < p)
/-- what Right answers of a kind that there is -/
def rightK (k : Nat) (f : Fr) : Int :=
  if hasB (tE k) (tF k) f.ps.length = false then 7
  else if hasB (tA k) (tB k) f.a = false then 2
  else if hasB (tC k) (tD k) f.b = false then 2
  else if f.ps.any wrongP = true then 4 else 0
/-- what Right answers -/
def rightE (f : Fr) : Int := if 1 ≤ f.k ∧ f.k ≤ 5 then rightK f.k.toNat f else 6
/-- what a right frame is -/
structure Okf (f : Fr) : Prop where
  k : 1 ≤ f.k ∧ f.k ≤ 5
  a : 0 ≤ f.a ∧ f.a ≤ 1048575
  b : 0 ≤ f.b ∧ f.b ≤ 7
  n : f.ps.length ≤ 1000
  p : ∀ p ∈ f.ps, 0 ≤ p ∧ p ≤ 524288
theorem tabs (k : Nat) (hk : 1 ≤ k ∧ k ≤ 5) : 0 ≤ tA k ∧ tB k ≤ 1048575 ∧ 0 ≤ tC k ∧ tD k ≤ 7 ∧ tF k ≤ 1000 := by
  have c : k = 1 ∨ k = 2 ∨ k = 3 ∨ k = 4 ∨ k = 5 := by omega
  rcases c with rfl | rfl | rfl | rfl | rfl <;> decide
theorem Okf.of {f : Fr} (h : rightE f = 0) : Okf f := by
  unfold rightE at h
  split at h
  case isFalse => cases h
  case isTrue hk =>
  obtain ⟨t1, t2, t3, t4, t5⟩ := tabs f.k.toNat (by omega)
  unfold rightK at h
  split at h
  · cases h
  split at h
  · cases h
  split at h
  · cases h
  split at h
  · cases h
  rename_i h1 h2 h3 h4
  have g1 := hasB_yes.1 (by simpa using h1)
  have g2 := hasB_yes.1 (by simpa using h2)
  have g3 := hasB_yes.1 (by simpa using h3)
  refine ⟨hk, by omega, by omega, by omega, fun p hp => ?_⟩
  have := fun q => h4 (List.any_eq_true.2 q)
  by_cases hq : 0 ≤ p ∧ p ≤ 524288
  · exact hq
  · exact absurd ⟨p, hp, by simp [wrongP]; omega⟩ this
abbrev fv (f : Fr) (o : Option Addr) (cap : Nat) : Value := .agg #[.int .i64 f.k, .int .i64 f.a, .int .i64 f.b, .slice o f.ps.length cap]

/-! ## Lists of numbers in memory -/
def maxLen : Nat := 9223372036854775807
/-- these numbers lie from o on -/
structure PS (w : World) (o : Option Addr) (cap : Nat) (ps : List Int) : Prop where
  cap : ps.length ≤ cap
  len : ps.length ≤ maxLen
  num : 0 < ps.length → ∃ g off, o = some ⟨g, off, none⟩ ∧ ∀ i (h : i < ps.length), w.cell? ⟨g, off + i, none⟩ = some (.int .i64 (ps[i]'h))
theorem PS.later {w w' : World} {o : Option Addr} {cap : Nat} {ps : List Int} (h : PS w o cap ps) (hb : Below w.heap.size w w') : PS w' o cap ps := by
  refine ⟨h.cap, h.len, fun hn => ?_⟩
  obtain ⟨g, off, rfl, hx⟩ := h.num hn
  exact ⟨g, off, rfl, fun i hi => (hb.cell (p := ⟨g, off + i, none⟩) (World.block_lt_of_cell? _ _ (hx i hi))).trans (hx i hi)⟩
theorem PS.get {w : World} {o : Option Addr} {cap : Nat} {ps : List Int} (h : PS w o cap ps) (i : Nat) (hi : i < ps.length) : ∃ g off, o = some ⟨g, off, none⟩ ∧ w.cell? ⟨g, off + i, none⟩ = some (.int .i64 (ps[i]'hi)) := by
  obtain ⟨g, off, rfl, hx⟩ := h.num (by omega)
  exact ⟨g, off, rfl, hx i hi⟩

/-! ## The table -/
structure Table (w : World) : Prop where
  a : ∀ k, k < 6 → w.cell? ⟨0, k * 6, none⟩ = some (.int .i64 (tA k))
  b : ∀ k, k < 6 → w.cell? ⟨0, k * 6 + 1, none⟩ = some (.int .i64 (tB k))
  c : ∀ k, k < 6 → w.cell? ⟨0, k * 6 + 2, none⟩ = some (.int .i64 (tC k))
  d : ∀ k, k < 6 → w.cell? ⟨0, k * 6 + 3, none⟩ = some (.int .i64 (tD k))
  e : ∀ k, k < 6 → w.cell? ⟨0, k * 6 + 4, none⟩ = some (.int .i64 (tE k))
  f : ∀ k, k < 6 → w.cell? ⟨0, k * 6 + 5, none⟩ = some (.int .i64 (tF k))
theorem Table.lt {w : World} (h : Table w) : 0 < w.heap.size := World.block_lt_of_cell? _ _ (h.a 0 (by decide))
theorem Table.block {w w' : World} (h : Table w) (e : w'.heap[0]? = w.heap[0]?) : Table w' := by
  have k : ∀ o, w'.cell? ⟨0, o, none⟩ = w.cell? ⟨0, o, none⟩ := fun o => World.cell?_of_block (w := w) (a := ⟨0, o, none⟩) e
  exact ⟨fun j hj => (k _).trans (h.a j hj), fun j hj => (k _).trans (h.b j hj), fun j hj => (k _).trans (h.c j hj), fun j hj => (k _).trans (h.d j hj), fun j hj => (k _).trans (h.e j hj), fun j hj => (k _).trans (h.f j hj)⟩
theorem Table.later {w w' : World} (h : Table w) (hb : Below w.heap.size w w') : Table w' := h.block (hb.block 0 h.lt)

/-! ## The small ones -/
theorem has_any (n x y : Int) (w : World) : Calls Tryd.prog 36 #[.agg #[.int .i64 x, .int .i64 y], .int .i64 n] w fun e w' => e = .returned (.bool (hasB x y n)) ∧ Below w.heap.size w w' := by
  by_cases a : x ≤ n
  · by_cases b : n ≤ y
    · go_enter Tryd.func36, Tryd.ntmps36
      go_wp2
      go_ret
      exact ⟨retBool (hasB_yes.2 ⟨a, b⟩).symm, by go_grown⟩
    · go_enter Tryd.func36, Tryd.ntmps36
      go_wp2
      go_ret
      exact ⟨retBool (hasB_no.2 (by omega)).symm, by go_grown⟩
  · go_enter Tryd.func36, Tryd.ntmps36
    go_wp2
    go_ret
    exact ⟨retBool (hasB_no.2 (by omega)).symm, by go_grown⟩
theorem kind_any (k : Int) (w : World) : Calls Tryd.prog 35 #[.int .i64 k] w fun e w' => e = .returned (.bool (hasB 1 5 k)) ∧ w' = w := by
  by_cases a : 1 ≤ k
  · by_cases b : k ≤ 5
    · go_enter Tryd.func35, Tryd.ntmps35
      go_wp2
      go_ret
      exact ⟨retBool (hasB_yes.2 ⟨a, b⟩).symm, rfl⟩
    · go_enter Tryd.func35, Tryd.ntmps35
      go_wp2
      go_ret
      exact ⟨retBool (hasB_no.2 (by omega)).symm, rfl⟩
  · go_enter Tryd.func35, Tryd.ntmps35
    go_wp2
    go_ret
    exact ⟨retBool (hasB_no.2 (by omega)).symm, rfl⟩
theorem wrong_any (p : Int) (w : World) : Calls Tryd.prog 38 #[.int .i64 p] w fun e w' => e = .returned (.bool (wrongP p)) ∧ w' = w := by
  by_cases a : p < 0
  · go_enter Tryd.func38, Tryd.ntmps38
    go_wp2
    go_ret
    exact ⟨retBool (by simp [wrongP, a]), rfl⟩
  · by_cases b : 524288 < p
    · go_enter Tryd.func38, Tryd.ntmps38
      go_wp2
      go_ret
      exact ⟨retBool (by simp [wrongP, b]), rfl⟩
    · go_enter Tryd.func38, Tryd.ntmps38
      go_wp2
      go_ret
      exact ⟨retBool (by simp [wrongP, a, b]), rfl⟩
theorem between_any (n x y : Int) (w : World) : Calls Tryd.prog 39 #[.int .i64 n, .int .i64 x, .int .i64 y] w fun e w' => e = .returned (.bool (hasB x y n)) ∧ w' = w := by
  by_cases a : x ≤ n
  · by_cases b : n ≤ y
    · go_enter Tryd.func39, Tryd.ntmps39
      go_wp2
      go_ret
      exact ⟨retBool (hasB_yes.2 ⟨a, b⟩).symm, rfl⟩
    · go_enter Tryd.func39, Tryd.ntmps39
      go_wp2
      go_ret
      exact ⟨retBool (hasB_no.2 (by omega)).symm, rfl⟩
  · go_enter Tryd.func39, Tryd.ntmps39
    go_wp2
    go_ret
    exact ⟨retBool (hasB_no.2 (by omega)).symm, rfl⟩

set_option maxHeartbeats 1000000 in
/-- slices.IndexFunc, asked for a number that no pointer can be -/
theorem index_any (ps : List Int) (o : Option Addr) (cap : Nat) (w : World) (P : PS w o cap ps) :
    Calls Tryd.prog 55 #[.slice o ps.length cap, .func (.func 38) #[] #[]] w fun e w' => ∃ i : Int, e = .returned (.int .i64 i) ∧ decide (0 ≤ i) = ps.any wrongP ∧ w' = w := by
  obtain ⟨n, hn⟩ : ∃ n, ps.length = n := ⟨_, rfl⟩
  have HN := Hid.mk hn
  have HP := Hid.mk P
  have hc1 : n ≤ cap := hn ▸ P.cap
  have hc2 : n ≤ 9223372036854775807 := hn ▸ P.len
  rw [hn]
  clear hn P
  go_enter Tryd.func55, Tryd.ntmps55
  go_wp2
  go_loopw [8] (fun c wr => ∃ i : Nat, c = .int .i64 i ∧ i ≤ n ∧ Hid ((ps.take i).any wrongP = false) ∧ w = wr) (fun c _ => n - (intOf c).toNat)
  case atStart => exact ⟨0, rfl, Nat.zero_le _, ⟨rfl⟩, rfl⟩
  case round =>
    obtain ⟨i, rfl, hi, A, rfl⟩ := hrel
    by_cases hlt : i < n
    · have kl : i < ps.length := by rw [HN.out]; exact hlt
      obtain ⟨g, off, rfl, cx⟩ := HP.out.get i kl
      have HA : Hid ((ps.take (i + 1)).any wrongP = ((ps.take i).any wrongP || wrongP (ps[i]'kl))) := ⟨by rw [List.take_succ_eq_append_getElem kl, List.any_append]; simp only [List.any_cons, List.any_nil, Bool.or_false]⟩
      have HA2 : Hid (wrongP (ps[i]'kl) = true → ps.any wrongP = true) := ⟨fun q => by rw [List.any_eq_true]; exact ⟨_, List.getElem_mem kl, q⟩⟩
      generalize ps[i]'kl = m at *
      have CW := wrong_any m w
      have hlt' : (i : Int) < n := by omega
      rcases Bool.eq_false_or_eq_true (wrongP m) with q | q
      · rw [q] at CW
        have HQ := Hid.mk q
        clear q
        go_wp2_with (go_at_call 38; refine CW.mono ?_; rintro e w' ⟨rfl, rfl⟩)
        go_ret
        exact ⟨_, rfl, by rw [HA2.out HQ.out]; simp, rfl⟩
      · rw [q] at CW
        have HQ := Hid.mk q
        clear q
        go_wp2_with (go_at_call 38; refine CW.mono ?_; rintro e w' ⟨rfl, rfl⟩)
        exact ⟨⟨i + 1, by go_num, by omega, ⟨by rw [HA.out, A.out, HQ.out]; rfl⟩, by first | rfl | trivial⟩, by simp [intOf]; omega⟩
    · obtain rfl : i = n := by omega
      go_wp2
      go_ret
      exact ⟨_, rfl, by have := A.out; rw [List.take_of_length_le (by rw [HN.out]; omega)] at this; rw [this]; rfl, rfl⟩
theorem contains_any (ps : List Int) (o : Option Addr) (cap : Nat) (w : World) (P : PS w o cap ps) :
    Calls Tryd.prog 37 #[.slice o ps.length cap, .func (.func 38) #[] #[]] w fun e w' => e = .returned (.bool (ps.any wrongP)) ∧ w' = w := by
  have I := index_any ps o cap w P
  go_enter Tryd.func37, Tryd.ntmps37
  go_wp2_with (go_at_call 55; refine I.mono ?_; rintro e w' ⟨i, rfl, hq, rfl⟩)
  go_ret
  exact ⟨rfl, rfl⟩
end Go.Proofs.YtglimbpnekephaaDoor
