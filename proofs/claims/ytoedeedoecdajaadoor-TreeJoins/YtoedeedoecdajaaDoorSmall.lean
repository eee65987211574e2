/- Package tree's parser: the token that is next; what gives up; what takes one token. -/
import Derived.Test.YtoedeedoecdajaaDoorRdr
namespace Go.Proofs.YtoedeedoecdajaaDoor
open Go.RowKit
set_option linter.unusedVariables false
set_option linter.unusedSimpArgs false

theorem field0 (k t m a : Value) (w : World) : (Instr.field 39 (.agg #[k, t, m, a]) 0).run Tryd.prog w = .ok k w := by kernel_rfl
theorem field1 (k t m a : Value) (w : World) : (Instr.field 39 (.agg #[k, t, m, a]) 1).run Tryd.prog w = .ok t w := by kernel_rfl
theorem field2 (k t m a : Value) (w : World) : (Instr.field 39 (.agg #[k, t, m, a]) 2).run Tryd.prog w = .ok m w := by kernel_rfl
theorem field3 (k t m a : Value) (w : World) : (Instr.field 39 (.agg #[k, t, m, a]) 3).run Tryd.prog w = .ok a w := by kernel_rfl
def hdV : List Tok → Int → Value
  | [], n => .agg #[.int .i64 0, .string ⟨#[]⟩, .int .i64 0, .int .i64 n]
  | t :: _, _ => .agg #[.int .i64 t.kind, .string (str t.text), .int .i64 t.num, .int .i64 t.at']
abbrev ptr (b : Nat) : Value := .pointer (some ⟨b, 0, none⟩)

set_option maxHeartbeats 1000000 in
theorem look_any {w : World} {b : Nat} {l : List Tok} {n e : Int} (R : Rd w b l n e) :
    Calls Tryd.prog 22 #[ptr b] w fun e w' => e = .returned (hdV l n) ∧ ∃ o, w' = w.alloc o := by
  have lt := R.lt
  cases l with
  | nil =>
    obtain ⟨ga, cap, c0, _⟩ := R.c0
    have c1 := R.c1
    simp only [List.length_nil] at c0
    clear R
    go_enter Tryd.func22, Tryd.ntmps22
    go_wp2
    exact bodyPost_ret (by simp [results, Tryd.results22, go_sem]; rfl) rfl ⟨rfl, _, rfl⟩
  | cons t r =>
    obtain ⟨g, off, cap, c0, _, _, hg, t0, t1, t2, t3⟩ := R.next
    have lt2 : g < w.heap.size := by omega
    clear R
    go_enter Tryd.func22, Tryd.ntmps22
    go_wp2
    exact bodyPost_ret (by simp [results, Tryd.results22, go_sem]; rfl) rfl ⟨rfl, _, rfl⟩

theorem giveUp_any {w : World} {b : Nat} {l : List Tok} {n e : Int} (R : Rd w b l n e) (c : Int) :
    Calls Tryd.prog 76 #[ptr b, .int .i64 c] w fun e w' => e = pan c ∧ w' = w.setCell ⟨b, 2, none⟩ (.int .i64 c) := by
  have c2 := R.c2
  have z := R.z 2
  clear R
  go_enter Tryd.func76, Tryd.ntmps76
  go_wp2
  exact ⟨rfl, rfl, rfl⟩

set_option maxRecDepth 100000 in
set_option maxHeartbeats 1000000 in
theorem stands_any {w : World} {b : Nat} {l : List Tok} {n e : Int} (R : Rd w b l n e) {s : List UInt8} (hs : isMark s = true) (hl : s ≠ []) :
    Calls Tryd.prog 35 #[ptr b, .string (str s)] w fun e w' => e = .returned (.bool (isS s l)) ∧ ∃ o, w' = w.alloc o := by
  have N := look_any R
  have G := R.g
  cases l with
  | nil =>
    have d : (([] : List UInt8) == (str s).toList) = false := by
      rw [ByteArray.toList_eq, str_list]
      cases s with
      | nil => exact absurd rfl hl
      | cons c s => rfl
    simp only [hdV] at N
    have f1 := field1
    clear R
    go_enter Tryd.func35, Tryd.ntmps35
    go_wp2_with (go_at_call 22; refine N.mono ?_; rintro e w1 ⟨rfl, o, rfl⟩)
    go_ret
    exact ⟨by simp [isS, d], _, rfl⟩
  | cons t r =>
    rw [G.stands hs]
    have d : ((str t.text).toList == (str s).toList) = decide (t.text = s) := by
      rw [ByteArray.toList_eq, ByteArray.toList_eq, str_list, str_list]
      by_cases h : t.text = s <;> simp [h]
    simp only [hdV] at N
    have f1 := field1
    clear R G
    go_enter Tryd.func35, Tryd.ntmps35
    go_wp2_with (go_at_call 22; refine N.mono ?_; rintro e w1 ⟨rfl, o, rfl⟩)
    go_ret
    exact ⟨by simp [d], _, rfl⟩

set_option maxRecDepth 100000 in
set_option maxHeartbeats 1000000 in
theorem take_any {w : World} {b : Nat} {l : List Tok} {n : Int} (R : Rd w b l n 0) (k : Int) (hk : k ≠ 0) :
    Calls Tryd.prog 69 #[ptr b, .int .i64 k] w (Ans b n w (fun _ _ (t : Tok) v => v = hdV [t] 0) (pKind k l)) := by
  have lt := R.lt
  have z := R.z 0
  have N := fun o => look_any (R.alloc o)
  have U := fun o o' o'' => giveUp_any (((R.alloc o).alloc o').alloc o'') 23
  have bad : ∀ o o' o'', pKind k l = .error (23, l) → Ans b n w (fun _ _ (t : Tok) v => v = hdV [t] 0) (pKind k l) (pan 23) ((((w.alloc o).alloc o').alloc o'').setCell ⟨b, 2, none⟩ (.int .i64 23)) := fun o o' o'' h => by
    rw [h]
    exact ⟨((((Fr.refl b w).alloc _).alloc _).alloc _).set 2 _, rfl, (((R.alloc _).alloc _).alloc _).wrong 23⟩
  cases l with
  | nil =>
    have d : ((0 : Int) != k) = true := by simp; omega
    have B := fun o o' o'' => bad o o' o'' rfl
    simp only [hdV] at N
    clear R bad
    go_enter Tryd.func69, Tryd.ntmps69
    go_wp2_with (first
      | (go_at_call 22; refine (N _).mono ?_; rintro e w1 ⟨rfl, o, rfl⟩)
      | (go_at_call 76; refine (U _ _ _).mono ?_; rintro e w2 ⟨rfl, rfl⟩))
    exact ⟨rfl, B _ _ _⟩
  | cons t r =>
    by_cases ht : t.kind = k
    · obtain ⟨g, off, cap, c0, ⟨h1, _⟩, h2, hg, _⟩ := R.next
      have d : (t.kind != k) = false := by simp [ht]
      have F : pKind k (t :: r) = .ok (t, r) := by simp [pKind, ht]
      rw [F]
      simp only [hdV] at N
      have lt1 : b < w.heap.size + 1 := by omega
      have lt2 : b < w.heap.size + 1 + 1 := by omega
      have b1 : (1 : Int) ≤ r.length + 1 := by omega
      have b2 : ((r.length : Int) + 1) ≤ cap := by omega
      clear bad U
      go_enter Tryd.func69, Tryd.ntmps69
      go_wp2_with (go_at_call 22; refine (N _).mono ?_; rintro e w1 ⟨rfl, o, rfl⟩)
      all_goals
        refine bodyPost_ret (v := hdV [t] 0) (by simp [results, Tryd.results69, go_sem, hdV, ht]) rfl (Ans.ok ?_ ?_ rfl)
        · exact ((((Fr.refl b w).set 0 _).alloc _).alloc _).alloc _
        · refine Rd.alloc (Rd.alloc (Rd.alloc ?_ _) _) _
          first
            | exact R.step c0 _ (.inl rfl)
            | (subst cap; exact R.step c0 _ (.inr rfl))
    · have d : (t.kind != k) = true := by simp [ht]
      have B := fun o o' o'' => bad o o' o'' (by simp [pKind, ht])
      simp only [hdV] at N
      clear R bad
      go_enter Tryd.func69, Tryd.ntmps69
      go_wp2_with (first
        | (go_at_call 22; refine (N _).mono ?_; rintro e w1 ⟨rfl, o, rfl⟩)
        | (go_at_call 76; refine (U _ _ _).mono ?_; rintro e w2 ⟨rfl, rfl⟩))
      exact ⟨rfl, B _ _ _⟩

end Go.Proofs.YtoedeedoecdajaaDoor
