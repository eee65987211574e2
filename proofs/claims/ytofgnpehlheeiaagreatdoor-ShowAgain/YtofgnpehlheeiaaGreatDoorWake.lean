/- ShowPlain: the law's own walk; awake. -/
import Derived.Test.YtofgnpehlheeiaaGreatDoorPrn
namespace Go.Proofs.YtofgnpehlheeiaaGreatDoor
open Go.RowKit
set_option linter.unusedVariables false
set_option linter.unusedSimpArgs false

def idP : Pg := ⟨[], [.mk [105, 100] 0 [[120]] (.mk 1 0 [120] 0 [] [] [] [])]⟩
theorem id_print : printR idP = .ok [105, 100, 32, 61, 32, 92, 32, 120, 32, 45, 62, 32, 120, 32, 59, 10] := by kernel_rfl
theorem isRow_nil (w : World) (ok : Nat → Prop) (xs : List Value) : IsRow w ok xs 0 (.slice none 0 0) := ⟨none, 0, rfl, ⟨Nat.le_refl _, by decide⟩, fun z => absurd z (Nat.lt_irrefl 0)⟩
theorem isRow_one {w : World} {ok : Nat → Prop} {g : Nat} {cs : Array Value} {t : TypeId} {xs : List Value} (h : Blk w g cs t) (ho : ok g) (hx : cs.toList = xs) : IsRow w ok xs 1 (.slice (some ⟨g, 0, none⟩) 1 1) :=
  ⟨_, 1, rfl, ⟨Nat.le_refl _, by decide⟩, fun _ => ⟨g, 0, rfl, ho, fun j u hj => by rw [Nat.zero_add, h.cell j]; rw [← hx] at hj; simpa using hj⟩⟩
theorem id_mem (w : World) : isPV ((w.alloc (.cells #[.string ⟨#[120]⟩] 9)).alloc (.cells #[.string ⟨#[105, 100]⟩, .int .i64 0, .slice (some ⟨w.heap.size, 0, none⟩) 1 1, .int .i64 1, .int .i64 0, .string ⟨#[120]⟩, .int .i64 0, .slice none 0 0, .slice none 0 0, .slice none 0 0, .slice none 0 0] 51))
    (fun g => g < ((w.alloc (.cells #[.string ⟨#[120]⟩] 9)).alloc (.cells #[.string ⟨#[105, 100]⟩, .int .i64 0, .slice (some ⟨w.heap.size, 0, none⟩) 1 1, .int .i64 1, .int .i64 0, .string ⟨#[120]⟩, .int .i64 0, .slice none 0 0, .slice none 0 0, .slice none 0 0, .slice none 0 0] 51)).heap.size) idP (.agg #[.slice none 0 0, .slice (some ⟨w.heap.size + 1, 0, none⟩) 1 1]) := by
  have X0 := (Blk.fresh w #[.string ⟨#[120]⟩] 9).alloc (.cells #[.string ⟨#[105, 100]⟩, .int .i64 0, .slice (some ⟨w.heap.size, 0, none⟩) 1 1, .int .i64 1, .int .i64 0, .string ⟨#[120]⟩, .int .i64 0, .slice none 0 0, .slice none 0 0, .slice none 0 0, .slice none 0 0] 51)
  have X1 := Blk.fresh (w.alloc (.cells #[.string ⟨#[120]⟩] 9)) #[.string ⟨#[105, 100]⟩, .int .i64 0, .slice (some ⟨w.heap.size, 0, none⟩) 1 1, .int .i64 1, .int .i64 0, .string ⟨#[120]⟩, .int .i64 0, .slice none 0 0, .slice none 0 0, .slice none 0 0, .slice none 0 0] 51
  rw [show (w.alloc (.cells #[.string ⟨#[120]⟩] 9)).heap.size = w.heap.size + 1 by simp] at X1
  refine ⟨_, _, _, rfl, isRow_nil _ _ _, isRow_one X1 X1.lt rfl, ?_⟩
  simp only [idP, isBs, isB, isE, isEs, isAs]
  exact ⟨_, [], (by simp; exact ⟨rfl, rfl⟩), ⟨_, _, rfl, isRow_one X0 X0.lt rfl, _, _, _, _, [], [], [], rfl, isRow_nil _ _ _, isRow_nil _ _ _, rfl, isRow_nil _ _ _, rfl, isRow_nil _ _ _, rfl⟩, rfl⟩

set_option maxRecDepth 100000 in
set_option maxHeartbeats 4000000 in
theorem awake_any (w : World) (La : Laid w) : Calls Tryz.prog 6 #[] w fun r w' => r = .returned (.bool true) ∧ Below w.heap.size w w' := by
  have hB : Below w.heap.size w ((w.alloc (.cells #[.string ⟨#[120]⟩] 9)).alloc (.cells #[.string ⟨#[105, 100]⟩, .int .i64 0, .slice (some ⟨w.heap.size, 0, none⟩) 1 1, .int .i64 1, .int .i64 0, .string ⟨#[120]⟩, .int .i64 0, .slice none 0 0, .slice none 0 0, .slice none 0 0, .slice none 0 0] 51)) := bal (bal (Below.refl _ w) _) _
  have Q := print_any _ (La.later hB) idP _ (id_mem w) ⟨fun d hd => by simp [idP] at hd, by simp [idP, finBs, finB, finE, finEs, finAs, In64]⟩ (by decide)
  rw [id_print] at Q
  simp only [textS, textE] at Q
  rw [show str [105, 100, 32, 61, 32, 92, 32, 120, 32, 45, 62, 32, 120, 32, 59, 10] = ⟨#[105, 100, 32, 61, 32, 92, 32, 120, 32, 45, 62, 32, 120, 32, 59, 10]⟩ from rfl] at Q
  go_enter Tryz.func6, Tryz.ntmps6
  go_wp2_with (go_at_call 5; refine Q.mono ?_; rintro r w1 ⟨rfl, B1⟩)
  go_ret
  exact ⟨rfl, hB.trans (Joins.below_le B1 hB.size)⟩

/-! the text, byte by byte -/
theorem chk_app' : ∀ (x : List UInt8) (a b : UInt8) (y : List UInt8), chk a b (x ++ y) → chk (lasts a b x).1 (lasts a b x).2 y
  | [], a, b, y, h => h
  | c :: x, a, b, y, h => by
    simp only [List.cons_append, chk] at h
    exact chk_app' x b c y h.2.2.2
theorem chk_at {s : List UInt8} (h : chk 0 0 s) (k : Nat) (hk : k < s.length) : ∃ a b, (a, b) = lasts 0 0 (s.take k) ∧ ((s[k]'hk) ≠ 40 ∧ (s[k]'hk) ≠ 41 ∧ (s[k]'hk) ≠ 9 ∧ (s[k]'hk) ≠ 13) ∧ ¬ (b = 45 ∧ (s[k]'hk) = 45) ∧ ((s[k]'hk) = 10 → b = 59 ∧ a = 32) := by
  have e : s = s.take k ++ (s[k]'hk :: s.drop (k + 1)) := by rw [← List.drop_eq_getElem_cons hk, List.take_append_drop]
  rw [e] at h
  have q := chk_app' _ _ _ _ h
  simp only [chk] at q
  exact ⟨_, _, rfl, q.1, q.2.1, q.2.2.1⟩
theorem lasts_succ (s : List UInt8) (k : Nat) (hk : k < s.length) : lasts 0 0 (s.take (k + 1)) = ((lasts 0 0 (s.take k)).2, s[k]'hk) := by
  rw [List.take_succ_eq_append_getElem hk, lasts_app]
  rfl
theorem chk_bytes {s : List UInt8} (h : chk 0 0 s) (k : Nat) (hk : k < s.length) : ((s[k]'hk) ≠ 40 ∧ (s[k]'hk) ≠ 41 ∧ (s[k]'hk) ≠ 9 ∧ (s[k]'hk) ≠ 13) ∧ (∀ h1 : k + 1 < s.length, ¬ ((s[k]'hk) = 45 ∧ (s[k + 1]'h1) = 45)) ∧ ((s[k]'hk) = 10 → 2 ≤ k ∧ (∀ h1 : k - 1 < s.length, (s[k - 1]'h1) = 59) ∧ ∀ h2 : k - 2 < s.length, (s[k - 2]'h2) = 32) := by
  obtain ⟨a, b, e, h1, h2, h3⟩ := chk_at h k hk
  refine ⟨h1, fun hk1 => ?_, fun h10 => ?_⟩
  · obtain ⟨a', b', e', _, h2', _⟩ := chk_at h (k + 1) hk1
    rw [lasts_succ s k hk] at e'
    cases e'
    exact h2'
  · obtain ⟨rfl, rfl⟩ := h3 h10
    match k, hk, e with
    | 0, hk, e => simp [lasts] at e
    | 1, hk, e =>
      rw [lasts_succ s 0 (by omega)] at e
      simp [lasts] at e
    | k + 2, hk, e =>
      rw [lasts_succ s (k + 1) (by omega), lasts_succ s k (by omega)] at e
      simp only [Prod.mk.injEq] at e
      exact ⟨by omega, fun _ => e.2.symm, fun _ => e.1.symm⟩
theorem str_get (l : List UInt8) (k : Nat) (h : k < (str l).size) : (str l)[k]'h = l[k]'(by rw [str_size] at h; exact h) := by
  simp [str]
  rfl
theorem tens_take (s : List UInt8) (k : Nat) (hk : k < s.length) : tens (s.take (k + 1)) = tens (s.take k) + if (s[k]'hk) = 10 then 1 else 0 := by
  rw [List.take_succ_eq_append_getElem hk, tens_app]
  simp [tens]
theorem tens_le (s : List UInt8) : tens s ≤ s.length := by
  induction s with
  | nil => exact Nat.le_refl _
  | cons c r ih => simp only [tens, List.length_cons]; split <;> omega
theorem byte_ne {c d : UInt8} (h : c ≠ d) : (((c.toNat : Nat) : Int) == ((d.toNat : Nat) : Int)) = false := by
  rw [beq_eq_false_iff_ne]
  intro q
  exact h (UInt8.toNat.inj (by omega))


end Go.Proofs.YtofgnpehlheeiaaGreatDoor
