/- A space, as plain numbers: what was laid, how much room there is, which bits stand for what begins where. Nothing here speaks of a program. -/
import Derived.Test.YtbdoekffadmejaaGreatDoorScan
import Derived.Laws.CopyOwn
namespace Go.Proofs.YtbdoekffadmejaaGreatDoor.Bp
open Go.RowKit
set_option linter.unusedVariables false

/-- How many blocks so many words need. -/
def blk (n : Nat) : Nat := (n + 63) / 64
/-- How many words the block has left that ends behind nx. -/
def lft (nx : Nat) : Nat := blk nx * 64 - nx
theorem blk_le (n : Nat) : n ≤ blk n * 64 := by unfold blk; omega
theorem blk_lt (n : Nat) : blk n * 64 < n + 64 := by unfold blk; omega
theorem lft_lt (n : Nat) : lft n < 64 := by unfold lft blk; omega

/-- The bits of a block at which something begins. -/
def mask (l : List (Nat × Nat)) (b : Nat) : Nat := l.foldl (fun m x => if x.1 / 64 = b then m ||| 2 ^ (x.1 % 64) else m) 0
theorem mask_nil (b : Nat) : mask [] b = 0 := rfl
theorem mask_snoc (l : List (Nat × Nat)) (x : Nat × Nat) (b : Nat) : mask (l ++ [x]) b = if x.1 / 64 = b then mask l b ||| 2 ^ (x.1 % 64) else mask l b := by simp [mask]
theorem mask_lt (l : List (Nat × Nat)) (b : Nat) : mask l b < 18446744073709551616 := by
  have : ∀ (l : List (Nat × Nat)) (m : Nat), m < 2 ^ 64 → l.foldl (fun m x => if x.1 / 64 = b then m ||| 2 ^ (x.1 % 64) else m) m < 2 ^ 64 := by
    intro l
    induction l with
    | nil => intro m h; exact h
    | cons x l ih =>
      intro m h
      simp only [List.foldl_cons]
      apply ih
      split
      · exact Nat.or_lt_two_pow h (Nat.pow_lt_pow_right (by omega) (by omega))
      · exact h
  exact this l 0 (by decide)
theorem mask_bit (l : List (Nat × Nat)) (b i : Nat) : (mask l b).testBit i = l.any (fun x => decide (x.1 / 64 = b ∧ x.1 % 64 = i)) := by
  have : ∀ (l : List (Nat × Nat)) (m : Nat), (l.foldl (fun m x => if x.1 / 64 = b then m ||| 2 ^ (x.1 % 64) else m) m).testBit i = (m.testBit i || l.any (fun x => decide (x.1 / 64 = b ∧ x.1 % 64 = i))) := by
    intro l
    induction l with
    | nil => intro m; simp
    | cons x l ih =>
      intro m
      simp only [List.foldl_cons, ih, List.any_cons]
      by_cases e : x.1 / 64 = b
      · simp only [e, if_true, Nat.testBit_or, Nat.testBit_two_pow, true_and, Bool.or_assoc]
      · simp [e]
  have h := this l 0
  simpa [mask] using h
/-- Is that the place of what was laid? -/
def hasL (l : List (Nat × Nat)) (i : Nat) : Bool := l.any (fun x => decide (x.1 = i))
theorem mask_has (l : List (Nat × Nat)) (i : Nat) : decide (mask l (i / 64) / 2 ^ (i % 64) % 2 = 1) = hasL l i := by
  have h := mask_bit l (i / 64) (i % 64)
  rw [Nat.testBit_eq_decide_div_mod_eq] at h
  rw [h]
  unfold hasL
  congr 1
  funext x
  congr 1
  apply propext
  constructor
  · intro h; omega
  · intro h; subst h; exact ⟨rfl, rfl⟩

/-- A space: what was laid, the place behind what was laid last, how many words, how many blocks. -/
structure S0 where
  l : List (Nat × Nat)
  nx : Nat
  us : Nat
  bl : Nat
def S0.none : S0 := ⟨[], 0, 0, 0⟩
def S0.add (S : S0) (i n : Nat) : S0 := ⟨S.l ++ [(i, n)], if n ≤ 64 then i + n else S.nx, S.us + n, if i % 64 = 0 then S.bl + blk n else S.bl⟩
/-- Where so many words can be laid, and what the pool's row is then: M words has the arena. -/
def room (f : Nat → Int) (N M nx n : Nat) : Option (Nat × (Nat → Int)) :=
  if n ≤ lft nx then some (nx, f) else
  match fit f N (blk n) with
  | .none => .none
  | some s => if M < (s.1 + blk n) * 64 then .none else some (s.1 * 64, mark f s.1 (blk n) s.1)
/-- The number and the error that Lay answers. -/
def layA (f : Nat → Int) (N M nx : Nat) (n : Int) : Int := if 1 ≤ n ∧ n ≤ 4096 then (match room f N M nx n.toNat with | .none => 0 | some x => x.1) else 0
def layE (f : Nat → Int) (N M nx : Nat) (n : Int) : Int := if 1 ≤ n ∧ n ≤ 4096 then (match room f N M nx n.toNat with | .none => 5 | some _ => 0) else 7
def layF (f : Nat → Int) (N M nx : Nat) (n : Int) : Nat → Int := if 1 ≤ n ∧ n ≤ 4096 then (match room f N M nx n.toNat with | .none => f | some x => x.2) else f
def layS (f : Nat → Int) (N M : Nat) (S : S0) (n : Int) : S0 := if 1 ≤ n ∧ n ≤ 4096 then (match room f N M S.nx n.toNat with | .none => S | some x => S.add x.1 n.toNat) else S
/-- .. and the arena's words. -/
def layW (f : Nat → Int) (N M nx : Nat) (n : Int) (xs : List Int) : List Int := if 1 ≤ n ∧ n ≤ 4096 then (match room f N M nx n.toNat with | .none => xs | some x => splice xs x.1 (List.replicate n.toNat 0)) else xs
/-- A space that fits its arena. -/
structure Fit (S : S0) (M : Nat) : Prop where
  nx : blk S.nx * 64 ≤ M
  us : S.us ≤ S.l.length * 4096
  bl : S.bl ≤ S.l.length * 64
  ats : ∀ x ∈ S.l, x.1 ≤ M
theorem Fit.none (M : Nat) : Fit S0.none M := ⟨by simp [S0.none, blk], by simp [S0.none], by simp [S0.none], fun x h => by simp [S0.none] at h⟩
theorem room_in {f : Nat → Int} {N M nx n : Nat} {x : Nat × (Nat → Int)} (h : room f N M nx n = some x) (hM : blk nx * 64 ≤ M) : x.1 + n ≤ M ∧ (n ≤ 64 → blk (x.1 + n) * 64 ≤ M) := by
  unfold room at h
  split at h
  · rename_i hl
    simp only [Option.some.injEq] at h
    subst h
    unfold lft blk at *
    constructor
    · simp only; omega
    · intro _; simp only; omega
  · split at h
    · cases h
    · rename_i s e
      split at h
      · cases h
      · rename_i hm
        simp only [Option.some.injEq] at h
        subst h
        unfold blk at *
        constructor
        · simp only; omega
        · intro _; simp only; omega
theorem Fit.add {f : Nat → Int} {N M n : Nat} {S : S0} (F : Fit S M) {x : Nat × (Nat → Int)} (h : room f N M S.nx n = some x) (hn : n ≤ 4096) : Fit (S.add x.1 n) M := by
  obtain ⟨h1, h2⟩ := room_in h F.nx
  have a := F.nx
  have b := F.us
  have c := F.bl
  refine ⟨?_, ?_, ?_, ?_⟩
  · unfold S0.add; simp only; split
    · exact h2 (by assumption)
    · exact a
  · unfold S0.add; simp only [List.length_append, List.length_cons, List.length_nil]; omega
  · have := blk_lt n
    unfold S0.add; simp only [List.length_append, List.length_cons, List.length_nil]; split <;> omega
  · intro y hy
    unfold S0.add at hy
    simp only [List.mem_append, List.mem_cons, List.not_mem_nil, or_false] at hy
    rcases hy with hy | rfl
    · exact F.ats y hy
    · simp only; omega
theorem room_good {f : Nat → Int} {N M nx n : Nat} {x : Nat × (Nat → Int)} (G : Good f N) (h : room f N M nx n = some x) : Good x.2 N := by
  unfold room at h
  split at h
  · simp only [Option.some.injEq] at h; subst h; exact G
  · split at h
    · cases h
    · rename_i s e
      split at h
      · cases h
      · simp only [Option.some.injEq] at h
        subst h
        obtain ⟨m, l⟩ := fit_some e
        have := run_mem m
        exact good_alloc G (fun j a b => this.2.2 j a (by omega))
end Go.Proofs.YtbdoekffadmejaaGreatDoor.Bp
