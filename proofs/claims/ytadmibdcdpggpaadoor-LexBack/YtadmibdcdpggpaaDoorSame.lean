/- The document's own comparison of two lists of tokens. -/
import Derived.Test.YtadmibdcdpggpaaDoorScan
namespace Go.Proofs.YtadmibdcdpggpaaDoor
open Go.RowKit
set_option linter.unusedVariables false

/-- A list of tokens lies in memory from a place on. -/
def Lies (w : World) (g off : Nat) (ts : List Tok) : Prop := ∀ (i : Nat) (h : i < ts.length),
  w.cell? ⟨g, off + i * 4, none⟩ = some (.int .i64 (ts[i]'h).kind) ∧ w.cell? ⟨g, off + i * 4 + 1, none⟩ = some (.string (str (ts[i]'h).text)) ∧
  w.cell? ⟨g, off + i * 4 + 2, none⟩ = some (.int .i64 (ts[i]'h).num) ∧ w.cell? ⟨g, off + i * 4 + 3, none⟩ = some (.int .i64 (ts[i]'h).at')

/-- two tokens are the same, with their places or without -/
def sameT (p : Bool) (a b : Tok) : Bool := decide (a.kind = b.kind) && (decide (a.text = b.text) && (decide (a.num = b.num) && (!p || decide (a.at' = b.at'))))
/-- two lists are -/
def sameL (p : Bool) : List Tok → List Tok → Bool
  | [], [] => true
  | a :: x, b :: y => sameT p a b && sameL p x y
  | _, _ => false
theorem sameL_len (p : Bool) : ∀ (x y : List Tok), x.length ≠ y.length → sameL p x y = false
  | [], [], h => absurd rfl h
  | [], _ :: _, _ => rfl
  | _ :: _, [], _ => rfl
  | a :: x, b :: y, h => by
    rw [sameL, sameL_len p x y (by simpa using h), Bool.and_false]
theorem sameL_yes (p : Bool) : ∀ (x y : List Tok), x.length = y.length → (∀ i (h : i < x.length) (h' : i < y.length), sameT p (x[i]'h) (y[i]'h') = true) → sameL p x y = true
  | [], [], _, _ => rfl
  | [], _ :: _, h, _ => by simp at h
  | _ :: _, [], h, _ => by simp at h
  | a :: x, b :: y, h, q => by
    rw [sameL, show sameT p a b = true from q 0 (by simp) (by simp), Bool.true_and]
    exact sameL_yes p x y (by simpa using h) (fun i h1 h2 => by have := q (i + 1) (by simpa using h1) (by simpa using h2); simpa using this)
theorem sameL_no (p : Bool) : ∀ (x y : List Tok) (i : Nat) (h : i < x.length) (h' : i < y.length), sameT p (x[i]'h) (y[i]'h') = false → sameL p x y = false
  | [], _, _, h, _, _ => absurd h (Nat.not_lt_zero _)
  | _ :: _, [], _, _, h, _ => absurd h (Nat.not_lt_zero _)
  | a :: x, b :: y, 0, _, _, q => by rw [sameL, (by simpa using q : sameT p a b = false), Bool.false_and]
  | a :: x, b :: y, i + 1, h, h', q => by
    rw [sameL, sameL_no p x y i (by simpa using h) (by simpa using h') (by simpa using q), Bool.and_false]
theorem str_eqb (a b : List UInt8) : ((str a).toList == (str b).toList) = decide (a = b) := by
  rw [ByteArray.toList_eq, ByteArray.toList_eq, str_list, str_list]
  by_cases h : a = b
  · simp [h]
  · simp [h]

theorem drewB {B : Nat} {w w' : World} (h : Below B w w') (q : Nat) : Below B w (w'.drewN q) := ⟨h.os, h.tape, h.output, h.size, h.block⟩
set_option maxHeartbeats 40000000 in
theorem same_any (w : World) (ga : Option Addr) (gb : Option Addr) (n cap cap' : Nat) (xs ys : List Tok) (la : xs.length = n) (lb : ys.length = n)
    (A : 0 < n → ∃ g off, ga = some ⟨g, off, none⟩ ∧ Lies w g off xs) (B : 0 < n → ∃ g off, gb = some ⟨g, off, none⟩ ∧ Lies w g off ys) (p : Bool) (hn : n ≤ 1000000000000000) :
    Calls Tryd.prog 12 #[.slice ga n cap, .slice gb n cap', .bool p] w fun e w' => e = .returned (.bool (sameL p xs ys)) ∧ Below w.heap.size w w' := by
  obtain ⟨R, hR⟩ : ∃ R, sameL p xs ys = R := ⟨_, rfl⟩
  have HR : Hid (sameL p xs ys = R) := ⟨hR⟩
  rw [hR]
  clear hR
  go_enter Tryd.func12, Tryd.ntmps12
  go_wp2
  go_loopw [7] (fun c wr => ∃ k : Nat, c = .int .i64 k ∧ k ≤ n ∧ Hid (∀ i (h : i < xs.length) (h' : i < ys.length), i < k → sameT p (xs[i]'h) (ys[i]'h') = true) ∧ Below w.heap.size w wr) (fun c _ => n - (intOf c).toNat)
  case atStart => exact ⟨0, rfl, Nat.zero_le _, ⟨fun i _ _ h => absurd h (Nat.not_lt_zero _)⟩, Below.refl _ _⟩
  case round =>
    obtain ⟨k, rfl, hk, HA, BR⟩ := hrel
    by_cases hlt : k < n
    · obtain ⟨g, off, rfl, A'⟩ := A (by omega)
      obtain ⟨g', off', rfl, B'⟩ := B (by omega)
      clear A B
      obtain ⟨a0, a1, a2, a3⟩ := A' k (by omega)
      obtain ⟨b0, b1, b2, b3⟩ := B' k (by omega)
      have a0 := (BR.cell (World.block_lt_of_cell? _ _ a0)).trans a0
      have a1 := (BR.cell (World.block_lt_of_cell? _ _ a1)).trans a1
      have a2 := (BR.cell (World.block_lt_of_cell? _ _ a2)).trans a2
      have a3 := (BR.cell (World.block_lt_of_cell? _ _ a3)).trans a3
      have b0 := (BR.cell (World.block_lt_of_cell? _ _ b0)).trans b0
      have b1 := (BR.cell (World.block_lt_of_cell? _ _ b1)).trans b1
      have b2 := (BR.cell (World.block_lt_of_cell? _ _ b2)).trans b2
      have b3 := (BR.cell (World.block_lt_of_cell? _ _ b3)).trans b3
      have HT : Hid (sameT p (xs[k]'(by omega)) (ys[k]'(by omega)) = true → ∀ i (h : i < xs.length) (h' : i < ys.length), i < k + 1 → sameT p (xs[i]'h) (ys[i]'h') = true) := ⟨fun q i h h' hi => by
        rcases Nat.lt_or_ge i k with t | t
        · exact HA.out i h h' t
        · obtain rfl : i = k := by omega
          exact q⟩
      have HN : Hid (sameT p (xs[k]'(by omega)) (ys[k]'(by omega)) = false → R = false) := ⟨fun q => by rw [← HR.out]; exact sameL_no p xs ys k (by omega) (by omega) q⟩
      generalize xs[k]'(by omega) = ta at *
      generalize ys[k]'(by omega) = tb at *
      obtain ⟨ka, xa, na, pa⟩ := ta
      obtain ⟨kb, xb, nb, pb⟩ := tb
      have eT : ((str xa).toList == (str xb).toList) = decide (xa = xb) := str_eqb xa xb
      simp only at a0 a1 a2 a3 b0 b1 b2 b3
      clear A' B' HA HR la lb
      simp only [sameT] at HT HN
      have hlt' : (k : Int) < n := by omega
      by_cases h1 : ka = kb
      · subst h1
        by_cases h2 : xa = xb
        · subst h2
          have d2 : ((str xa).toList == (str xa).toList) = true := by simp
          clear eT
          by_cases h3 : na = nb
          · subst h3
            cases p
            · go_wp2
              go_quiet (fail)
              go_wp2
              go_roundw
              case rel => exact ⟨k + 1, by go_num, by omega, ⟨HT.out (by simp)⟩, drewB BR _⟩
              case measure => simp [intOf]; omega
            · by_cases h4 : pa = pb
              · subst h4
                go_wp2
                go_quiet (fail)
                go_wp2
                go_roundw
                case rel => exact ⟨k + 1, by go_num, by omega, ⟨HT.out (by simp)⟩, drewB BR _⟩
                case measure => simp [intOf]; omega
              · have h4' : ¬ (pa : Int) = pb := by omega
                have d4 : ((pa : Int) == pb) = false := by simp [h4']
                have d4' : ((pa : Int) != pb) = true := by simp [h4']
                go_wp2
                go_quiet (fail)
                go_wp2
                go_ret
                exact ⟨by rw [HN.out (by simp [*])]; rfl, drewB BR _⟩
          · have d3 : (na == nb) = false := by simp [h3]
            have d3' : (na != nb) = true := by simp [h3]
            go_wp2
            go_quiet (fail)
            go_wp2
            go_ret
            exact ⟨by rw [HN.out (by simp [*])]; rfl, drewB BR _⟩
        · have d2 : ((str xa).toList == (str xb).toList) = false := by rw [eT]; simp [h2]
          clear eT
          go_wp2
          go_quiet (fail)
          go_wp2
          go_ret
          exact ⟨by rw [HN.out (by simp [*])]; rfl, drewB BR _⟩
      · have d1 : (ka == kb) = false := by simp [h1]
        have d1' : (ka != kb) = true := by simp [h1]
        clear eT
        go_wp2
        go_quiet (fail)
        go_wp2
        go_ret
        exact ⟨by rw [HN.out (by simp [*])]; rfl, drewB BR _⟩
    · obtain rfl : k = n := by omega
      have HX : Hid (R = true) := ⟨by rw [← HR.out]; exact sameL_yes p xs ys (by omega) (fun i h h' => HA.out i h h' (by omega))⟩
      clear A B HA HR la lb
      go_wp2
      go_ret
      exact ⟨by rw [HX.out]; rfl, BR⟩

end Go.Proofs.YtadmibdcdpggpaaDoor
