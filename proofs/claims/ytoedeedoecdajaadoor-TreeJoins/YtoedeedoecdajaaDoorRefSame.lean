/- The document's comparison: texts, the first of a list, expressions. -/
import Derived.Test.YtoedeedoecdajaaDoorWithinA
import Derived.Deep.QuietTactic
import Derived.Deep.RegionHeld3
import Derived.BigQuiet
namespace Go.Proofs.YtoedeedoecdajaaDoor
open Go.RowKit
set_option linter.unusedVariables false
set_option linter.unusedSimpArgs false


theorem str_eqb' (a b : List UInt8) : ((str a).toList == (str b).toList) = decide (a = b) := by
  rw [ByteArray.toList_eq, ByteArray.toList_eq, str_list, str_list]
  by_cases h : a = b
  · simp [h]
  · simp [h]
theorem keeps_drew {ok : Nat → Prop} (w : World) (q : Nat) : Keeps ok ok w (w.drewN q) := ⟨fun _ _ _ _ h => h, fun _ h => h⟩
theorem list_first {α : Type} {a b : List α} {k : Nat} (hk : k < a.length) (hk' : k < b.length) (h : a[k]'hk ≠ b[k]'hk') : a ≠ b := by
  rintro rfl
  exact h rfl

set_option maxHeartbeats 8000000 in
theorem texts_any (w : World) (a b : List (List UInt8)) (va vb : Value) (A : IsRow w anyB (strC a) a.length va) (B : IsRow w anyB (strC b) b.length vb) :
    Calls Tryd.prog 31 #[va, vb] w fun e w' => e = .returned (.bool (decide (a = b))) ∧ ∃ q, w' = w.drewN q := by
  have A0 := A
  have B0 := B
  obtain ⟨ga, ca, rfl, ⟨_, hn⟩, _⟩ := A
  obtain ⟨gb, cb, rfl, ⟨_, hm⟩, _⟩ := B
  obtain ⟨R, hR⟩ : ∃ R, decide (a = b) = R := ⟨_, rfl⟩
  have HR : Hid (decide (a = b) = R) := ⟨hR⟩
  rw [hR]
  clear hR
  obtain ⟨n, hnn⟩ : ∃ n, a.length = n := ⟨_, rfl⟩
  obtain ⟨m, hmm⟩ : ∃ m, b.length = m := ⟨_, rfl⟩
  rw [hnn] at A0 hn ⊢
  rw [hmm] at B0 hm ⊢
  by_cases hl : n = m
  · subst hl
    have HA : Hid (a.length = n) := ⟨hnn⟩
    have HB : Hid (b.length = n) := ⟨hmm⟩
    clear hnn hmm
    go_enter Tryd.func31, Tryd.ntmps31
    go_wp2
    go_loopw [5] (fun c wr => ∃ k : Nat, c = .int .i64 k ∧ k ≤ n ∧ Hid (∀ i (h : i < a.length) (h' : i < b.length), i < k → a[i]'h = b[i]'h') ∧ ∃ q, wr = w.drewN q) (fun c _ => n - (intOf c).toNat)
    case atStart => exact ⟨0, rfl, Nat.zero_le _, ⟨fun i _ _ h => absurd h (Nat.not_lt_zero _)⟩, 0, rfl⟩
    case round =>
      obtain ⟨k, rfl, hk, HK, q, rfl⟩ := hrel
      by_cases hlt : k < n
      · obtain ⟨g, off, rfl, hx⟩ := row_cell A0 (by omega)
        obtain ⟨g', off', rfl, hy⟩ := row_cell B0 (by omega)
        have ka : k < a.length := by rw [HA.out]; exact hlt
        have kb : k < b.length := by rw [HB.out]; exact hlt
        have x0 := hx k (.string (str (a[k]'ka))) (by simp [strC, ka])
        have y0 := hy k (.string (str (b[k]'kb))) (by simp [strC, kb])
        clear hx hy A0 B0
        have hlt' : (k : Int) < n := by omega
        have HT : Hid (a[k]'ka = b[k]'kb → ∀ i (h : i < a.length) (h' : i < b.length), i < k + 1 → a[i]'h = b[i]'h') := ⟨fun q i h h' hi => by
          rcases Nat.lt_or_ge i k with t | t
          · exact HK.out i h h' t
          · obtain rfl : i = k := by omega
            exact q⟩
        have HN : Hid (a[k]'ka ≠ b[k]'kb → R = false) := ⟨fun q => by rw [← HR.out]; exact decide_eq_false (list_first ka kb q)⟩
        generalize a[k]'ka = s at *
        generalize b[k]'kb = t at *
        by_cases h1 : s = t
        · subst h1
          have d2 : ((str s).toList == (str s).toList) = true := by simp
          go_wp2
          go_quiet (fail)
          go_wp2
          go_roundw
          case rel => exact ⟨k + 1, by go_num, by omega, ⟨HT.out trivial⟩, _, rfl⟩
          case measure => simp [intOf]; omega
        · have d2 : ((str s).toList == (str t).toList) = false := by rw [str_eqb']; simp [h1]
          go_wp2
          go_quiet (fail)
          go_wp2
          go_ret
          exact ⟨by rw [HN.out h1]; rfl, _, World.drewN_drewN _ _ _⟩
      · obtain rfl : k = n := by omega
        go_wp2
        go_ret
        exact ⟨by rw [← HR.out, decide_eq_true (List.ext_getElem (by rw [HA.out, HB.out]) (fun i h h' => HK.out i h h' (by rw [← HA.out]; exact h)))]; rfl, _, rfl⟩
  · go_enter Tryd.func31, Tryd.ntmps31
    go_wp2
    go_ret
    exact ⟨by rw [← HR.out, decide_eq_false (fun e => hl (by rw [← hnn, ← hmm, e]))]; rfl, 0, rfl⟩


def ExpsOK (x y : E) : Prop := ∀ w ca cb, isE w anyB x ca → isE w anyB y cb → Calls Tryd.prog 32 #[.agg ca.toArray, .agg cb.toArray] w fun e w' => e = .returned (.bool (sameE x y)) ∧ Below w.heap.size w w'

set_option maxHeartbeats 8000000 in
theorem kid_any (w : World) (a b : List E) (va vb : Value) (xa xb : List Value) (A : IsRow w anyB xa a.length va) (A' : isEs w anyB a xa) (B : IsRow w anyB xb b.length vb) (B' : isEs w anyB b xb)
    (H : ∀ x ∈ a, ∀ y, sameE x y = true → ExpsOK x y) (hsK : sameK a b = true) : Calls Tryd.prog 54 #[va, vb] w fun e w' => e = .returned (.bool (sameK a b)) ∧ Below w.heap.size w w' := by
  have A0 := A
  have B0 := B
  obtain ⟨ga, ca, rfl, ⟨_, hn⟩, _⟩ := A
  obtain ⟨gb, cb, rfl, ⟨_, hm⟩, _⟩ := B
  cases a with
  | nil =>
    cases b with
    | nil =>
      simp only [List.length_nil] at *
      go_enter Tryd.func54, Tryd.ntmps54
      go_wp2
      go_ret
      exact ⟨by simp [sameK], Below.refl _ _⟩
    | cons y s =>
      go_enter Tryd.func54, Tryd.ntmps54
      go_wp2
      go_ret
      exact ⟨by simp [sameK]; omega, Below.refl _ _⟩
  | cons x r =>
    cases b with
    | nil =>
      go_enter Tryd.func54, Tryd.ntmps54
      go_wp2
      go_ret
      exact ⟨by simp [sameK]; omega, Below.refl _ _⟩
    | cons y s =>
      obtain ⟨g, off, rfl, hx⟩ := row_cell A0 (by simp)
      obtain ⟨g', off', rfl, hy⟩ := row_cell B0 (by simp)
      have Hx := H x (by simp) y (by simpa only [sameK] using hsK)
      clear A0 B0 H
      simp only [isEs] at A' B'
      obtain ⟨c1, c2, rfl, hc, _⟩ := A'
      obtain ⟨d1, d2, rfl, hd, _⟩ := B'
      have Q : ∀ q, Calls Tryd.prog 32 #[.agg c1.toArray, .agg d1.toArray] (w.drewN q) fun e w' => e = .returned (.bool (sameE x y)) ∧ Below w.heap.size w w' := fun q => (Hx (w.drewN q) c1 d1 (isE_keeps (keeps_drew w q) x c1 hc) (isE_keeps (keeps_drew w q) y d1 hd)).mono fun e w' ⟨a, b⟩ => ⟨a, ⟨b.os, b.tape, b.output, b.size, b.block⟩⟩
      rw [show sameK (x :: r) (y :: s) = sameE x y by simp only [sameK]]
      generalize sameE x y = R at *
      obtain ⟨k, p, n, m, ts, bs, ks, al⟩ := x
      obtain ⟨k', p', n', m', ts', bs', ks', al'⟩ := y
      simp only [isE] at hc hd
      obtain ⟨u4, u5, u6, u7, _, _, _, rfl, _⟩ := hc
      obtain ⟨v4, v5, v6, v7, _, _, _, rfl, _⟩ := hd
      have x0 := hx 0 _ rfl
      have x1 := hx 1 _ rfl
      have x2 := hx 2 _ rfl
      have x3 := hx 3 _ rfl
      have x4 := hx 4 _ rfl
      have x5 := hx 5 _ rfl
      have x6 := hx 6 _ rfl
      have x7 := hx 7 _ rfl
      have y0 := hy 0 _ rfl
      have y1 := hy 1 _ rfl
      have y2 := hy 2 _ rfl
      have y3 := hy 3 _ rfl
      have y4 := hy 4 _ rfl
      have y5 := hy 5 _ rfl
      have y6 := hy 6 _ rfl
      have y7 := hy 7 _ rfl
      clear hx hy Hx
      simp only [List.length_cons] at hn hm ⊢
      generalize r.length = nr at *
      generalize s.length = ns at *
      simp only [Nat.add_zero] at x0 y0
      have z1 : ((nr : Int) + 1 == 0) = false := by simp; omega
      have z2 : ((ns : Int) + 1 == 0) = false := by simp; omega
      go_enter Tryd.func54, Tryd.ntmps54
      go_wp2
      go_region_held3 (fun w' => w'.cell? ⟨g, off, none⟩ = some (.int .i64 k) ∧ w'.cell? ⟨g, off + 1, none⟩ = some (.int .i64 p) ∧ w'.cell? ⟨g, off + 2, none⟩ = some (.string (str n)) ∧ w'.cell? ⟨g, off + 3, none⟩ = some (.int .i64 m) ∧ w'.cell? ⟨g, off + 4, none⟩ = some (u4) ∧ w'.cell? ⟨g, off + 5, none⟩ = some (u5) ∧ w'.cell? ⟨g, off + 6, none⟩ = some (u6) ∧ w'.cell? ⟨g, off + 7, none⟩ = some (u7) ∧ w'.cell? ⟨g', off', none⟩ = some (.int .i64 k') ∧ w'.cell? ⟨g', off' + 1, none⟩ = some (.int .i64 p') ∧ w'.cell? ⟨g', off' + 2, none⟩ = some (.string (str n')) ∧ w'.cell? ⟨g', off' + 3, none⟩ = some (.int .i64 m') ∧ w'.cell? ⟨g', off' + 4, none⟩ = some (v4) ∧ w'.cell? ⟨g', off' + 5, none⟩ = some (v5) ∧ w'.cell? ⟨g', off' + 6, none⟩ = some (v6) ∧ w'.cell? ⟨g', off' + 7, none⟩ = some (v7)) (go_keep) (first
        | (go_at_call 32; refine (Q 1).mono ?_; rintro e w7 ⟨rfl, B7⟩; have X0 := (B7.cell (World.block_lt_of_cell? _ _ x0)).trans x0; have Y0 := (B7.cell (World.block_lt_of_cell? _ _ y0)).trans y0; have X1 := (B7.cell (World.block_lt_of_cell? _ _ x1)).trans x1; have Y1 := (B7.cell (World.block_lt_of_cell? _ _ y1)).trans y1; have X2 := (B7.cell (World.block_lt_of_cell? _ _ x2)).trans x2; have Y2 := (B7.cell (World.block_lt_of_cell? _ _ y2)).trans y2; have X3 := (B7.cell (World.block_lt_of_cell? _ _ x3)).trans x3; have Y3 := (B7.cell (World.block_lt_of_cell? _ _ y3)).trans y3; have X4 := (B7.cell (World.block_lt_of_cell? _ _ x4)).trans x4; have Y4 := (B7.cell (World.block_lt_of_cell? _ _ y4)).trans y4; have X5 := (B7.cell (World.block_lt_of_cell? _ _ x5)).trans x5; have Y5 := (B7.cell (World.block_lt_of_cell? _ _ y5)).trans y5; have X6 := (B7.cell (World.block_lt_of_cell? _ _ x6)).trans x6; have Y6 := (B7.cell (World.block_lt_of_cell? _ _ y6)).trans y6; have X7 := (B7.cell (World.block_lt_of_cell? _ _ x7)).trans x7; have Y7 := (B7.cell (World.block_lt_of_cell? _ _ y7)).trans y7))
      all_goals go_wp2
      all_goals go_ret
      all_goals exact ⟨rfl, B7⟩



theorem two_below (w : World) (o o' : Obj) : Below w.heap.size w ((w.alloc o).alloc o') := ((Below.refl _ w).alloc (Nat.le_refl _) o).alloc (by simp) o'
theorem new_11 (w : World) (o o' : Obj) : ((w.alloc o).alloc o').heap[w.heap.size + 1]? = some o' := by have := heap_alloc_new (w.alloc o) o'; simpa using this
theorem new_0 (w : World) (o o' : Obj) : ((w.alloc o).alloc o').heap[w.heap.size]? = some o := (((Below.refl _ (w.alloc o)).alloc (Nat.le_refl _) o').block w.heap.size (by simp)).trans (heap_alloc_new w o)
theorem cell_0 (w : World) (c c' : Array Value) (t t' : TypeId) (j : Nat) : ((w.alloc (.cells c t)).alloc (.cells c' t')).cell? ⟨w.heap.size, j, none⟩ = c[j]? := by unfold World.cell?; simp only [new_0]; rfl
theorem cell_1 (w : World) (c c' : Array Value) (t t' : TypeId) (j : Nat) : ((w.alloc (.cells c t)).alloc (.cells c' t')).cell? ⟨w.heap.size + 1, j, none⟩ = c'[j]? := by unfold World.cell?; simp only [new_11]; rfl
def BindsOK (a b : List B) : Prop := ∀ w va vb xa xb, IsRow w anyB xa a.length va → isBs w anyB a xa → IsRow w anyB xb b.length vb → isBs w anyB b xb →
  Calls Tryd.prog 19 #[va, vb] w fun e w' => e = .returned (.bool (sameBs a b)) ∧ Below w.heap.size w w'
def AltsOK (a b : List A) : Prop := ∀ w va vb xa xb, IsRow w anyB xa a.length va → isAs w anyB a xa → IsRow w anyB xb b.length vb → isAs w anyB b xb →
  Calls Tryd.prog 55 #[va, vb] w fun e w' => e = .returned (.bool (sameAs a b)) ∧ Below w.heap.size w w'
def KidOK (a b : List E) : Prop := ∀ w va vb xa xb, IsRow w anyB xa a.length va → isEs w anyB a xa → IsRow w anyB xb b.length vb → isEs w anyB b xb →
  Calls Tryd.prog 54 #[va, vb] w fun e w' => e = .returned (.bool (sameK a b)) ∧ Below w.heap.size w w'

set_option maxHeartbeats 16000000 in
theorem exps_other {k p m p' m' k' : Int} {n n' : ByteArray} (w : World) (v4 v5 v6 v7 u4 u5 u6 u7 : Value) (h : k ≠ k' ∨ (k = k' ∧ k ≠ 1 ∧ k ≠ 2 ∧ k ≠ 3 ∧ k ≠ 5 ∧ k ≠ 6)) :
    Calls Tryd.prog 32 #[.agg #[.int .i64 k, .int .i64 p, .string n, .int .i64 m, v4, v5, v6, v7], .agg #[.int .i64 k', .int .i64 p', .string n', .int .i64 m', u4, u5, u6, u7]] w fun e w' =>
      e = .returned (.bool (if k ≠ k' then false else if k = 4 then decide (m = m') else true)) ∧ Below w.heap.size w w' := by
  rcases h with h | ⟨rfl, h1, h2, h3, h5, h6⟩
  · have d : (k == k') = false := by simp [h]
    have d' : (k != k') = true := by simp [h]
    rw [if_pos h]
    go_enter Tryd.func32, Tryd.ntmps32
    go_wp2
    go_ret
    exact ⟨rfl, two_below _ _ _⟩
  · have d1 : (k == 1) = false := by simp [h1]
    have d2 : (k == 2) = false := by simp [h2]
    have d3 : (k == 3) = false := by simp [h3]
    have d5 : (k == 5) = false := by simp [h5]
    have d6 : (k == 6) = false := by simp [h6]
    rw [if_neg (fun z => z rfl)]
    by_cases h4 : k = 4
    · subst h4
      go_enter Tryd.func32, Tryd.ntmps32
      go_wp2
      go_ret
      exact ⟨by by_cases z : m = m' <;> simp [z], two_below _ _ _⟩
    · have d4 : (k == 4) = false := by simp [h4]
      rw [if_neg h4]
      go_enter Tryd.func32, Tryd.ntmps32
      go_wp2
      go_ret
      exact ⟨rfl, two_below _ _ _⟩

set_option maxHeartbeats 16000000 in
theorem exps_let {p m p' m' : Int} {n n' : ByteArray} (w : World) (v4 v5 v6 v7 u4 u5 u6 u7 : Value) (R S : Bool)
    (HB : ∀ W, Below w.heap.size w W → Calls Tryd.prog 19 #[v5, u5] W fun e w' => e = .returned (.bool R) ∧ Below W.heap.size W w')
    (HK : ∀ W, Below w.heap.size w W → Calls Tryd.prog 54 #[v6, u6] W fun e w' => e = .returned (.bool S) ∧ Below W.heap.size W w') :
    Calls Tryd.prog 32 #[.agg #[.int .i64 5, .int .i64 p, .string n, .int .i64 m, v4, v5, v6, v7], .agg #[.int .i64 5, .int .i64 p', .string n', .int .i64 m', u4, u5, u6, u7]] w fun e w' =>
      e = .returned (.bool (R && S)) ∧ Below w.heap.size w w' := by
  have B0 := two_below w (Obj.cells #[Value.int .i64 5, .int .i64 p, .string n, .int .i64 m, v4, v5, v6, v7] 46) (Obj.cells #[Value.int .i64 5, .int .i64 p', .string n', .int .i64 m', u4, u5, u6, u7] 46)
  have c6 : ((w.alloc (Obj.cells #[Value.int .i64 5, .int .i64 p, .string n, .int .i64 m, v4, v5, v6, v7] 46)).alloc (Obj.cells #[Value.int .i64 5, .int .i64 p', .string n', .int .i64 m', u4, u5, u6, u7] 46)).cell? ⟨w.heap.size, 6, none⟩ = some v6 := by rw [cell_0]; rfl
  have e6 : ((w.alloc (Obj.cells #[Value.int .i64 5, .int .i64 p, .string n, .int .i64 m, v4, v5, v6, v7] 46)).alloc (Obj.cells #[Value.int .i64 5, .int .i64 p', .string n', .int .i64 m', u4, u5, u6, u7] 46)).cell? ⟨w.heap.size + 1, 6, none⟩ = some u6 := by rw [cell_1]; rfl
  cases R
  · go_enter Tryd.func32, Tryd.ntmps32
    go_wp2_with (first
      | (go_at_call 19; refine (HB _ B0).mono ?_; rintro e w1 ⟨rfl, B1⟩; have C6 := (B1.cell (World.block_lt_of_cell? _ _ c6)).trans c6; have E6 := (B1.cell (World.block_lt_of_cell? _ _ e6)).trans e6)
      | (go_at_call 54; refine (HK _ (B0.trans (Joins.below_le B1 B0.size))).mono ?_; rintro e w2 ⟨rfl, B2⟩))
    go_ret
    exact ⟨rfl, B0.trans (Joins.below_le B1 B0.size)⟩
  · go_enter Tryd.func32, Tryd.ntmps32
    go_wp2_with (first
      | (go_at_call 19; refine (HB _ B0).mono ?_; rintro e w1 ⟨rfl, B1⟩; have C6 := (B1.cell (World.block_lt_of_cell? _ _ c6)).trans c6; have E6 := (B1.cell (World.block_lt_of_cell? _ _ e6)).trans e6)
      | (go_at_call 54; refine (HK _ (B0.trans (Joins.below_le B1 B0.size))).mono ?_; rintro e w2 ⟨rfl, B2⟩))
    go_ret
    exact ⟨rfl, (B0.trans (Joins.below_le B1 B0.size)).trans (Joins.below_le B2 (B0.trans (Joins.below_le B1 B0.size)).size)⟩

set_option maxHeartbeats 16000000 in
theorem exps_case {p m p' m' : Int} {n n' : ByteArray} (w : World) (v4 v5 v6 v7 u4 u5 u6 u7 : Value) (R S : Bool)
    (HB : ∀ W, Below w.heap.size w W → Calls Tryd.prog 54 #[v6, u6] W fun e w' => e = .returned (.bool R) ∧ Below W.heap.size W w')
    (HK : ∀ W, Below w.heap.size w W → Calls Tryd.prog 55 #[v7, u7] W fun e w' => e = .returned (.bool S) ∧ Below W.heap.size W w') :
    Calls Tryd.prog 32 #[.agg #[.int .i64 6, .int .i64 p, .string n, .int .i64 m, v4, v5, v6, v7], .agg #[.int .i64 6, .int .i64 p', .string n', .int .i64 m', u4, u5, u6, u7]] w fun e w' =>
      e = .returned (.bool (R && S)) ∧ Below w.heap.size w w' := by
  have B0 := two_below w (Obj.cells #[Value.int .i64 6, .int .i64 p, .string n, .int .i64 m, v4, v5, v6, v7] 46) (Obj.cells #[Value.int .i64 6, .int .i64 p', .string n', .int .i64 m', u4, u5, u6, u7] 46)
  have c6 : ((w.alloc (Obj.cells #[Value.int .i64 6, .int .i64 p, .string n, .int .i64 m, v4, v5, v6, v7] 46)).alloc (Obj.cells #[Value.int .i64 6, .int .i64 p', .string n', .int .i64 m', u4, u5, u6, u7] 46)).cell? ⟨w.heap.size, 7, none⟩ = some v7 := by rw [cell_0]; rfl
  have e6 : ((w.alloc (Obj.cells #[Value.int .i64 6, .int .i64 p, .string n, .int .i64 m, v4, v5, v6, v7] 46)).alloc (Obj.cells #[Value.int .i64 6, .int .i64 p', .string n', .int .i64 m', u4, u5, u6, u7] 46)).cell? ⟨w.heap.size + 1, 7, none⟩ = some u7 := by rw [cell_1]; rfl
  cases R
  · go_enter Tryd.func32, Tryd.ntmps32
    go_wp2_with (first
      | (go_at_call 54; refine (HB _ B0).mono ?_; rintro e w1 ⟨rfl, B1⟩; have C6 := (B1.cell (World.block_lt_of_cell? _ _ c6)).trans c6; have E6 := (B1.cell (World.block_lt_of_cell? _ _ e6)).trans e6)
      | (go_at_call 55; refine (HK _ (B0.trans (Joins.below_le B1 B0.size))).mono ?_; rintro e w2 ⟨rfl, B2⟩))
    go_ret
    exact ⟨rfl, B0.trans (Joins.below_le B1 B0.size)⟩
  · go_enter Tryd.func32, Tryd.ntmps32
    go_wp2_with (first
      | (go_at_call 54; refine (HB _ B0).mono ?_; rintro e w1 ⟨rfl, B1⟩; have C6 := (B1.cell (World.block_lt_of_cell? _ _ c6)).trans c6; have E6 := (B1.cell (World.block_lt_of_cell? _ _ e6)).trans e6)
      | (go_at_call 55; refine (HK _ (B0.trans (Joins.below_le B1 B0.size))).mono ?_; rintro e w2 ⟨rfl, B2⟩))
    go_ret
    exact ⟨rfl, (B0.trans (Joins.below_le B1 B0.size)).trans (Joins.below_le B2 (B0.trans (Joins.below_le B1 B0.size)).size)⟩



theorem sameAtm_len : ∀ (x y : List Atm), x.length ≠ y.length → sameAtm x y = false
  | [], [], h => absurd rfl h
  | [], _ :: _, _ => rfl
  | _ :: _, [], _ => rfl
  | a :: x, b :: y, h => by
    rw [sameAtm, sameAtm_len x y (by simpa using h), Bool.and_false]
def atmB (x y : Atm) : Bool := decide (x.name = y.name) && (decide (x.name ≠ []) || decide (x.num = y.num))
theorem sameAtm_yes : ∀ (x y : List Atm), x.length = y.length → (∀ i (h : i < x.length) (h' : i < y.length), atmB (x[i]'h) (y[i]'h') = true) → sameAtm x y = true
  | [], [], _, _ => rfl
  | [], _ :: _, h, _ => by simp at h
  | _ :: _, [], h, _ => by simp at h
  | a :: x, b :: y, h, q => by
    have q0 : atmB a b = true := q 0 (by simp) (by simp)
    unfold atmB at q0
    rw [sameAtm, q0, Bool.true_and]
    exact sameAtm_yes x y (by simpa using h) (fun i h1 h2 => by have := q (i + 1) (by simpa using h1) (by simpa using h2); simpa using this)
theorem sameAtm_no : ∀ (x y : List Atm) (i : Nat) (h : i < x.length) (h' : i < y.length), atmB (x[i]'h) (y[i]'h') = false → sameAtm x y = false
  | [], _, _, h, _, _ => absurd h (Nat.not_lt_zero _)
  | _ :: _, [], _, _, h, _ => absurd h (Nat.not_lt_zero _)
  | a :: x, b :: y, 0, _, _, q => by
    have q0 : atmB a b = false := by simpa using q
    unfold atmB at q0
    rw [sameAtm, q0, Bool.false_and]
  | a :: x, b :: y, i + 1, h, h', q => by
    rw [sameAtm, sameAtm_no x y i (by simpa using h) (by simpa using h') (by simpa using q), Bool.and_false]
theorem atmC_get : ∀ (l : List Atm) (i : Nat) (h : i < l.length), (atmC l)[i * 2]? = some (.string (str (l[i]'h).name)) ∧ (atmC l)[i * 2 + 1]? = some (.int .i64 (l[i]'h).num)
  | [], _, h => absurd h (Nat.not_lt_zero _)
  | a :: l, 0, _ => ⟨rfl, rfl⟩
  | a :: l, i + 1, h => by
    have ih := atmC_get l i (by simpa using h)
    have e : ∀ j, (atmC (a :: l))[(i + 1) * 2 + j]? = (atmC l)[i * 2 + j]? := fun j => by
      rw [show (i + 1) * 2 + j = i * 2 + j + 2 by omega]
      rfl
    have e0 := e 0
    simp only [Nat.add_zero] at e0
    rw [e0, e 1]
    exact ih

set_option maxHeartbeats 16000000 in
theorem exps_app {k p m p' m' : Int} {n n' : List UInt8} (hk : k = 1 ∨ k = 2 ∨ k = 3) (w : World) (v4 v5 v6 v7 u4 u5 u6 u7 : Value) (a b : List Atm) (A : IsRow w anyB (atmC a) a.length v4) (B : IsRow w anyB (atmC b) b.length u4) :
    Calls Tryd.prog 32 #[.agg #[.int .i64 k, .int .i64 p, .string (str n), .int .i64 m, v4, v5, v6, v7], .agg #[.int .i64 k, .int .i64 p', .string (str n'), .int .i64 m', u4, u5, u6, u7]] w fun e w' =>
      e = .returned (.bool (decide (n = n') && sameAtm a b)) ∧ Below w.heap.size w w' := by
  have A0 := A
  have B0 := B
  obtain ⟨ga, ca, rfl, ⟨_, hn⟩, _⟩ := A
  obtain ⟨gb, cb, rfl, ⟨_, hm⟩, _⟩ := B
  by_cases h1 : n = n'
  · subst h1
    have d2 : ((str n).toList == (str n).toList) = true := by simp
    rw [decide_eq_true rfl, Bool.true_and]
    obtain ⟨R, hR⟩ : ∃ R, sameAtm a b = R := ⟨_, rfl⟩
    have HR : Hid (sameAtm a b = R) := ⟨hR⟩
    rw [hR]
    clear hR
    obtain ⟨c, hcc⟩ : ∃ c, a.length = c := ⟨_, rfl⟩
    obtain ⟨d, hdd⟩ : ∃ d, b.length = d := ⟨_, rfl⟩
    rw [hcc] at A0 hn ⊢
    rw [hdd] at B0 hm ⊢
    by_cases hl : c = d
    · subst hl
      have HA : Hid (a.length = c) := ⟨hcc⟩
      have HB : Hid (b.length = c) := ⟨hdd⟩
      clear hcc hdd
      have W0 := two_below w (Obj.cells #[Value.int .i64 k, .int .i64 p, .string (str n), .int .i64 m, .slice ga c ca, v5, v6, v7] 46) (Obj.cells #[Value.int .i64 k, .int .i64 p', .string (str n), .int .i64 m', .slice gb c cb, u5, u6, u7] 46)
      have c4 : ((w.alloc (Obj.cells #[Value.int .i64 k, .int .i64 p, .string (str n), .int .i64 m, .slice ga c ca, v5, v6, v7] 46)).alloc (Obj.cells #[Value.int .i64 k, .int .i64 p', .string (str n), .int .i64 m', .slice gb c cb, u5, u6, u7] 46)).cell? ⟨w.heap.size, 4, none⟩ = some (.slice ga c ca) := by rw [cell_0]; rfl
      have e4 : ((w.alloc (Obj.cells #[Value.int .i64 k, .int .i64 p, .string (str n), .int .i64 m, .slice ga c ca, v5, v6, v7] 46)).alloc (Obj.cells #[Value.int .i64 k, .int .i64 p', .string (str n), .int .i64 m', .slice gb c cb, u5, u6, u7] 46)).cell? ⟨w.heap.size + 1, 4, none⟩ = some (.slice gb c cb) := by rw [cell_1]; rfl
      rcases hk with rfl | rfl | rfl
      all_goals
        go_enter Tryd.func32, Tryd.ntmps32
        go_wp2
        generalize (w.alloc (Obj.cells #[Value.int .i64 _, .int .i64 p, .string (str n), .int .i64 m, .slice ga c ca, v5, v6, v7] 46)).alloc (Obj.cells #[Value.int .i64 _, .int .i64 p', .string (str n), .int .i64 m', .slice gb c cb, u5, u6, u7] 46) = W at *
        go_loopw [5] (fun x wr => ∃ k : Nat, x = .int .i64 k ∧ k ≤ c ∧ Hid (∀ i (h : i < a.length) (h' : i < b.length), i < k → atmB (a[i]'h) (b[i]'h') = true) ∧ Below W.heap.size W wr) (fun x _ => c - (intOf x).toNat)
        case atStart => exact ⟨0, rfl, Nat.zero_le _, ⟨fun i _ _ h => absurd h (Nat.not_lt_zero _)⟩, Below.refl _ _⟩
        case round =>
          obtain ⟨k, rfl, hk, HK, BR⟩ := hrel
          have C4 := (BR.cell (World.block_lt_of_cell? _ _ c4)).trans c4
          have E4 := (BR.cell (World.block_lt_of_cell? _ _ e4)).trans e4
          by_cases hlt : k < c
          · obtain ⟨g, off, rfl, hx⟩ := row_cell A0 (by omega)
            obtain ⟨g', off', rfl, hy⟩ := row_cell B0 (by omega)
            have ka : k < a.length := by rw [HA.out]; exact hlt
            have kb : k < b.length := by rw [HB.out]; exact hlt
            have P := W0.trans (Joins.below_le BR W0.size)
            have x0 := hx _ _ (atmC_get a k ka).1
            have x1 := hx _ _ (atmC_get a k ka).2
            have y0 := hy _ _ (atmC_get b k kb).1
            have y1 := hy _ _ (atmC_get b k kb).2
            have x0 := (P.cell (World.block_lt_of_cell? _ _ x0)).trans x0
            have x1 := (P.cell (World.block_lt_of_cell? _ _ x1)).trans x1
            have y0 := (P.cell (World.block_lt_of_cell? _ _ y0)).trans y0
            have y1 := (P.cell (World.block_lt_of_cell? _ _ y1)).trans y1
            rw [← Nat.add_assoc] at x1 y1
            clear hx hy A0 B0
            have hlt' : (k : Int) < c := by omega
            have HT : Hid (atmB (a[k]'ka) (b[k]'kb) = true → ∀ i (h : i < a.length) (h' : i < b.length), i < k + 1 → atmB (a[i]'h) (b[i]'h') = true) := ⟨fun q i h h' hi => by
              rcases Nat.lt_or_ge i k with t | t
              · exact HK.out i h h' t
              · obtain rfl : i = k := by omega
                exact q⟩
            have HN : Hid (atmB (a[k]'ka) (b[k]'kb) = false → R = false) := ⟨fun q => by rw [← HR.out]; exact sameAtm_no a b k ka kb q⟩
            generalize a[k]'ka = s at *
            generalize b[k]'kb = t at *
            obtain ⟨sn, sm⟩ := s
            obtain ⟨tn, tm⟩ := t
            simp only [atmB] at HT HN x0 x1 y0 y1
            have BE : ∀ o o', Below W.heap.size W ((wr.alloc o).alloc o').drew := fun o o' => ((BR.alloc BR.size o).alloc (by have := BR.size; simp; omega) o').drew
            have E1 : (str sn).toList = sn := by rw [ByteArray.toList_eq, str_list]
            have E2 : (str tn).toList = tn := by rw [ByteArray.toList_eq, str_list]
            by_cases z1 : sn = tn
            · subst z1
              by_cases z2 : sn = []
              · have t2 : (str sn).toList = [] := by rw [E1, z2]
                by_cases z3 : sm = tm
                · subst z3
                  clear E1 E2
                  go_wp2
                  go_region_held3 (fun w' => w'.cell? ⟨w.heap.size, 4, none⟩ = some (.slice (some ⟨g, off, none⟩) c ca) ∧ w'.cell? ⟨w.heap.size + 1, 4, none⟩ = some (.slice (some ⟨g', off', none⟩) c cb) ∧ w'.cell? ⟨g, off + k * 2, none⟩ = some (.string (str sn)) ∧ w'.cell? ⟨g, off + k * 2 + 1, none⟩ = some (.int .i64 sm) ∧ w'.cell? ⟨g', off' + k * 2, none⟩ = some (.string (str sn)) ∧ w'.cell? ⟨g', off' + k * 2 + 1, none⟩ = some (.int .i64 sm)) (go_keep) (fail)
                  all_goals go_wp2
                  all_goals refine ⟨⟨k + 1, by go_num, by omega, ⟨HT.out (by simp [*])⟩, BE _ _⟩, ?_⟩
                  all_goals (simp [intOf]; omega)
                · have t3 : (sm == tm) = false := by simp [z3]
                  have t3' : (sm != tm) = true := by simp [z3]
                  clear E1 E2
                  go_wp2
                  go_region_held3 (fun w' => w'.cell? ⟨w.heap.size, 4, none⟩ = some (.slice (some ⟨g, off, none⟩) c ca) ∧ w'.cell? ⟨w.heap.size + 1, 4, none⟩ = some (.slice (some ⟨g', off', none⟩) c cb) ∧ w'.cell? ⟨g, off + k * 2, none⟩ = some (.string (str sn)) ∧ w'.cell? ⟨g, off + k * 2 + 1, none⟩ = some (.int .i64 sm) ∧ w'.cell? ⟨g', off' + k * 2, none⟩ = some (.string (str sn)) ∧ w'.cell? ⟨g', off' + k * 2 + 1, none⟩ = some (.int .i64 tm)) (go_keep) (fail)
                  all_goals go_wp2
                  all_goals first
                    | (go_ret; exact ⟨by rw [HN.out (by simp [*])]; rfl, W0.trans (Joins.below_le (BE _ _) W0.size)⟩)
                    | (exfalso; simp_all)
              · have t2 : ¬ (str sn).toList = [] := by rw [E1]; exact z2
                clear E1 E2
                go_wp2
                go_region_held3 (fun w' => w'.cell? ⟨w.heap.size, 4, none⟩ = some (.slice (some ⟨g, off, none⟩) c ca) ∧ w'.cell? ⟨w.heap.size + 1, 4, none⟩ = some (.slice (some ⟨g', off', none⟩) c cb) ∧ w'.cell? ⟨g, off + k * 2, none⟩ = some (.string (str sn)) ∧ w'.cell? ⟨g, off + k * 2 + 1, none⟩ = some (.int .i64 sm) ∧ w'.cell? ⟨g', off' + k * 2, none⟩ = some (.string (str sn)) ∧ w'.cell? ⟨g', off' + k * 2 + 1, none⟩ = some (.int .i64 tm)) (go_keep) (fail)
                all_goals go_wp2
                all_goals refine ⟨⟨k + 1, by go_num, by omega, ⟨HT.out (by simp [*])⟩, BE _ _⟩, ?_⟩
                all_goals (simp [intOf]; omega)
            · have t1 : ¬ (str sn).toList = (str tn).toList := by rw [E1, E2]; exact z1
              have t1' : ((str sn).toList == (str tn).toList) = false := by rw [str_eqb']; simp [z1]
              have t1'' : ((str sn).toList != (str tn).toList) = true := by rw [bne, t1']; rfl
              clear E1 E2
              go_wp2
              go_region_held3 (fun w' => w'.cell? ⟨w.heap.size, 4, none⟩ = some (.slice (some ⟨g, off, none⟩) c ca) ∧ w'.cell? ⟨w.heap.size + 1, 4, none⟩ = some (.slice (some ⟨g', off', none⟩) c cb) ∧ w'.cell? ⟨g, off + k * 2, none⟩ = some (.string (str sn)) ∧ w'.cell? ⟨g, off + k * 2 + 1, none⟩ = some (.int .i64 sm) ∧ w'.cell? ⟨g', off' + k * 2, none⟩ = some (.string (str tn)) ∧ w'.cell? ⟨g', off' + k * 2 + 1, none⟩ = some (.int .i64 tm)) (go_keep) (fail)
              all_goals go_wp2
              all_goals go_ret
              all_goals exact ⟨by rw [HN.out (by simp [*])]; rfl, W0.trans (Joins.below_le (BE _ _) W0.size)⟩
          · obtain rfl : k = c := by omega
            go_wp2
            go_ret
            exact ⟨by rw [← HR.out, sameAtm_yes a b (by rw [HA.out, HB.out]) (fun i h h' => HK.out i h h' (by rw [← HA.out]; exact h))]; rfl, W0.trans (Joins.below_le BR W0.size)⟩
    · have HF : Hid (R = false) := ⟨by rw [← HR.out, sameAtm_len a b (by omega)]⟩
      rcases hk with rfl | rfl | rfl
      all_goals
        go_enter Tryd.func32, Tryd.ntmps32
        go_wp2
        go_ret
        exact ⟨by rw [HF.out]; rfl, two_below _ _ _⟩
  · have d2 : ((str n).toList == (str n').toList) = false := by rw [str_eqb']; simp [h1]
    rw [decide_eq_false h1, Bool.false_and]
    rcases hk with rfl | rfl | rfl
    all_goals
      go_enter Tryd.func32, Tryd.ntmps32
      go_wp2
      go_ret
      exact ⟨rfl, two_below _ _ _⟩

end Go.Proofs.YtoedeedoecdajaaDoor
