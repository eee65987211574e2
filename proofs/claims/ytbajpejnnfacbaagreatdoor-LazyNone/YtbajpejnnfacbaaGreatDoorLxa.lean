/- The law of lazy: lists of numbers held against one another; the fuel of a use. -/
import Derived.Test.YtbajpejnnfacbaaGreatDoorLyh
import Derived.Test.YtbajpejnnfacbaaGreatDoorLxk
namespace Go.Proofs.YtbajpejnnfacbaaGreatDoor.Lz
open Go.RowKit
set_option linter.unusedVariables false
set_option linter.unusedSimpArgs false


/-- a list of numbers in memory -/
def Ints (w : World) (l : List Int) (v : Value) : Prop := ∃ ga cap, v = .slice ga l.length cap ∧ l.length ≤ cap ∧ (l.length ≠ 0 → ∃ g off, ga = some ⟨g, off, none⟩ ∧ ∀ j (h : j < l.length), w.cell? ⟨g, off + j, none⟩ = some (.int .i64 (l[j]'h)))
theorem Ints.below {w w' : World} {l : List Int} {v : Value} (h : Ints w l v) (k : Below w.heap.size w w') : Ints w' l v := by
  obtain ⟨ga, cap, e, hc, q⟩ := h
  refine ⟨ga, cap, e, hc, fun z => ?_⟩
  obtain ⟨g, off, e2, hj⟩ := q z
  exact ⟨g, off, e2, fun j hl => (k.cell (World.block_lt_of_cell? _ _ (hj j hl))).trans (hj j hl)⟩
def fuelI (n : Int) : Int := if 1500 < n ∧ n ≤ 1048576 then 1500 else n
set_option maxRecDepth 100000 in
theorem fuel_any (w : World) (n : Int) : Calls Tryz.prog 9 #[.int .i64 n] w fun r w' => r = .returned (.int .i64 (fuelI n)) ∧ w' = w := by
  unfold fuelI
  by_cases a : 1500 < n
  · have g1 : decide (1500 < n) = true := decide_eq_true a
    by_cases b : n ≤ 1048576
    · have g2 : decide (n ≤ 1048576) = true := decide_eq_true b
      rw [if_pos ⟨a, b⟩]
      go_enter Tryz.func9, Tryz.ntmps9
      go_wp2
      go_ret
      exact ⟨rfl, rfl⟩
    · have g2 : decide (n ≤ 1048576) = false := decide_eq_false b
      rw [if_neg (fun z => b z.2)]
      go_enter Tryz.func9, Tryz.ntmps9
      go_wp2
      go_ret
      exact ⟨rfl, rfl⟩
  · have g1 : decide (1500 < n) = false := decide_eq_false a
    rw [if_neg (fun z => a z.1)]
    go_enter Tryz.func9, Tryz.ntmps9
    go_wp2
    go_ret
    exact ⟨rfl, rfl⟩
def begins : List Int → List Int → Bool
  | [], _ => true
  | _ :: _, [] => false
  | a :: r, b :: q => a == b && begins r q
theorem begins_eq : ∀ (a b : List Int), begins a b = decide (a.length ≤ b.length ∧ ∀ j (h : j < a.length) (k : j < b.length), a[j] = b[j])
  | [], b => by simp [begins]
  | x :: r, [] => by simp [begins]
  | x :: r, y :: q => by
    rw [begins, begins_eq r q]
    by_cases e : x = y
    · subst e
      simp only [beq_self_eq_true, Bool.true_and, decide_eq_decide, List.length_cons]
      constructor
      · rintro ⟨h1, h2⟩
        refine ⟨by omega, fun j h k => ?_⟩
        cases j with
        | zero => rfl
        | succ j => exact h2 j (by simpa using h) (by simpa using k)
      · rintro ⟨h1, h2⟩
        exact ⟨by omega, fun j h k => h2 (j + 1) (by simpa using h) (by simpa using k)⟩
    · have : (x == y) = false := beq_eq_false_iff_ne.2 e
      rw [this, Bool.false_and]
      symm
      rw [decide_eq_false_iff_not]
      rintro ⟨_, h2⟩
      exact e (h2 0 (by simp) (by simp))
set_option maxRecDepth 100000 in
set_option maxHeartbeats 4000000 in
theorem begins_any {w : World} {a b : List Int} {va vb : Value} (ha : Ints w a va) (hb : Ints w b vb) (ca : ∀ x ∈ a, isI x) (cb : ∀ x ∈ b, isI x) (la : a.length ≤ 1000000000000) (lb : b.length ≤ 1000000000000) :
    Calls Tryz.prog 10 #[va, vb] w fun r w' => r = .returned (.bool (begins a b)) ∧ Below w.heap.size w w' := by
  rw [begins_eq]
  obtain ⟨ga, capa, rfl, hca, qa⟩ := ha
  obtain ⟨gb, capb, rfl, hcb, qb⟩ := hb
  obtain ⟨n, hn⟩ : ∃ n, a.length = n := ⟨_, rfl⟩
  obtain ⟨m, hm⟩ : ∃ m, b.length = m := ⟨_, rfl⟩
  have HQ := Hid.mk (And.intro qa qb)
  have HN := Hid.mk (And.intro hn hm)
  rw [hn] at la hca
  rw [hm] at lb hcb
  by_cases g : m < n
  · have e : decide (a.length ≤ b.length ∧ ∀ j (h : j < a.length) (k : j < b.length), a[j] = b[j]) = false := decide_eq_false (by rintro ⟨h, _⟩; omega)
    rw [e]
    rw [hn, hm]
    clear qa qb hn hm e
    go_enter Tryz.func10, Tryz.ntmps10
    go_wp2
    go_ret
    exact ⟨rfl, Below.refl _ _⟩
  · rw [show Value.slice ga a.length capa = .slice ga n capa by rw [hn], show Value.slice gb b.length capb = .slice gb m capb by rw [hm]]
    clear qa qb hn hm
    go_enter Tryz.func10, Tryz.ntmps10
    go_wp2
    go_loopw [5] (fun c wr => ∃ i : Nat, c = .int .i64 i ∧ i ≤ n ∧ Below w.heap.size w wr ∧ Hid (∀ j (h : j < a.length) (k : j < b.length), j < i → a[j] = b[j])) (fun c _ => n - (intOf c).toNat)
    case atStart => exact ⟨0, rfl, Nat.zero_le _, Below.refl _ _, ⟨fun j _ _ z => absurd z (by omega)⟩⟩
    case round =>
      rename_i wr
      obtain ⟨i, rfl, hi, BW, HE⟩ := hrel
      have HBW := Hid.mk BW
      by_cases hlt : i < n
      · have ia : i < a.length := by rw [HN.out.1]; exact hlt
        have ib : i < b.length := by rw [HN.out.2]; omega
        obtain ⟨g1, o1, rfl, q1⟩ := HQ.out.1 (by omega)
        obtain ⟨g2, o2, rfl, q2⟩ := HQ.out.2 (by omega)
        have x1 := (BW.cell (World.block_lt_of_cell? _ _ (q1 i ia))).trans (q1 i ia)
        have x2 := (BW.cell (World.block_lt_of_cell? _ _ (q2 i ib))).trans (q2 i ib)
        have i1 : (i : Int) < n := by omega
        have i2 : (i : Int) < m := by omega
        obtain ⟨y1, e1⟩ : ∃ y, a[i] = y := ⟨_, rfl⟩
        obtain ⟨y2, e2⟩ : ∃ y, b[i] = y := ⟨_, rfl⟩
        rw [e1] at x1
        rw [e2] at x2
        have HY := Hid.mk (And.intro e1 e2)
        clear q1 q2 BW e1 e2
        by_cases e : y1 = y2
        · subst e
          go_wp2
          go_quiet (fail)
          go_wp2
          go_roundw
          case rel => exact ⟨i + 1, by go_num, by omega, below_drewN HBW.out _, ⟨fun j h k z => by
            by_cases q : j = i
            · subst q; rw [HY.out.1, HY.out.2]
            · exact HE.out j h k (by omega)⟩⟩
          case measure => simp [intOf]; omega
        · have ne : (y1 == y2) = false := beq_eq_false_iff_ne.2 e
          have ne' : (y1 != y2) = true := by simp [e]
          have ef : Hid (decide (a.length ≤ b.length ∧ ∀ j (h : j < a.length) (k : j < b.length), a[j] = b[j]) = false) := ⟨decide_eq_false (by rintro ⟨_, h⟩; exact e (by rw [← HY.out.1, ← HY.out.2]; exact h i ia ib))⟩
          go_wp2
          go_quiet (fail)
          go_wp2
          go_ret
          exact ⟨by rw [ef.out]; rfl, below_drewN HBW.out _⟩
      · obtain rfl : i = n := by omega
        have et : Hid (decide (a.length ≤ b.length ∧ ∀ j (h : j < a.length) (k : j < b.length), a[j] = b[j]) = true) := ⟨decide_eq_true ⟨by rw [HN.out.1, HN.out.2]; omega, fun j h k => HE.out j h k (by rw [← HN.out.1]; exact h)⟩⟩
        clear BW
        go_wp2
        go_ret
        exact ⟨by rw [et.out]; rfl, HBW.out⟩
end Go.Proofs.YtbajpejnnfacbaaGreatDoor.Lz

/- Package lazy: what must come at any rate. -/
namespace Go.Proofs.YtbajpejnnfacbaaGreatDoor.Lz
open Go.RowKit
set_option linter.unusedVariables false
set_option linter.unusedSimpArgs false

theorem Laid1.lie {w w' : World} {B : Nat} {n : Int} {mb bm hm e tb q cq f p a ca : Nat} (L : Laid1 w B n mb bm hm e tb q cq f p a ca) (k : ∀ i, i ≠ mb → i ≠ hm → i < w.heap.size → w'.heap[i]? = w.heap[i]?) (hs : w.heap.size ≤ w'.heap.size) : Lie w' B n mb e tb q cq f p a ca := by
  obtain ⟨o1, o2, o3, o4, o5, o6, o7, o8, o9, o10, o11⟩ := L.ord
  have al := L.xa.2.1
  have kb : ∀ {i : Nat} {cs : Array Value} {t : TypeId}, mb < i → Bx w i cs t → Bx w' i cs t := fun {i cs t} hi h => (k i (by omega) (by omega) h.lt).trans h
  have kc : ∀ {i o : Nat} {u : Value}, mb < i → w.cell? ⟨i, o, none⟩ = some u → w'.cell? ⟨i, o, none⟩ = some u := fun {i o u} hi h => (World.cell?_of_block (a := ⟨i, o, none⟩) (k i (by omega) (by omega) (World.block_lt_of_cell? _ _ h))).trans h
  exact ⟨kb (by omega) L.xe, kc (by omega) L.xq, kb (by omega) L.xtb, kb (by omega) L.xf, kb (by omega) L.xp, ⟨L.xa.1, by omega, fun j u hu => kc (by omega) (L.xa.2.2 j u hu)⟩, by omega⟩
set_option maxRecDepth 100000 in
set_option maxHeartbeats 8000000 in
theorem awake_any (w : World) (T : Table w) : Calls Tryz.prog 8 #[] w fun e w' => e = .returned (.bool true) ∧ Below w.heap.size w w' := by
  have hp : 0 < w.heap.size := World.block_lt_of_cell? _ _ (T.n 0 (by decide))
  obtain ⟨W0, hW0⟩ : ∃ W0, W0 = w.alloc (.cells #[.string ⟨#[]⟩, .int .i64 7] 68) := ⟨_, rfl⟩
  have B0 : Below w.heap.size w W0 := by subst hW0; exact Joins.below_alloc1 _ _
  have a0 : W0.cell? ⟨w.heap.size, 0, none⟩ = some (.string ⟨#[]⟩) := by subst hW0; exact cellN _ _ _ _ _ rfl
  have a1 : W0.cell? ⟨w.heap.size, 0 + 1, none⟩ = some (.int .i64 7) := by subst hW0; exact cellN _ _ _ _ _ rfl
  have n7 : isI 7 := by unfold isI; omega
  have C21 : Hid (Calls Tryz.prog 21 #[.agg (exB w.heap.size 0 1)] W0 fun e w' => ∃ bb, e = .returned (.agg #[nils, .slice (some ⟨bb, 0, none⟩) 1 1]) ∧ Below w.heap.size w w' ∧ Calls Tryz.prog 20 #[.agg #[nils, .slice (some ⟨bb, 0, none⟩) 1 1]] w' fun e w2 => ∃ mb, e = .returned (.tuple #[ptr mb, .int .i64 0, .int .i64 0]) ∧ Calls Tryz.prog 18 #[ptr mb, .string mainS, nils] w2 fun e w3 => e = .returned (.tuple #[.int .i64 1, .int .i64 0]) ∧ Calls Tryz.prog 16 #[ptr mb, .int .i64 1, .int .i64 1, .int .i64 9] w3 fun e w4 => ∃ g cap, e = .returned (.tuple #[.agg #[.int .i64 1, .int .i64 0, .int .i64 1, .string ⟨#[]⟩, .int .i64 7, nils], .int .i64 0]) ∧ w4.cell? ⟨mb, 5, none⟩ = some (.slice (some ⟨g, 0, none⟩) 1 cap) ∧ w4.cell? ⟨g, 0, none⟩ = some (.int .i64 7) ∧ w4.cell? ⟨mb, 6, none⟩ = some (.int .i64 1) ∧ Below w.heap.size w w4) := ⟨by
    refine (one_emit W0 w.heap.size 0 1).mono fun e w1 ⟨bb, he, hb, G1⟩ => ⟨bb, he, lOn B0 G1, ?_⟩
    have B1 := lOn B0 G1
    refine (new_emit (T.later B1) bb w.heap.size 0 1 7 hb (cellL G1 a0) (cellL G1 a1) (Nat.le_refl _)).mono fun e w2 ⟨mb, bm, hm, e', tb, q, cq, f, p, a, ca, he, L, G2⟩ => ⟨mb, he, ?_⟩
    have B2 := lOn B1 G2
    refine (make_emit L).mono fun e w3 ⟨he, X3, V3, k3, G3⟩ => ⟨he, ?_⟩
    have s1 := B1.size
    have B3 : Below w.heap.size w w3 := B2.trans (Joins.below_le G3 s1)
    refine (show_emit n7 (T.later B3) (by omega) (L.lie k3 G3.size) X3 V3).mono fun e w4 ⟨g, cap, he, c5, g0, c6, G4⟩ => ⟨g, cap, he, c5, g0, c6, B3.trans (Joins.below_le G4 s1)⟩⟩
  have OUT : Hid (∀ (W : World) (mb g cap : Nat), W.cell? ⟨mb, 5, none⟩ = some (.slice (some ⟨g, 0, none⟩) 1 cap) → W.cell? ⟨g, 0, none⟩ = some (.int .i64 7) → Calls Tryz.prog 11 #[ptr mb] W fun r w' => ∃ g' c', r = .returned (.slice (some ⟨g', 0, none⟩) 1 c') ∧ w'.cell? ⟨g', 0, none⟩ = some (.int .i64 7) ∧ Below W.heap.size W w') := ⟨fun W mb g cap h1 h2 => out_one mb g cap 7 h1 h2⟩
  clear T hp B0 a0 a1 n7
  go_enter Tryz.func8, Tryz.ntmps8
  go_wp2_with (first
    | (go_at_call 21; rw [← hW0]; refine C21.out.mono ?_; rintro r w1 ⟨bb, rfl, G1, C20⟩; clear G1)
    | (go_at_call 20; refine C20.mono ?_; rintro r w2 ⟨mb, rfl, C18⟩)
    | (go_at_call 18; refine C18.mono ?_; rintro r w3 ⟨rfl, C16⟩)
    | (go_at_call 16; refine C16.mono ?_; rintro r w4 ⟨g, cap, rfl, c5, g0, c6, G4⟩; have A4 := Joins.below_alloc1 w4 (.cells #[.int .i64 1, .int .i64 0, .int .i64 1, .string ⟨#[]⟩, .int .i64 7, nils] 35); have d5 := cellL A4 c5; have d0 := cellL A4 g0; have d6 := cellL A4 c6; have C11 := OUT.out _ mb g cap d5 d0; have k0 := cellN w4 #[.int .i64 1, .int .i64 0, .int .i64 1, .string ⟨#[]⟩, .int .i64 7, nils] 35 0 _ rfl; have k4 := cellN w4 #[.int .i64 1, .int .i64 0, .int .i64 1, .string ⟨#[]⟩, .int .i64 7, nils] 35 4 _ rfl; have HB := Hid.mk (lOn G4 A4); clear c5 g0 c6 G4 A4)
    | (go_at_call 11; refine C11.mono ?_; rintro r w5 ⟨g', c', rfl, h0, G5⟩; have k0' := cellL G5 k0; have k4' := cellL G5 k4; have C12 := steps_ok w5 mb 1 (cellL G5 d6); have HB5 := Hid.mk (lOn HB.out G5); clear G5)
    | (go_at_call 12; refine C12.mono ?_; rintro r w6 ⟨rfl, rfl⟩))
  go_ret
  exact ⟨rfl, HB5.out⟩
end Go.Proofs.YtbajpejnnfacbaaGreatDoor.Lz
