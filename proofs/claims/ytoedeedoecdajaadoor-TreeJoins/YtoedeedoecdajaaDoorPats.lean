/- Package tree's parser: what stands ahead of an alternative's arrow. -/
import Derived.Test.YtoedeedoecdajaaDoorForms
import Derived.Deep.RegionHeld3
import Derived.RegionDies
namespace Go.Proofs.YtoedeedoecdajaaDoor
open Go.RowKit
set_option linter.unusedVariables false
set_option linter.unusedSimpArgs false

abbrev Hd := Int × Int × List UInt8 × Int × List (List UInt8)
def isHV (w : World) (ok : Nat → Prop) (h : Hd) (v : Value) : Prop := ∃ vv, v = .agg #[.int .i64 h.1, .int .i64 h.2.1, .string (str h.2.2.1), .int .i64 h.2.2.2.1, vv, .int .i64 0, .int .i64 0, .string ⟨#[]⟩, .int .i64 0, nil3, nil3, nil3, nil3] ∧ IsRow w ok (strC h.2.2.2.2) h.2.2.2.2.length vv
def putAt : Array Value → Nat → List Value → Array Value
  | cs, _, [] => cs
  | cs, o, v :: vs => putAt (cs.setIfInBounds o v) (o + 1) vs
theorem putAt_get (i : Nat) : ∀ (vs : List Value) (o : Nat) (cs : Array Value), (putAt cs o vs)[i]? = if o ≤ i ∧ i < o + vs.length ∧ i < cs.size then vs[i - o]? else cs[i]?
  | [], o, cs => by
    rw [putAt, if_neg (by simp only [List.length_nil]; omega)]
  | v :: vs, o, cs => by
    rw [putAt, putAt_get i vs (o + 1) (cs.setIfInBounds o v)]
    simp only [Array.size_setIfInBounds, List.length_cons]
    by_cases h : o = i
    · subst h
      rw [if_neg (by omega)]
      by_cases hs : o < cs.size
      · rw [if_pos ⟨Nat.le_refl _, by omega, hs⟩, Nat.sub_self, Array.getElem?_setIfInBounds_self_of_lt hs]
        rfl
      · rw [if_neg (by omega), Array.setIfInBounds_eq_of_size_le (by omega)]
    · rw [Array.getElem?_setIfInBounds_ne h]
      by_cases hc : o + 1 ≤ i ∧ i < o + 1 + vs.length ∧ i < cs.size
      · rw [if_pos hc, if_pos ⟨by omega, by omega, hc.2.2⟩, show i - o = (i - (o + 1)) + 1 by omega]
        rfl
      · rw [if_neg hc, if_neg (by omega)]
theorem putAt_full (vs : List Value) (cs : Array Value) (h : vs.length = cs.size) : putAt cs 0 vs = vs.toArray := by
  apply Array.ext_getElem?
  intro i
  rw [putAt_get]
  simp only [List.getElem?_toArray, Nat.sub_zero, Nat.zero_add]
  by_cases hi : i < vs.length
  · rw [if_pos ⟨Nat.zero_le _, hi, by omega⟩]
  · rw [if_neg (by omega), Array.getElem?_eq_none (by omega), List.getElem?_eq_none (by omega)]
theorem blk_cells {m : Nat} {t : TypeId} : ∀ (vs : List Value) (o : Nat) (cs : Array Value) (w : World), Blk w m cs t → Blk (w.setCells m o vs) m (putAt cs o vs) t
  | [], _, _, _, h => h
  | v :: vs, o, cs, w, h => blk_cells vs (o + 1) _ _ (Joins.block_setCell h v)
theorem blk_full {w : World} {m : Nat} {t : TypeId} {cs : Array Value} (h : Blk w m cs t) (vs : List Value) (hv : vs.length = cs.size) : Blk (w.setCells m 0 vs) m vs.toArray t := by
  have := blk_cells vs 0 cs w h
  rwa [putAt_full vs cs hv] at this
theorem size90 : (Tryd.prog.info? 90).map (·.size) = some 13 := by kernel_rfl

set_option maxRecDepth 100000 in
set_option maxHeartbeats 4000000 in
theorem pat_name {w : World} {b : Nat} {t : Tok} {r : List Tok} {n : Int} (R : Rd w b (t :: r) n 0) (hk : t.kind = 1) :
    Calls Tryd.prog 99 #[ptr b] w (Ans b n w isHV (.ok ((3, t.at', t.text, 0, []), r))) := by
  have lt := R.lt
  have L := fun o => look_any (R.alloc o)
  simp only [hdV] at L
  have d2 : (t.kind == 2) = false := by simp [hk]
  have d4 : (t.kind == 4) = false := by simp [hk]
  have HK : Hid (t.kind = 1) := ⟨hk⟩
  clear hk
  go_enter Tryd.func99, Tryd.ntmps99
  go_upto_region 8 with (go_at_call 22; refine (L _).mono ?_; rintro e w1 ⟨rfl, o, rfl⟩)
  have B1 : Blk (((w.alloc (.cells #[.int .i64 0, .int .i64 0, .string ⟨#[]⟩, .int .i64 0, nil3, .int .i64 0, .int .i64 0, .string ⟨#[]⟩, .int .i64 0, nil3, nil3, nil3, nil3] 90)).alloc o).alloc (.cells #[.int .i64 t.kind, .string (str t.text), .int .i64 t.num, .int .i64 t.at'] 39)) (w.heap.size + 1 + 1) #[.int .i64 t.kind, .string (str t.text), .int .i64 t.num, .int .i64 t.at'] 39 := by have := Blk.fresh ((w.alloc (.cells #[.int .i64 0, .int .i64 0, .string ⟨#[]⟩, .int .i64 0, nil3, .int .i64 0, .int .i64 0, .string ⟨#[]⟩, .int .i64 0, nil3, nil3, nil3, nil3] 90)).alloc o) #[.int .i64 t.kind, .string (str t.text), .int .i64 t.num, .int .i64 t.at'] 39; simpa using this
  have M1 := ((Blk.fresh w #[.int .i64 0, .int .i64 0, .string ⟨#[]⟩, .int .i64 0, nil3, .int .i64 0, .int .i64 0, .string ⟨#[]⟩, .int .i64 0, nil3, nil3, nil3, nil3] 90).alloc o).alloc (.cells #[.int .i64 t.kind, .string (str t.text), .int .i64 t.num, .int .i64 t.at'] 39)
  have F1 := (((Fr.refl b w).alloc (.cells #[.int .i64 0, .int .i64 0, .string ⟨#[]⟩, .int .i64 0, nil3, .int .i64 0, .int .i64 0, .string ⟨#[]⟩, .int .i64 0, nil3, nil3, nil3, nil3] 90)).alloc o).alloc (.cells #[.int .i64 t.kind, .string (str t.text), .int .i64 t.num, .int .i64 t.at'] 39)
  have R1 := ((R.alloc (.cells #[.int .i64 0, .int .i64 0, .string ⟨#[]⟩, .int .i64 0, nil3, .int .i64 0, .int .i64 0, .string ⟨#[]⟩, .int .i64 0, nil3, nil3, nil3, nil3] 90)).alloc o).alloc (.cells #[.int .i64 t.kind, .string (str t.text), .int .i64 t.num, .int .i64 t.at'] 39)
  clear L R
  generalize ((w.alloc (.cells #[.int .i64 0, .int .i64 0, .string ⟨#[]⟩, .int .i64 0, nil3, .int .i64 0, .int .i64 0, .string ⟨#[]⟩, .int .i64 0, nil3, nil3, nil3, nil3] 90)).alloc o).alloc (.cells #[.int .i64 t.kind, .string (str t.text), .int .i64 t.num, .int .i64 t.at'] 39) = W at *
  have y0 : W.cell? ⟨w.heap.size + 1 + 1, 0, none⟩ = some (.int .i64 t.kind) := B1.cell 0
  have y1 : W.cell? ⟨w.heap.size + 1 + 1, 1, none⟩ = some (.string (str t.text)) := B1.cell 1
  have y3 : W.cell? ⟨w.heap.size + 1 + 1, 3, none⟩ = some (.int .i64 t.at') := B1.cell 3
  have hT : ¬ w.heap.size + 1 + 1 = w.heap.size := by omega
  have hT' : ¬ w.heap.size = w.heap.size + 1 + 1 := by omega
  have TN := takeName_any R1.drew
  simp only [pKind, if_pos HK.out] at TN
  go_region_held3 (fun w' => w'.cell? ⟨w.heap.size + 1 + 1, 3, none⟩ = some (.int .i64 t.at')) (go_keep) (first
    | (go_at_call 78; refine TN.mono ?_; rintro e w4 ⟨F4, v4, rfl, rfl, R4⟩; have M4 := (M1.kept (grown_drew _) (by simp)).kept F4 (fun e => by cases e; omega); have m0 : w4.cell? ⟨w.heap.size, 0, none⟩ = some (.int .i64 0) := M4.cell 0; have m1 : w4.cell? ⟨w.heap.size, 1, none⟩ = some (.int .i64 0) := M4.cell 1; have m2 : w4.cell? ⟨w.heap.size, 2, none⟩ = some (.string ⟨#[]⟩) := M4.cell 2; have m3 : w4.cell? ⟨w.heap.size, 3, none⟩ = some (.int .i64 0) := M4.cell 3; have m4 : w4.cell? ⟨w.heap.size, 4, none⟩ = some (nil3) := M4.cell 4; have m5 : w4.cell? ⟨w.heap.size, 5, none⟩ = some (.int .i64 0) := M4.cell 5; have m6 : w4.cell? ⟨w.heap.size, 6, none⟩ = some (.int .i64 0) := M4.cell 6; have m7 : w4.cell? ⟨w.heap.size, 7, none⟩ = some (.string ⟨#[]⟩) := M4.cell 7; have m8 : w4.cell? ⟨w.heap.size, 8, none⟩ = some (.int .i64 0) := M4.cell 8; have m9 : w4.cell? ⟨w.heap.size, 9, none⟩ = some (nil3) := M4.cell 9; have m10 : w4.cell? ⟨w.heap.size, 10, none⟩ = some (nil3) := M4.cell 10; have m11 : w4.cell? ⟨w.heap.size, 11, none⟩ = some (nil3) := M4.cell 11; have m12 : w4.cell? ⟨w.heap.size, 12, none⟩ = some (nil3) := M4.cell 12; have mz : ∀ j, w4.frozen? ⟨w.heap.size, j, none⟩ = false := M4.z; have B4 := (B1.kept (grown_drew _) (by simp)).kept F4 (fun e => by cases e; omega); have x1 : w4.cell? ⟨w.heap.size + 1 + 1, 1, none⟩ = some (.string (str t.text)) := B4.cell 1; have x3 : w4.cell? ⟨w.heap.size + 1 + 1, 3, none⟩ = some (.int .i64 t.at') := B4.cell 3; have F4' := (F1.drew).trans F4))
  all_goals
    have GS := grown_setCells w.heap.size [.int .i64 3, .int .i64 t.at', .string (str t.text), .int .i64 0, nil3, .int .i64 0, .int .i64 0, .string ⟨#[]⟩, .int .i64 0, nil3, nil3, nil3, nil3] 0 w4
    obtain ⟨W5, hW5⟩ : ∃ W5, W5 = w4.setCells w.heap.size 0 [.int .i64 3, .int .i64 t.at', .string (str t.text), .int .i64 0, nil3, .int .i64 0, .int .i64 0, .string ⟨#[]⟩, .int .i64 0, nil3, nil3, nil3, nil3] := ⟨_, rfl⟩
    change Exit.then _ _ Exit.normal _ (w4.setCells w.heap.size 0 [.int .i64 3, .int .i64 t.at', .string (str t.text), .int .i64 0, nil3, .int .i64 0, .int .i64 0, .string ⟨#[]⟩, .int .i64 0, nil3, nil3, nil3, nil3])
    have BN := blk_full M4 [.int .i64 3, .int .i64 t.at', .string (str t.text), .int .i64 0, nil3, .int .i64 0, .int .i64 0, .string ⟨#[]⟩, .int .i64 0, nil3, nil3, nil3, nil3] rfl
    rw [← hW5] at GS BN ⊢
    clear hW5 m0 m1 m2 m3 m4 m5 m6 m7 m8 m9 m10 m11 m12 mz
    go_wp2
    refine bodyPost_ret (results_cell_row Tryd.results99 _ _ w.heap.size 90 _ (0, 0) _ rfl BN Tryd.underlying90 rfl size90) rfl (Ans.ok (F4'.grown GS (fun i e => by cases e; exact Nat.le_refl _)) (R4.kept GS (fun i e => by cases e; exact lt)) ?_)
    exact ⟨_, rfl, isRow_nil _ _ _⟩

set_option maxRecDepth 100000 in
set_option maxHeartbeats 4000000 in
theorem pat_int {w : World} {b : Nat} {t : Tok} {r : List Tok} {n : Int} (R : Rd w b (t :: r) n 0) (hk : t.kind = 4) :
    Calls Tryd.prog 99 #[ptr b] w (Ans b n w isHV (.ok ((2, t.at', [], t.num, []), r))) := by
  have lt := R.lt
  have L := fun o => look_any (R.alloc o)
  simp only [hdV] at L
  have d2 : (t.kind == 2) = false := by simp [hk]
  have d4 : (t.kind == 4) = true := by simp [hk]
  have f2 := field2
  have HK : Hid (t.kind = 4) := ⟨hk⟩
  clear hk
  go_enter Tryd.func99, Tryd.ntmps99
  go_upto_region 7 with (go_at_call 22; refine (L _).mono ?_; rintro e w1 ⟨rfl, o, rfl⟩)
  have B1 : Blk (((w.alloc (.cells #[.int .i64 0, .int .i64 0, .string ⟨#[]⟩, .int .i64 0, nil3, .int .i64 0, .int .i64 0, .string ⟨#[]⟩, .int .i64 0, nil3, nil3, nil3, nil3] 90)).alloc o).alloc (.cells #[.int .i64 t.kind, .string (str t.text), .int .i64 t.num, .int .i64 t.at'] 39)) (w.heap.size + 1 + 1) #[.int .i64 t.kind, .string (str t.text), .int .i64 t.num, .int .i64 t.at'] 39 := by have := Blk.fresh ((w.alloc (.cells #[.int .i64 0, .int .i64 0, .string ⟨#[]⟩, .int .i64 0, nil3, .int .i64 0, .int .i64 0, .string ⟨#[]⟩, .int .i64 0, nil3, nil3, nil3, nil3] 90)).alloc o) #[.int .i64 t.kind, .string (str t.text), .int .i64 t.num, .int .i64 t.at'] 39; simpa using this
  have M1 := ((Blk.fresh w #[.int .i64 0, .int .i64 0, .string ⟨#[]⟩, .int .i64 0, nil3, .int .i64 0, .int .i64 0, .string ⟨#[]⟩, .int .i64 0, nil3, nil3, nil3, nil3] 90).alloc o).alloc (.cells #[.int .i64 t.kind, .string (str t.text), .int .i64 t.num, .int .i64 t.at'] 39)
  have F1 := (((Fr.refl b w).alloc (.cells #[.int .i64 0, .int .i64 0, .string ⟨#[]⟩, .int .i64 0, nil3, .int .i64 0, .int .i64 0, .string ⟨#[]⟩, .int .i64 0, nil3, nil3, nil3, nil3] 90)).alloc o).alloc (.cells #[.int .i64 t.kind, .string (str t.text), .int .i64 t.num, .int .i64 t.at'] 39)
  have R1 := ((R.alloc (.cells #[.int .i64 0, .int .i64 0, .string ⟨#[]⟩, .int .i64 0, nil3, .int .i64 0, .int .i64 0, .string ⟨#[]⟩, .int .i64 0, nil3, nil3, nil3, nil3] 90)).alloc o).alloc (.cells #[.int .i64 t.kind, .string (str t.text), .int .i64 t.num, .int .i64 t.at'] 39)
  clear L R
  generalize ((w.alloc (.cells #[.int .i64 0, .int .i64 0, .string ⟨#[]⟩, .int .i64 0, nil3, .int .i64 0, .int .i64 0, .string ⟨#[]⟩, .int .i64 0, nil3, nil3, nil3, nil3] 90)).alloc o).alloc (.cells #[.int .i64 t.kind, .string (str t.text), .int .i64 t.num, .int .i64 t.at'] 39) = W at *
  have y0 : W.cell? ⟨w.heap.size + 1 + 1, 0, none⟩ = some (.int .i64 t.kind) := B1.cell 0
  have y1 : W.cell? ⟨w.heap.size + 1 + 1, 1, none⟩ = some (.string (str t.text)) := B1.cell 1
  have y3 : W.cell? ⟨w.heap.size + 1 + 1, 3, none⟩ = some (.int .i64 t.at') := B1.cell 3
  have hT : ¬ w.heap.size + 1 + 1 = w.heap.size := by omega
  have hT' : ¬ w.heap.size = w.heap.size + 1 + 1 := by omega
  have TN := take_any R1.drew 4 (by decide)
  simp only [pKind, if_pos HK.out] at TN
  go_region_held3 (fun w' => w'.cell? ⟨w.heap.size + 1 + 1, 3, none⟩ = some (.int .i64 t.at')) (go_keep) (first
    | (go_at_call 69; refine TN.mono ?_; rintro e w4 ⟨F4, v4, rfl, rfl, R4⟩; unfold hdV; have M4 := (M1.kept (grown_drew _) (by simp)).kept F4 (fun e => by cases e; omega); have m0 : w4.cell? ⟨w.heap.size, 0, none⟩ = some (.int .i64 0) := M4.cell 0; have m1 : w4.cell? ⟨w.heap.size, 1, none⟩ = some (.int .i64 0) := M4.cell 1; have m2 : w4.cell? ⟨w.heap.size, 2, none⟩ = some (.string ⟨#[]⟩) := M4.cell 2; have m3 : w4.cell? ⟨w.heap.size, 3, none⟩ = some (.int .i64 0) := M4.cell 3; have m4 : w4.cell? ⟨w.heap.size, 4, none⟩ = some (nil3) := M4.cell 4; have m5 : w4.cell? ⟨w.heap.size, 5, none⟩ = some (.int .i64 0) := M4.cell 5; have m6 : w4.cell? ⟨w.heap.size, 6, none⟩ = some (.int .i64 0) := M4.cell 6; have m7 : w4.cell? ⟨w.heap.size, 7, none⟩ = some (.string ⟨#[]⟩) := M4.cell 7; have m8 : w4.cell? ⟨w.heap.size, 8, none⟩ = some (.int .i64 0) := M4.cell 8; have m9 : w4.cell? ⟨w.heap.size, 9, none⟩ = some (nil3) := M4.cell 9; have m10 : w4.cell? ⟨w.heap.size, 10, none⟩ = some (nil3) := M4.cell 10; have m11 : w4.cell? ⟨w.heap.size, 11, none⟩ = some (nil3) := M4.cell 11; have m12 : w4.cell? ⟨w.heap.size, 12, none⟩ = some (nil3) := M4.cell 12; have mz : ∀ j, w4.frozen? ⟨w.heap.size, j, none⟩ = false := M4.z; have B4 := (B1.kept (grown_drew _) (by simp)).kept F4 (fun e => by cases e; omega); have x1 : w4.cell? ⟨w.heap.size + 1 + 1, 1, none⟩ = some (.string (str t.text)) := B4.cell 1; have x3 : w4.cell? ⟨w.heap.size + 1 + 1, 3, none⟩ = some (.int .i64 t.at') := B4.cell 3; have F4' := (F1.drew).trans F4))
  all_goals
    have GS := grown_setCells w.heap.size [.int .i64 2, .int .i64 t.at', .string ⟨#[]⟩, .int .i64 t.num, nil3, .int .i64 0, .int .i64 0, .string ⟨#[]⟩, .int .i64 0, nil3, nil3, nil3, nil3] 0 w4
    obtain ⟨W5, hW5⟩ : ∃ W5, W5 = w4.setCells w.heap.size 0 [.int .i64 2, .int .i64 t.at', .string ⟨#[]⟩, .int .i64 t.num, nil3, .int .i64 0, .int .i64 0, .string ⟨#[]⟩, .int .i64 0, nil3, nil3, nil3, nil3] := ⟨_, rfl⟩
    change Exit.then _ _ Exit.normal _ (w4.setCells w.heap.size 0 [.int .i64 2, .int .i64 t.at', .string ⟨#[]⟩, .int .i64 t.num, nil3, .int .i64 0, .int .i64 0, .string ⟨#[]⟩, .int .i64 0, nil3, nil3, nil3, nil3])
    have BN := blk_full M4 [.int .i64 2, .int .i64 t.at', .string ⟨#[]⟩, .int .i64 t.num, nil3, .int .i64 0, .int .i64 0, .string ⟨#[]⟩, .int .i64 0, nil3, nil3, nil3, nil3] rfl
    rw [← hW5] at GS BN ⊢
    clear hW5 m0 m1 m2 m3 m4 m5 m6 m7 m8 m9 m10 m11 m12 mz
    go_wp2
    refine bodyPost_ret (results_cell_row Tryd.results99 _ _ w.heap.size 90 _ (0, 0) _ rfl BN Tryd.underlying90 rfl size90) rfl (Ans.ok (F4'.grown GS (fun i e => by cases e; exact Nat.le_refl _)) (R4.kept GS (fun i e => by cases e; exact lt)) ?_)
    exact ⟨_, rfl, isRow_nil _ _ _⟩

set_option maxRecDepth 100000 in
set_option maxHeartbeats 4000000 in
theorem pat_con {w : World} {b : Nat} {t : Tok} {r : List Tok} {n : Int} (R : Rd w b (t :: r) n 0) (hk : t.kind = 2) :
    Calls Tryd.prog 99 #[ptr b] w (Ans b n w isHV (.ok ((1, t.at', t.text, 0, (pNames r).1), (pNames r).2))) := by
  have lt := R.lt
  have L := fun o => look_any (R.alloc o)
  simp only [hdV] at L
  have d2 : (t.kind == 2) = true := by simp [hk]
  have hN : (pNames r).1.length ≤ 16384 := by have := pNames_len r; have := R.len; simp only [List.length_cons] at this; omega
  have HK : Hid (t.kind = 2) := ⟨hk⟩
  clear hk
  go_enter Tryd.func99, Tryd.ntmps99
  go_upto_region 4 with (go_at_call 22; refine (L _).mono ?_; rintro e w1 ⟨rfl, o, rfl⟩)
  have B1 : Blk (((w.alloc (.cells #[.int .i64 0, .int .i64 0, .string ⟨#[]⟩, .int .i64 0, nil3, .int .i64 0, .int .i64 0, .string ⟨#[]⟩, .int .i64 0, nil3, nil3, nil3, nil3] 90)).alloc o).alloc (.cells #[.int .i64 t.kind, .string (str t.text), .int .i64 t.num, .int .i64 t.at'] 39)) (w.heap.size + 1 + 1) #[.int .i64 t.kind, .string (str t.text), .int .i64 t.num, .int .i64 t.at'] 39 := by have := Blk.fresh ((w.alloc (.cells #[.int .i64 0, .int .i64 0, .string ⟨#[]⟩, .int .i64 0, nil3, .int .i64 0, .int .i64 0, .string ⟨#[]⟩, .int .i64 0, nil3, nil3, nil3, nil3] 90)).alloc o) #[.int .i64 t.kind, .string (str t.text), .int .i64 t.num, .int .i64 t.at'] 39; simpa using this
  have M1 := ((Blk.fresh w #[.int .i64 0, .int .i64 0, .string ⟨#[]⟩, .int .i64 0, nil3, .int .i64 0, .int .i64 0, .string ⟨#[]⟩, .int .i64 0, nil3, nil3, nil3, nil3] 90).alloc o).alloc (.cells #[.int .i64 t.kind, .string (str t.text), .int .i64 t.num, .int .i64 t.at'] 39)
  have F1 := (((Fr.refl b w).alloc (.cells #[.int .i64 0, .int .i64 0, .string ⟨#[]⟩, .int .i64 0, nil3, .int .i64 0, .int .i64 0, .string ⟨#[]⟩, .int .i64 0, nil3, nil3, nil3, nil3] 90)).alloc o).alloc (.cells #[.int .i64 t.kind, .string (str t.text), .int .i64 t.num, .int .i64 t.at'] 39)
  have R1 := ((R.alloc (.cells #[.int .i64 0, .int .i64 0, .string ⟨#[]⟩, .int .i64 0, nil3, .int .i64 0, .int .i64 0, .string ⟨#[]⟩, .int .i64 0, nil3, nil3, nil3, nil3] 90)).alloc o).alloc (.cells #[.int .i64 t.kind, .string (str t.text), .int .i64 t.num, .int .i64 t.at'] 39)
  clear L R
  generalize ((w.alloc (.cells #[.int .i64 0, .int .i64 0, .string ⟨#[]⟩, .int .i64 0, nil3, .int .i64 0, .int .i64 0, .string ⟨#[]⟩, .int .i64 0, nil3, nil3, nil3, nil3] 90)).alloc o).alloc (.cells #[.int .i64 t.kind, .string (str t.text), .int .i64 t.num, .int .i64 t.at'] 39) = W at *
  have y0 : W.cell? ⟨w.heap.size + 1 + 1, 0, none⟩ = some (.int .i64 t.kind) := B1.cell 0
  have y1 : W.cell? ⟨w.heap.size + 1 + 1, 1, none⟩ = some (.string (str t.text)) := B1.cell 1
  have y3 : W.cell? ⟨w.heap.size + 1 + 1, 3, none⟩ = some (.int .i64 t.at') := B1.cell 3
  have hT : ¬ w.heap.size + 1 + 1 = w.heap.size := by omega
  have hT' : ¬ w.heap.size = w.heap.size + 1 + 1 := by omega
  have TN := take_any R1 2 (by decide)
  simp only [pKind, if_pos HK.out] at TN
  go_upto_region 5 with (go_at_call 69; refine TN.mono ?_; rintro e w3 ⟨F3, v3, rfl, rfl, R3⟩; have M3 := M1.kept F3 (fun e => by cases e; omega); have B3 := B1.kept F3 (fun e => by cases e; omega); have F3' := F1.trans F3; clear F3)
  have z1 : w3.cell? ⟨w.heap.size + 1 + 1, 1, none⟩ = some (.string (str t.text)) := B3.cell 1
  have z3 : w3.cell? ⟨w.heap.size + 1 + 1, 3, none⟩ = some (.int .i64 t.at') := B3.cell 3
  clear TN M1 B1 F1 R1 y0 y1 y3
  have M1 := M3
  have B1 := B3
  have F1 := F3'
  have NM := names_any R3.drew
  go_region_held3 (fun w' => w'.cell? ⟨w.heap.size + 1 + 1, 1, none⟩ = some (.string (str t.text)) ∧ w'.cell? ⟨w.heap.size + 1 + 1, 3, none⟩ = some (.int .i64 t.at')) (go_keep) (first
    | (go_at_call 79; refine NM.mono ?_; rintro e w4 ⟨v4, rfl, F4, R4, O4, _⟩; obtain ⟨ga, ca, rfl⟩ := own_form O4; have M4 := (M1.kept (grown_drew _) (by simp)).kept F4 (fun e => by cases e; omega); have m0 : w4.cell? ⟨w.heap.size, 0, none⟩ = some (.int .i64 0) := M4.cell 0; have m1 : w4.cell? ⟨w.heap.size, 1, none⟩ = some (.int .i64 0) := M4.cell 1; have m2 : w4.cell? ⟨w.heap.size, 2, none⟩ = some (.string ⟨#[]⟩) := M4.cell 2; have m3 : w4.cell? ⟨w.heap.size, 3, none⟩ = some (.int .i64 0) := M4.cell 3; have m4 : w4.cell? ⟨w.heap.size, 4, none⟩ = some (nil3) := M4.cell 4; have m5 : w4.cell? ⟨w.heap.size, 5, none⟩ = some (.int .i64 0) := M4.cell 5; have m6 : w4.cell? ⟨w.heap.size, 6, none⟩ = some (.int .i64 0) := M4.cell 6; have m7 : w4.cell? ⟨w.heap.size, 7, none⟩ = some (.string ⟨#[]⟩) := M4.cell 7; have m8 : w4.cell? ⟨w.heap.size, 8, none⟩ = some (.int .i64 0) := M4.cell 8; have m9 : w4.cell? ⟨w.heap.size, 9, none⟩ = some (nil3) := M4.cell 9; have m10 : w4.cell? ⟨w.heap.size, 10, none⟩ = some (nil3) := M4.cell 10; have m11 : w4.cell? ⟨w.heap.size, 11, none⟩ = some (nil3) := M4.cell 11; have m12 : w4.cell? ⟨w.heap.size, 12, none⟩ = some (nil3) := M4.cell 12; have mz : ∀ j, w4.frozen? ⟨w.heap.size, j, none⟩ = false := M4.z; have B4 := (B1.kept (grown_drew _) (by simp)).kept F4 (fun e => by cases e; omega); have x1 : w4.cell? ⟨w.heap.size + 1 + 1, 1, none⟩ = some (.string (str t.text)) := B4.cell 1; have x3 : w4.cell? ⟨w.heap.size + 1 + 1, 3, none⟩ = some (.int .i64 t.at') := B4.cell 3; have F4' := (F1.drew).trans F4))
  all_goals
    have GS := grown_setCells w.heap.size [.int .i64 1, .int .i64 t.at', .string (str t.text), .int .i64 0, .slice ga (pNames r).1.length ca, .int .i64 0, .int .i64 0, .string ⟨#[]⟩, .int .i64 0, nil3, nil3, nil3, nil3] 0 w4
    obtain ⟨W5, hW5⟩ : ∃ W5, W5 = w4.setCells w.heap.size 0 [.int .i64 1, .int .i64 t.at', .string (str t.text), .int .i64 0, .slice ga (pNames r).1.length ca, .int .i64 0, .int .i64 0, .string ⟨#[]⟩, .int .i64 0, nil3, nil3, nil3, nil3] := ⟨_, rfl⟩
    change Exit.then _ _ Exit.normal _ (w4.setCells w.heap.size 0 [.int .i64 1, .int .i64 t.at', .string (str t.text), .int .i64 0, .slice ga (pNames r).1.length ca, .int .i64 0, .int .i64 0, .string ⟨#[]⟩, .int .i64 0, nil3, nil3, nil3, nil3])
    have BN := blk_full M4 [.int .i64 1, .int .i64 t.at', .string (str t.text), .int .i64 0, .slice ga (pNames r).1.length ca, .int .i64 0, .int .i64 0, .string ⟨#[]⟩, .int .i64 0, nil3, nil3, nil3, nil3] rfl
    rw [← hW5] at GS BN ⊢
    clear hW5 m0 m1 m2 m3 m4 m5 m6 m7 m8 m9 m10 m11 m12 mz
    go_wp2
    refine bodyPost_ret (results_cell_row Tryd.results99 _ _ w.heap.size 90 _ (0, 0) _ rfl BN Tryd.underlying90 rfl size90) rfl (Ans.ok (F4'.grown GS (fun i e => by cases e; exact Nat.le_refl _)) (R4.kept GS (fun i e => by cases e; exact lt)) ?_)
    exact ⟨_, rfl, IsRow.keeps (keeps_grown GS (fun g hg e => by cases e; have : w3.heap.size ≤ w.heap.size := hg.1; have := M3.lt; omega) (fun g hg => ⟨by have : w3.heap.size ≤ g := hg.1; have := M3.lt; omega, Nat.lt_of_lt_of_le hg.2 GS.size⟩)) (own_row (m := 0) O4 (show (pNames r).1.length ≤ _ by omega))⟩

set_option maxRecDepth 100000 in
set_option maxHeartbeats 4000000 in
theorem pat_bad {w : World} {b : Nat} {l : List Tok} {n : Int} (R : Rd w b l n 0) (hk : ∀ t r, l = t :: r → t.kind ≠ 2 ∧ t.kind ≠ 4 ∧ t.kind ≠ 1) :
    Calls Tryd.prog 99 #[ptr b] w (Ans b n w isHV (.error (23, l))) := by
  have lt := R.lt
  have L := fun o => look_any (R.alloc o)
  have TN := fun o o' o'' => takeName_any ((((R.alloc o).alloc o').alloc o'').drew)
  have h1 : pKind 1 l = .error (23, l) := by
    rcases pKind_cases 1 l with ⟨t, r, e, tk, _⟩ | h
    · exact absurd tk (hk t r e).2.2
    · exact h
  simp only [h1] at TN
  have kd : ∃ k : Int, k ≠ 2 ∧ k ≠ 4 ∧ ∃ s m a, hdV l n = .agg #[.int .i64 k, .string s, .int .i64 m, .int .i64 a] := by
    cases l with
    | nil => exact ⟨0, by decide, by decide, _, _, _, rfl⟩
    | cons u q => exact ⟨u.kind, (hk u q rfl).1, (hk u q rfl).2.1, _, _, _, rfl⟩
  obtain ⟨k, k2, k4, s, m, a, hh⟩ := kd
  rw [hh] at L
  have d2 : (k == 2) = false := by simp [k2]
  have d4 : (k == 4) = false := by simp [k4]
  clear R hh h1 hk
  go_enter Tryd.func99, Tryd.ntmps99
  go_upto_region 8 with (go_at_call 22; refine (L _).mono ?_; rintro e w1 ⟨rfl, o, rfl⟩)
  go_region_dies
  all_goals
    refine (TN _ _ _).mono ?_
    rintro e w4 ⟨F4, rfl, R4⟩
    exact ⟨rfl, Ans.err (((((Fr.refl b w).alloc _).alloc _).alloc _).drew.trans F4) R4⟩

theorem pattern_any {w : World} {b : Nat} {l : List Tok} {n : Int} (R : Rd w b l n 0) : Calls Tryd.prog 99 #[ptr b] w (Ans b n w isHV (pHead l)) := by
  cases l with
  | nil => exact pat_bad R (fun t r e => by cases e)
  | cons t r =>
    by_cases h2 : t.kind = 2
    · have := pat_con R h2
      simpa only [pHead, if_pos h2] using this
    · by_cases h4 : t.kind = 4
      · have := pat_int R h4
        simpa only [pHead, if_neg h2, if_pos h4] using this
      · by_cases h1 : t.kind = 1
        · have := pat_name R h1
          simpa only [pHead, if_neg h2, if_neg h4, if_pos h1] using this
        · have := pat_bad R (fun u q e => by cases e; exact ⟨h2, h4, h1⟩)
          simpa only [pHead, if_neg h2, if_neg h4, if_neg h1] using this

end Go.Proofs.YtoedeedoecdajaaDoor
