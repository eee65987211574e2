/- Package tree's parser: expressions: numbers, parentheses; all. -/
import Derived.Test.YtoedeedoecdajaaDoorExps
namespace Go.Proofs.YtoedeedoecdajaaDoor
open Go.RowKit
set_option linter.unusedVariables false
set_option linter.unusedSimpArgs false

set_option maxRecDepth 100000 in
set_option maxHeartbeats 4000000 in
theorem exp_int {d : Nat} {k : Int} (hk1 : ¬ 60 < k) {w : World} {b : Nat} {t : Tok} {r : List Tok} {n : Int} (R : Rd w b (t :: r) n 0) (k4 : t.kind = 4) :
    Calls Tryd.prog 77 #[ptr b, .int .i64 k] w (Ans b n w isEV (pExp (d + 1) (t :: r))) := by
  have lt := R.lt
  have L := fun o => look_any (R.alloc o)
  simp only [hdV] at L
  rw [show pExp (d + 1) (t :: r) = .ok (.mk 4 t.at' [] t.num [] [] [] [], r) by simp only [pExp]; rw [if_pos k4]]
  have d1 : (t.kind == 1) = false := by simp [k4]
  have d2 : (t.kind == 2) = false := by simp [k4]
  have d3 : (t.kind == 3) = false := by simp [k4]
  have d4 : (t.kind == 4) = true := by simp [k4]
  have f2 := field2
  have HK : Hid (t.kind = 4) := ⟨k4⟩
  clear k4
  go_enter Tryd.func77, Tryd.ntmps77
  go_upto_region 12 with (go_at_call 22; refine (L _).mono ?_; rintro e w1 ⟨rfl, o, rfl⟩)
  have B1 : Blk (((w.alloc (.cells #[.int .i64 0, .int .i64 0, .string ⟨#[]⟩, .int .i64 0, nil3, nil3, nil3, nil3] 46)).alloc o).alloc (.cells #[.int .i64 t.kind, .string (str t.text), .int .i64 t.num, .int .i64 t.at'] 39)) (w.heap.size + 1 + 1) #[.int .i64 t.kind, .string (str t.text), .int .i64 t.num, .int .i64 t.at'] 39 := by have := Blk.fresh ((w.alloc (.cells #[.int .i64 0, .int .i64 0, .string ⟨#[]⟩, .int .i64 0, nil3, nil3, nil3, nil3] 46)).alloc o) #[.int .i64 t.kind, .string (str t.text), .int .i64 t.num, .int .i64 t.at'] 39; simpa using this
  have M1 := ((Blk.fresh w #[.int .i64 0, .int .i64 0, .string ⟨#[]⟩, .int .i64 0, nil3, nil3, nil3, nil3] 46).alloc o).alloc (.cells #[.int .i64 t.kind, .string (str t.text), .int .i64 t.num, .int .i64 t.at'] 39)
  have F1 := (((Fr.refl b w).alloc (.cells #[.int .i64 0, .int .i64 0, .string ⟨#[]⟩, .int .i64 0, nil3, nil3, nil3, nil3] 46)).alloc o).alloc (.cells #[.int .i64 t.kind, .string (str t.text), .int .i64 t.num, .int .i64 t.at'] 39)
  have R1 := ((R.alloc (.cells #[.int .i64 0, .int .i64 0, .string ⟨#[]⟩, .int .i64 0, nil3, nil3, nil3, nil3] 46)).alloc o).alloc (.cells #[.int .i64 t.kind, .string (str t.text), .int .i64 t.num, .int .i64 t.at'] 39)
  clear L R
  generalize ((w.alloc (.cells #[.int .i64 0, .int .i64 0, .string ⟨#[]⟩, .int .i64 0, nil3, nil3, nil3, nil3] 46)).alloc o).alloc (.cells #[.int .i64 t.kind, .string (str t.text), .int .i64 t.num, .int .i64 t.at'] 39) = W at *
  have y3 : W.cell? ⟨w.heap.size + 1 + 1, 3, none⟩ = some (.int .i64 t.at') := B1.cell 3
  have hT : ¬ w.heap.size + 1 + 1 = w.heap.size := by omega
  have hT' : ¬ w.heap.size = w.heap.size + 1 + 1 := by omega
  have TN := take_any R1.drew 4 (by decide)
  simp only [pKind, if_pos HK.out] at TN
  go_region_held3 (fun w' => w'.cell? ⟨w.heap.size + 1 + 1, 3, none⟩ = some (.int .i64 t.at')) (go_keep) (first
    | (go_at_call 69; refine TN.mono ?_; rintro e w4 ⟨F4, v4, rfl, rfl, R4⟩; unfold hdV; have M4 := (M1.kept (grown_drew _) (by simp)).kept F4 (fun e => by cases e; omega); have m0 : w4.cell? ⟨w.heap.size, 0, none⟩ = some (.int .i64 0) := M4.cell 0; have m1 : w4.cell? ⟨w.heap.size, 1, none⟩ = some (.int .i64 0) := M4.cell 1; have m2 : w4.cell? ⟨w.heap.size, 2, none⟩ = some (.string ⟨#[]⟩) := M4.cell 2; have m3 : w4.cell? ⟨w.heap.size, 3, none⟩ = some (.int .i64 0) := M4.cell 3; have m4 : w4.cell? ⟨w.heap.size, 4, none⟩ = some (nil3) := M4.cell 4; have m5 : w4.cell? ⟨w.heap.size, 5, none⟩ = some (nil3) := M4.cell 5; have m6 : w4.cell? ⟨w.heap.size, 6, none⟩ = some (nil3) := M4.cell 6; have m7 : w4.cell? ⟨w.heap.size, 7, none⟩ = some (nil3) := M4.cell 7; have mz : ∀ j, w4.frozen? ⟨w.heap.size, j, none⟩ = false := M4.z; have B4 := (B1.kept (grown_drew _) (by simp)).kept F4 (fun e => by cases e; omega); have x3 : w4.cell? ⟨w.heap.size + 1 + 1, 3, none⟩ = some (.int .i64 t.at') := B4.cell 3; have F4' := (F1.drew).trans F4))
  all_goals
    have GS := grown_setCells w.heap.size [.int .i64 4, .int .i64 t.at', .string ⟨#[]⟩, .int .i64 t.num, nil3, nil3, nil3, nil3] 0 w4
    obtain ⟨W5, hW5⟩ : ∃ W5, W5 = w4.setCells w.heap.size 0 [.int .i64 4, .int .i64 t.at', .string ⟨#[]⟩, .int .i64 t.num, nil3, nil3, nil3, nil3] := ⟨_, rfl⟩
    change Exit.then _ _ Exit.normal _ (w4.setCells w.heap.size 0 [.int .i64 4, .int .i64 t.at', .string ⟨#[]⟩, .int .i64 t.num, nil3, nil3, nil3, nil3])
    have BN := blk_full M4 [.int .i64 4, .int .i64 t.at', .string ⟨#[]⟩, .int .i64 t.num, nil3, nil3, nil3, nil3] rfl
    rw [← hW5] at GS BN ⊢
    clear hW5 m0 m1 m2 m3 m4 m5 m6 m7 mz
    go_wp2
    refine bodyPost_ret (results_cell_row Tryd.results77 _ _ w.heap.size 46 _ (0, 0) _ rfl BN Tryd.underlying46 rfl size46) rfl (Ans.ok (F4'.grown GS (fun i e => by cases e; exact Nat.le_refl _)) (R4.kept GS (fun i e => by cases e; exact lt)) ?_)
    exact ⟨_, rfl, by simp only [isE]; exact ⟨_, _, _, _, [], [], [], rfl, isRow_nil _ _ _, isRow_nil _ _ _, by simp only [isBs], isRow_nil _ _ _, by simp only [isEs], isRow_nil _ _ _, by simp only [isAs]⟩⟩
set_option maxRecDepth 100000 in
set_option maxHeartbeats 4000000 in
theorem exp_par {d : Nat} (hE : ExpOK d) {k : Int} (hk : k = 60 - d) (h0 : 0 ≤ k) {w : World} {b : Nat} {t : Tok} {r : List Tok} {n : Int} (R : Rd w b (t :: r) n 0) (kk : ¬ (t.kind = 1 ∨ t.kind = 2 ∨ t.kind = 3)) (k4 : ¬ t.kind = 4) (hl : isS [108, 101, 116] (t :: r) = false) (hc : isS [99, 97, 115, 101] (t :: r) = false) :
    Calls Tryd.prog 77 #[ptr b, .int .i64 k] w (Ans b n w isEV (pExp (d + 1) (t :: r))) := by
  have lt := R.lt
  have L := fun o => look_any (R.alloc o)
  simp only [hdV] at L
  have hk1 : ¬ 60 < k := by omega
  have kw : IntKind.i64.wrap (k + 1) = k + 1 := by rw [IntKind.wrap_i64]; omega
  have E1 : (str t.text).toList = t.text := by rw [ByteArray.toList_eq, str_list]
  have e1 : (t.kind == 1) = false := by simp; omega
  have e2 : (t.kind == 2) = false := by simp; omega
  have e3 : (t.kind == 3) = false := by simp; omega
  have e4 : (t.kind == 4) = false := by simp; omega
  have sl := R.g.stands (s := [108, 101, 116]) (by decide)
  have tn : ((str t.text).toList == [108, 101, 116]) = false := by rw [E1]; rw [hl] at sl; simpa using sl.symm
  have sc := R.g.stands (s := [99, 97, 115, 101]) (by decide)
  have tc : ((str t.text).toList == [99, 97, 115, 101]) = false := by rw [E1]; rw [hc] at sc; simpa using sc.symm
  obtain ⟨P, hP⟩ : ∃ P, pExp (d + 1) (t :: r) = P := ⟨_, rfl⟩
  have HP : Hid (P = andT (pWant [40] (t :: r)) fun _ r => andT (pExp d r) fun x r => andT (pWant [41] r) fun _ r => .ok (x, r)) := ⟨by
    rw [← hP]
    simp only [pExp]
    rw [if_neg k4, if_neg kk, hl, if_neg (by simp), hc, if_neg (by simp)]
    cases hp : isS [40] (t :: r) with
    | true => simp only [pWant, hp, if_true, andT]; rfl
    | false => simp only [pWant, hp, Bool.false_eq_true, if_false, andT]⟩
  rw [hP]
  have PA := fun o => pass_any (((R.alloc (.cells #[.int .i64 0, .int .i64 0, .string ⟨#[]⟩, .int .i64 0, nil3, nil3, nil3, nil3] 46)).alloc o).alloc (.cells #[.int .i64 t.kind, .string (str t.text), .int .i64 t.num, .int .i64 t.at'] 39)) (s := [40]) (by decide) (by decide)
  rw [show str [40] = ⟨#[40]⟩ from rfl] at PA
  have HEX : Hid (ExpOK d) := ⟨hE⟩
  have HK : Hid (k = 60 - d) := ⟨hk⟩
  clear R hE hk h0 kk k4 hl hc E1 sl sc hP
  go_enter Tryd.func77, Tryd.ntmps77
  go_wp2_with (first
    | (go_at_call 22; refine (L _).mono ?_; rintro e w1 ⟨rfl, o, rfl⟩)
    | (go_at_call_of 68 (Value.string { data := #[40] }); refine (PA _).mono ?_; intro e w2 h2; rcases h2.cases with ⟨x2, r2, v2, hp2, rfl, F2, rfl, R2⟩ | ⟨c2, r2, hp2, rfl, F2, R2⟩; have F2' := ((((Fr.refl b w).alloc _).alloc _).alloc _).trans F2; have M2 := (((Blk.fresh w #[.int .i64 0, .int .i64 0, .string ⟨#[]⟩, .int .i64 0, nil3, nil3, nil3, nil3] 46).alloc o).alloc _).kept F2 (fun e => by cases e; omega); have HP2 : Hid (_ = _) := ⟨hp2⟩; clear F2 hp2 h2; have XP := HEX.out (k + 1) (by have := HK.out; omega) _ b r2 n R2)
    | (go_at_call 77; refine XP.mono ?_; intro e w3 h3; rcases h3.cases with ⟨x3, r3, v3, hp3, rfl, F3, ⟨c, rfl, I2⟩, R3⟩ | ⟨c3, r3, hp3, rfl, F3, R3⟩; obtain ⟨k0, a0, m0, s0, g4, g5, g6, g7, n4, n5, n6, n7, c4, c5, c6, c7, rfl⟩ := isE_eight I2; have HE : Hid (isE _ _ _ _) := ⟨I2⟩; have HP3 : Hid (_ = _) := ⟨hp3⟩; have s3 := F3.size; have F3' := F2'.trans F3; have M3 := M2.kept F3 (fun e => by cases e; omega); have r3lt := R3.lt; have PC := fun o => pass_any (R3.alloc o) (s := [41]) (by decide) (by decide); rw [show str [41] = ⟨#[41]⟩ from rfl] at PC; clear I2 F3 XP hp3 h3)
    | (go_at_call_of 68 (Value.string { data := #[41] }); refine (PC _).mono ?_; intro e w4 h4; rcases h4.cases with ⟨x4, r4, v4, hp4, rfl, F4, rfl, R4⟩ | ⟨c4', r4, hp4, rfl, F4, R4⟩; have HF4 : Hid (Fr b _ w4) := ⟨F4⟩; have M4 := (M3.alloc _).kept F4 (fun e => by cases e; omega); have D4 := (Blk.fresh w3 #[.int .i64 k0, .int .i64 a0, .string s0, .int .i64 m0, .slice g4 n4 c4, .slice g5 n5 c5, .slice g6 n6 c6, .slice g7 n7 c7] 46).kept F4 (fun e => by cases e; omega); have F4' := (F3'.alloc _).trans F4; clear F4 h4 PC)
    | (refine wpList_load_row rfl 46 _ rfl w3.heap.size rfl 46 _ (0, 0) _ D4 Tryd.underlying46 rfl size46 ?_)
    | (refine wpList_store_row rfl 46 _ _ rfl w.heap.size _ rfl rfl 46 _ M4 size46 rfl (by simp [Value.oneCell']) ?_))
  · rw [show P = .ok (x3, r4) by rw [HP.out, HP2.out]; simp only [andT, HP3.out, hp4]]
    have b2 := R2.lt
    have s2 := F2'.size
    have m2 := M2.lt
    have s4 := HF4.out.size
    simp only [World.size_alloc] at s4
    refine bodyPost_ret (results_cell_row Tryd.results77 _ _ w.heap.size 46 #[.int .i64 k0, .int .i64 a0, .string s0, .int .i64 m0, .slice g4 n4 c4, .slice g5 n5 c5, .slice g6 n6 c6, .slice g7 n7 c7] (0, 0) _ rfl M4.set Tryd.underlying46 rfl size46) rfl (Ans.ok (F4'.setRow (Nat.le_refl _) _) (R4.setRow lt _) ?_)
    have k1 : Keeps (new w2 w3) (new w (w4.setRow w.heap.size #[.int .i64 k0, .int .i64 a0, .string s0, .int .i64 m0, .slice g4 n4 c4, .slice g5 n5 c5, .slice g6 n6 c6, .slice g7 n7 c7])) w3 (w4.setRow w.heap.size #[.int .i64 k0, .int .i64 a0, .string s0, .int .i64 m0, .slice g4 n4 c4, .slice g5 n5 c5, .slice g6 n6 c6, .slice g7 n7 c7]) :=
      ⟨fun g off u h hc => (grown_setRow w4 w.heap.size #[.int .i64 k0, .int .i64 a0, .string s0, .int .i64 m0, .slice g4 n4 c4, .slice g5 n5 c5, .slice g6 n6 c6, .slice g7 n7 c7]).cell (HF4.out.cell ((grown_alloc w3 _).cell hc (fun e => by cases e)) (fun e => by have e' : g = b := Option.some.inj e; have := h.1; omega)) (fun e => by have e' : g = w.heap.size := Option.some.inj e; have := h.1; omega), fun g h => ⟨by have := h.1; omega, by rw [size_setRow]; have := h.2; omega⟩⟩
    exact ⟨_, rfl, isE_keeps k1 x3 _ HE.out⟩
  · exact ⟨rfl, Ans.of_err ((F3'.alloc _).trans F4) R4 (by rw [HP.out, HP2.out]; simp only [andT, HP3.out, hp4])⟩
  · exact ⟨rfl, Ans.of_err (F2'.trans F3) R3 (by rw [HP.out, HP2.out]; simp only [andT, hp3])⟩
  · exact ⟨rfl, Ans.of_err (((((Fr.refl b w).alloc _).alloc _).alloc _).trans F2) R2 (by rw [HP.out]; simp only [hp2, andT])⟩
theorem exp_step {d : Nat} (hd : d < 61) (hE : ExpOK d) : ExpOK (d + 1) := by
  intro k hk w b l n R
  have hk60 : k = 60 - d := by omega
  have h0 : 0 ≤ k := by omega
  cases l with
  | nil => exact exp_end R
  | cons t r =>
    by_cases kk : t.kind = 1 ∨ t.kind = 2 ∨ t.kind = 3
    · exact exp_call (by omega) R kk
    · by_cases k4 : t.kind = 4
      · exact exp_int (by omega) R k4
      · by_cases hl : isS [108, 101, 116] (t :: r) = true
        · exact exp_let hE hk60 h0 R kk k4 hl
        · have hl : isS [108, 101, 116] (t :: r) = false := by simpa using hl
          by_cases hc : isS [99, 97, 115, 101] (t :: r) = true
          · exact exp_case hE hk60 h0 R kk k4 hl hc
          · exact exp_par hE hk60 h0 R kk k4 hl (by simpa using hc)
theorem exp_all : ∀ d, d < 62 → ExpOK d
  | 0, _ => exp_zero
  | d + 1, h => exp_step (by omega) (exp_all d (by omega))

end Go.Proofs.YtoedeedoecdajaaDoor
