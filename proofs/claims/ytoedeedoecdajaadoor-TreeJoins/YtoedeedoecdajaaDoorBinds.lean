/- Package tree's parser: binds. -/
import Derived.Test.YtoedeedoecdajaaDoorForms
namespace Go.Proofs.YtoedeedoecdajaaDoor
open Go.RowKit
set_option linter.unusedVariables false
set_option linter.unusedSimpArgs false

def isBV (w : World) (ok : Nat → Prop) (x : B) (v : Value) : Prop := ∃ c, v = .agg c.toArray ∧ isB w ok x c
theorem size51 : (Tryd.prog.info? 51).map (·.size) = some 11 := by kernel_rfl
theorem row_form {w : World} {ok : Nat → Prop} {xs : List Value} {m : Nat} {v : Value} (h : IsRow w ok xs m v) : ∃ ga na ca, v = .slice ga na ca := by
  obtain ⟨ga, ca, rfl, _⟩ := h
  exact ⟨ga, m, ca, rfl⟩

set_option maxRecDepth 100000 in
set_option maxHeartbeats 8000000 in
theorem bind_any {d : Nat} (hE : ExpOK d) {k : Int} (hk : k = 61 - d) {w : World} {b : Nat} {l : List Tok} {n : Int} (R : Rd w b l n 0) :
    Calls Tryd.prog 37 #[ptr b, .int .i64 k] w (Ans b n w isBV (pBind (pExp d) l)) := by
  have lt := R.lt
  have T0 := fun o => take_any (R.alloc o) 1 (by decide)
  rw [pBind_form]
  clear R
  have HEX : Hid (ExpOK d) := ⟨hE⟩
  have HK : Hid (k = 61 - d) := ⟨hk⟩
  clear hk hE
  rcases pKind_cases 1 l with ⟨t, r, rfl, tk, h1⟩ | h1
  · rw [h1] at T0 ⊢
    clear tk
    simp only [andT]
    rcases h2 : pWant [61] r with ⟨c2, r2⟩ | ⟨_, r2⟩
    · simp only
      go_enter Tryd.func37, Tryd.ntmps37
      go_wp2_with (first
      | (go_at_call 69; refine (T0 _).mono ?_; rintro e w1 ⟨F1, v1, rfl, rfl, R1⟩; unfold hdV; have M1 := (Blk.fresh w #[.string ⟨#[]⟩, .int .i64 0, nil3, .int .i64 0, .int .i64 0, .string ⟨#[]⟩, .int .i64 0, nil3, nil3, nil3, nil3] 51).kept F1 (fun e => by cases e; omega); have F1' := ((Fr.refl b w).alloc _).trans F1; have B1 := Blk.fresh w1 #[.int .i64 t.kind, .string (str t.text), .int .i64 t.num, .int .i64 t.at'] 39; have PW := pass_any (R1.alloc (.cells #[.int .i64 t.kind, .string (str t.text), .int .i64 t.num, .int .i64 t.at'] 39)) (s := [61]) (by decide) (by decide); rw [h2, show str [61] = ⟨#[61]⟩ from rfl] at PW; clear F1)
      | (go_at_call_of 68 (Value.string { data := #[61] }); refine PW.mono ?_; rintro e w2 ⟨F2, rfl, R2⟩))
      exact ⟨rfl, Ans.err ((F1'.alloc _).trans F2) R2⟩
    · simp only
      rcases h3 : pForm (pExp d) r2 with ⟨c3, r3⟩ | ⟨⟨ns, x⟩, r3⟩
      · simp only
        go_enter Tryd.func37, Tryd.ntmps37
        go_wp2_with (first
      | (go_at_call 69; refine (T0 _).mono ?_; rintro e w1 ⟨F1, v1, rfl, rfl, R1⟩; unfold hdV; have M1 := (Blk.fresh w #[.string ⟨#[]⟩, .int .i64 0, nil3, .int .i64 0, .int .i64 0, .string ⟨#[]⟩, .int .i64 0, nil3, nil3, nil3, nil3] 51).kept F1 (fun e => by cases e; omega); have F1' := ((Fr.refl b w).alloc _).trans F1; have B1 := Blk.fresh w1 #[.int .i64 t.kind, .string (str t.text), .int .i64 t.num, .int .i64 t.at'] 39; have PW := pass_any (R1.alloc (.cells #[.int .i64 t.kind, .string (str t.text), .int .i64 t.num, .int .i64 t.at'] 39)) (s := [61]) (by decide) (by decide); rw [h2, show str [61] = ⟨#[61]⟩ from rfl] at PW; clear F1)
      | (go_at_call_of 68 (Value.string { data := #[61] }); refine PW.mono ?_; rintro e w2 ⟨F2, v2, rfl, rfl, R2⟩; have hb1 := R1.lt; have M2 := (M1.alloc _).kept F2 (fun e => by cases e; omega); have B2 := B1.kept F2 (fun e => by cases e; omega); have F2' := (F1'.alloc _).trans F2; have FO := form_any HEX.out HK.out R2; rw [h3] at FO; clear F2 PW)
      | (go_at_call 70; refine FO.mono ?_; rintro e w3 ⟨F3, rfl, R3⟩))
        exact ⟨rfl, Ans.err (F2'.trans F3) R3⟩
      · simp only
        rcases h4 : pWant [59] r3 with ⟨c4, r4⟩ | ⟨_, r4⟩
        · simp only
          go_enter Tryd.func37, Tryd.ntmps37
          go_wp2_with (first
      | (go_at_call 69; refine (T0 _).mono ?_; rintro e w1 ⟨F1, v1, rfl, rfl, R1⟩; unfold hdV; have M1 := (Blk.fresh w #[.string ⟨#[]⟩, .int .i64 0, nil3, .int .i64 0, .int .i64 0, .string ⟨#[]⟩, .int .i64 0, nil3, nil3, nil3, nil3] 51).kept F1 (fun e => by cases e; omega); have F1' := ((Fr.refl b w).alloc _).trans F1; have B1 := Blk.fresh w1 #[.int .i64 t.kind, .string (str t.text), .int .i64 t.num, .int .i64 t.at'] 39; have PW := pass_any (R1.alloc (.cells #[.int .i64 t.kind, .string (str t.text), .int .i64 t.num, .int .i64 t.at'] 39)) (s := [61]) (by decide) (by decide); rw [h2, show str [61] = ⟨#[61]⟩ from rfl] at PW; clear F1)
      | (go_at_call_of 68 (Value.string { data := #[61] }); refine PW.mono ?_; rintro e w2 ⟨F2, v2, rfl, rfl, R2⟩; have hb1 := R1.lt; have M2 := (M1.alloc _).kept F2 (fun e => by cases e; omega); have B2 := B1.kept F2 (fun e => by cases e; omega); have F2' := (F1'.alloc _).trans F2; have FO := form_any HEX.out HK.out R2; rw [h3] at FO; clear F2 PW)
      | (go_at_call 70; refine FO.mono ?_; rintro e w3 ⟨F3, v3, rfl, ⟨va, c, rfl, IR, E3⟩, R3⟩; obtain ⟨k', a', m', s', g4, g5, g6, g7, n4, n5, n6, n7, c4, c5, c6, c7, rfl⟩ := isE_eight E3; obtain ⟨ga, na, ca, rfl⟩ := row_form IR; have M3 := ((M2.kept F3 (fun e => by cases e; omega)).alloc (.cells #[nil3, .int .i64 0, .int .i64 0, .string ⟨#[]⟩, .int .i64 0, nil3, nil3, nil3, nil3] 49)).kept (grown_setRow _ w3.heap.size #[.slice ga na ca, .int .i64 k', .int .i64 a', .string s', .int .i64 m', .slice g4 n4 c4, .slice g5 n5 c5, .slice g6 n6 c6, .slice g7 n7 c7]) (by have := F3.size; have := M2.lt; simp; omega); have B3 := ((B2.kept F3 (fun e => by cases e; omega)).alloc (.cells #[nil3, .int .i64 0, .int .i64 0, .string ⟨#[]⟩, .int .i64 0, nil3, nil3, nil3, nil3] 49)).kept (grown_setRow _ w3.heap.size #[.slice ga na ca, .int .i64 k', .int .i64 a', .string s', .int .i64 m', .slice g4 n4 c4, .slice g5 n5 c5, .slice g6 n6 c6, .slice g7 n7 c7]) (by have := F3.size; have := B2.lt; simp; omega); have D3 := (Blk.fresh w3 #[nil3, .int .i64 0, .int .i64 0, .string ⟨#[]⟩, .int .i64 0, nil3, nil3, nil3, nil3] 49).set (cs' := #[.slice ga na ca, .int .i64 k', .int .i64 a', .string s', .int .i64 m', .slice g4 n4 c4, .slice g5 n5 c5, .slice g6 n6 c6, .slice g7 n7 c7]); have F3' := ((F2'.trans F3).alloc (.cells #[nil3, .int .i64 0, .int .i64 0, .string ⟨#[]⟩, .int .i64 0, nil3, nil3, nil3, nil3] 49)).setRow (M := w3.heap.size) (by have := F3.size; have := F2'.size; omega) #[.slice ga na ca, .int .i64 k', .int .i64 a', .string s', .int .i64 m', .slice g4 n4 c4, .slice g5 n5 c5, .slice g6 n6 c6, .slice g7 n7 c7]; have R3' := (R3.alloc (.cells #[nil3, .int .i64 0, .int .i64 0, .string ⟨#[]⟩, .int .i64 0, nil3, nil3, nil3, nil3] 49)).setRow (M := w3.heap.size) R3.lt #[.slice ga na ca, .int .i64 k', .int .i64 a', .string s', .int .i64 m', .slice g4 n4 c4, .slice g5 n5 c5, .slice g6 n6 c6, .slice g7 n7 c7]; have PW2 := pass_any R3' (s := [59]) (by decide) (by decide); rw [h4, show str [59] = ⟨#[59]⟩ from rfl] at PW2; have HI : Hid (IsRow _ _ _ _ _) := ⟨IR⟩; have HE : Hid (isE _ _ _ _) := ⟨E3⟩; have s3 := F3.size; clear E3 IR F3 FO)
      | (refine wpList_store_row rfl 49 _ _ rfl w3.heap.size _ rfl rfl 49 _ (Blk.fresh w3 #[nil3, .int .i64 0, .int .i64 0, .string ⟨#[]⟩, .int .i64 0, nil3, nil3, nil3, nil3] 49) size49 rfl (by simp [Value.oneCell']) ?_)
      | (go_at_call_of 68 (Value.string { data := #[59] }); refine PW2.mono ?_; rintro e w4 ⟨F4, rfl, R4⟩))
          exact ⟨rfl, Ans.err (F3'.trans F4) R4⟩
        · simp only
          go_enter Tryd.func37, Tryd.ntmps37
          go_wp2_with (first
      | (go_at_call 69; refine (T0 _).mono ?_; rintro e w1 ⟨F1, v1, rfl, rfl, R1⟩; unfold hdV; have M1 := (Blk.fresh w #[.string ⟨#[]⟩, .int .i64 0, nil3, .int .i64 0, .int .i64 0, .string ⟨#[]⟩, .int .i64 0, nil3, nil3, nil3, nil3] 51).kept F1 (fun e => by cases e; omega); have F1' := ((Fr.refl b w).alloc _).trans F1; have B1 := Blk.fresh w1 #[.int .i64 t.kind, .string (str t.text), .int .i64 t.num, .int .i64 t.at'] 39; have PW := pass_any (R1.alloc (.cells #[.int .i64 t.kind, .string (str t.text), .int .i64 t.num, .int .i64 t.at'] 39)) (s := [61]) (by decide) (by decide); rw [h2, show str [61] = ⟨#[61]⟩ from rfl] at PW; clear F1)
      | (go_at_call_of 68 (Value.string { data := #[61] }); refine PW.mono ?_; rintro e w2 ⟨F2, v2, rfl, rfl, R2⟩; have hb1 := R1.lt; have M2 := (M1.alloc _).kept F2 (fun e => by cases e; omega); have B2 := B1.kept F2 (fun e => by cases e; omega); have F2' := (F1'.alloc _).trans F2; have FO := form_any HEX.out HK.out R2; rw [h3] at FO; clear F2 PW)
      | (go_at_call 70; refine FO.mono ?_; rintro e w3 ⟨F3, v3, rfl, ⟨va, c, rfl, IR, E3⟩, R3⟩; obtain ⟨k', a', m', s', g4, g5, g6, g7, n4, n5, n6, n7, c4, c5, c6, c7, rfl⟩ := isE_eight E3; obtain ⟨ga, na, ca, rfl⟩ := row_form IR; have M3 := ((M2.kept F3 (fun e => by cases e; omega)).alloc (.cells #[nil3, .int .i64 0, .int .i64 0, .string ⟨#[]⟩, .int .i64 0, nil3, nil3, nil3, nil3] 49)).kept (grown_setRow _ w3.heap.size #[.slice ga na ca, .int .i64 k', .int .i64 a', .string s', .int .i64 m', .slice g4 n4 c4, .slice g5 n5 c5, .slice g6 n6 c6, .slice g7 n7 c7]) (by have := F3.size; have := M2.lt; simp; omega); have B3 := ((B2.kept F3 (fun e => by cases e; omega)).alloc (.cells #[nil3, .int .i64 0, .int .i64 0, .string ⟨#[]⟩, .int .i64 0, nil3, nil3, nil3, nil3] 49)).kept (grown_setRow _ w3.heap.size #[.slice ga na ca, .int .i64 k', .int .i64 a', .string s', .int .i64 m', .slice g4 n4 c4, .slice g5 n5 c5, .slice g6 n6 c6, .slice g7 n7 c7]) (by have := F3.size; have := B2.lt; simp; omega); have D3 := (Blk.fresh w3 #[nil3, .int .i64 0, .int .i64 0, .string ⟨#[]⟩, .int .i64 0, nil3, nil3, nil3, nil3] 49).set (cs' := #[.slice ga na ca, .int .i64 k', .int .i64 a', .string s', .int .i64 m', .slice g4 n4 c4, .slice g5 n5 c5, .slice g6 n6 c6, .slice g7 n7 c7]); have F3' := ((F2'.trans F3).alloc (.cells #[nil3, .int .i64 0, .int .i64 0, .string ⟨#[]⟩, .int .i64 0, nil3, nil3, nil3, nil3] 49)).setRow (M := w3.heap.size) (by have := F3.size; have := F2'.size; omega) #[.slice ga na ca, .int .i64 k', .int .i64 a', .string s', .int .i64 m', .slice g4 n4 c4, .slice g5 n5 c5, .slice g6 n6 c6, .slice g7 n7 c7]; have R3' := (R3.alloc (.cells #[nil3, .int .i64 0, .int .i64 0, .string ⟨#[]⟩, .int .i64 0, nil3, nil3, nil3, nil3] 49)).setRow (M := w3.heap.size) R3.lt #[.slice ga na ca, .int .i64 k', .int .i64 a', .string s', .int .i64 m', .slice g4 n4 c4, .slice g5 n5 c5, .slice g6 n6 c6, .slice g7 n7 c7]; have PW2 := pass_any R3' (s := [59]) (by decide) (by decide); rw [h4, show str [59] = ⟨#[59]⟩ from rfl] at PW2; have HI : Hid (IsRow _ _ _ _ _) := ⟨IR⟩; have HE : Hid (isE _ _ _ _) := ⟨E3⟩; have s3 := F3.size; clear E3 IR F3 FO)
      | (refine wpList_store_row rfl 49 _ _ rfl w3.heap.size _ rfl rfl 49 _ (Blk.fresh w3 #[nil3, .int .i64 0, .int .i64 0, .string ⟨#[]⟩, .int .i64 0, nil3, nil3, nil3, nil3] 49) size49 rfl (by simp [Value.oneCell']) ?_)
      | (go_at_call_of 68 (Value.string { data := #[59] }); refine PW2.mono ?_; rintro e w4 ⟨F4, v4, rfl, rfl, R4⟩; have M4 := M3.kept F4 (fun e => by cases e; omega); have B4 := B3.kept F4 (fun e => by cases e; omega); have D4 := D3.kept F4 (fun e => by cases e; have := R3.lt; omega); have F4' := F3'.trans F4; have y1 : w4.cell? ⟨w1.heap.size, 1, none⟩ = some (.string (str t.text)) := B4.cell 1; have y3 : w4.cell? ⟨w1.heap.size, 3, none⟩ = some (.int .i64 t.at') := B4.cell 3; have HF4 : Hid (Fr b _ w4) := ⟨F4⟩; clear F4 PW2)
      | (refine wpList_load_row rfl 49 _ rfl w3.heap.size rfl 49 _ (0, 0) _ D4 Tryd.underlying49 rfl size49 ?_)
      | (refine wpList_store_row rfl 51 _ _ rfl w.heap.size _ rfl rfl 51 _ M4 size51 rfl (by simp [Value.oneCell']) ?_))
          refine bodyPost_ret (results_cell_row Tryd.results37 _ _ w.heap.size 51 #[.string (str t.text), .int .i64 t.at', .slice ga na ca, .int .i64 k', .int .i64 a', .string s', .int .i64 m', .slice g4 n4 c4, .slice g5 n5 c5, .slice g6 n6 c6, .slice g7 n7 c7] (0, 0) _ rfl M4.set Tryd.underlying51 rfl size51) rfl (Ans.ok (F4'.setRow (Nat.le_refl _) _) (R4.setRow lt _) ?_)
          have K : Keeps (new w2 w3) (new w (w4.setRow w.heap.size #[.string (str t.text), .int .i64 t.at', .slice ga na ca, .int .i64 k', .int .i64 a', .string s', .int .i64 m', .slice g4 n4 c4, .slice g5 n5 c5, .slice g6 n6 c6, .slice g7 n7 c7])) w3 (w4.setRow w.heap.size #[.string (str t.text), .int .i64 t.at', .slice ga na ca, .int .i64 k', .int .i64 a', .string s', .int .i64 m', .slice g4 n4 c4, .slice g5 n5 c5, .slice g6 n6 c6, .slice g7 n7 c7]) := by
            have s2 := F2'.size
            have m2 := M2.lt
            have k1 : Keeps (new w2 w3) (new w2 w3) w3 (w3.alloc (.cells #[nil3, .int .i64 0, .int .i64 0, .string ⟨#[]⟩, .int .i64 0, nil3, nil3, nil3, nil3] 49)) := keeps_grown (grown_alloc _ _) (fun g _ e => by cases e) (fun g h => h)
            have k2 : Keeps (new w2 w3) (new w2 w3) (w3.alloc (.cells #[nil3, .int .i64 0, .int .i64 0, .string ⟨#[]⟩, .int .i64 0, nil3, nil3, nil3, nil3] 49)) ((w3.alloc (.cells #[nil3, .int .i64 0, .int .i64 0, .string ⟨#[]⟩, .int .i64 0, nil3, nil3, nil3, nil3] 49)).setRow w3.heap.size #[.slice ga na ca, .int .i64 k', .int .i64 a', .string s', .int .i64 m', .slice g4 n4 c4, .slice g5 n5 c5, .slice g6 n6 c6, .slice g7 n7 c7]) := keeps_grown (grown_setRow _ _ _) (fun g h e => by cases e; have := h.2; omega) (fun g h => h)
            have k3 : Keeps (new w2 w3) (new w2 w3) ((w3.alloc (.cells #[nil3, .int .i64 0, .int .i64 0, .string ⟨#[]⟩, .int .i64 0, nil3, nil3, nil3, nil3] 49)).setRow w3.heap.size #[.slice ga na ca, .int .i64 k', .int .i64 a', .string s', .int .i64 m', .slice g4 n4 c4, .slice g5 n5 c5, .slice g6 n6 c6, .slice g7 n7 c7]) w4 := keeps_fr HF4.out (fun g h => by have := h.1; omega) (fun g h => h)
            have s4 := HF4.out.size
            simp only [size_setRow, World.size_alloc] at s4
            have k4 : Keeps (new w2 w3) (new w (w4.setRow w.heap.size #[.string (str t.text), .int .i64 t.at', .slice ga na ca, .int .i64 k', .int .i64 a', .string s', .int .i64 m', .slice g4 n4 c4, .slice g5 n5 c5, .slice g6 n6 c6, .slice g7 n7 c7])) w4 (w4.setRow w.heap.size #[.string (str t.text), .int .i64 t.at', .slice ga na ca, .int .i64 k', .int .i64 a', .string s', .int .i64 m', .slice g4 n4 c4, .slice g5 n5 c5, .slice g6 n6 c6, .slice g7 n7 c7]) := keeps_grown (grown_setRow _ _ _) (fun g h e => by cases e; have := h.1; omega) (fun g h => ⟨by have := h.1; omega, by rw [size_setRow]; have := h.2; omega⟩)
            exact ⟨fun g off u h hc => k4.cell g off u h (k3.cell g off u h (k2.cell g off u h (k1.cell g off u h hc))), k4.ok⟩
          refine ⟨[.string (str t.text), .int .i64 t.at', .slice ga na ca] ++ [.int .i64 k', .int .i64 a', .string s', .int .i64 m', .slice g4 n4 c4, .slice g5 n5 c5, .slice g6 n6 c6, .slice g7 n7 c7], rfl, ?_⟩
          simp only [isB]
          exact ⟨_, _, rfl, IsRow.keeps K HI.out, isE_keeps K x _ HE.out⟩
  · rw [h1] at T0 ⊢
    simp only [andT]
    go_enter Tryd.func37, Tryd.ntmps37
    go_wp2_with (go_at_call 69; refine (T0 _).mono ?_; rintro e w1 ⟨F1, rfl, R1⟩)
    exact ⟨rfl, Ans.err (((Fr.refl b w).alloc _).trans F1) R1⟩

end Go.Proofs.YtoedeedoecdajaaDoor
