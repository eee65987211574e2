/- Package show's printer: a data, a bind, an alternative. -/
import Derived.Test.YtofgnpehlheeiaaGreatDoorLst
namespace Go.Proofs.YtofgnpehlheeiaaGreatDoor
open Go.RowKit
set_option linter.unusedVariables false
set_option linter.unusedSimpArgs false

/-- an expression's tokens, so much deeper -/
def ExpD (d : Nat) : Prop := ∀ (w : World) (b : Nat) (ts : List ATok) (es : List Nat) (e : Int), Pr w b ts es e → ∀ (x : E) (c : List Value), isE w (fun g => g < b) x c → finE x → ∀ deep : Int, deep + d = 61 → 1 ≤ deep → ts.length + wtE x ≤ 2000000 →
    Calls Tryz.prog 38 #[ptr b, .agg c.toArray, .int .i64 deep] w (Did b w ts es e (wtE x) (oE d x))
theorem isB_eleven {w : World} {ok : Nat → Prop} {x : B} {c : List Value} (h : isB w ok x c) : ∃ (k a m a0 : Int) (s s0 : ByteArray) (g3 g4 g5 g6 g7 : Option Addr) (n3 n4 n5 n6 n7 c3 c4 c5 c6 c7 : Nat),
    c = [.string s0, .int .i64 a0, .slice g3 n3 c3, .int .i64 k, .int .i64 a, .string s, .int .i64 m, .slice g4 n4 c4, .slice g5 n5 c5, .slice g6 n6 c6, .slice g7 n7 c7] := by
  obtain ⟨n, a, al, x⟩ := x
  simp only [isB] at h
  obtain ⟨va, d, rfl, ⟨_, _, rfl, _⟩, h⟩ := h
  obtain ⟨k, a, m, s, g4, g5, g6, g7, n4, n5, n6, n7, c4, c5, c6, c7, rfl⟩ := isE_eight h
  exact ⟨_, _, _, _, _, _, _, _, _, _, _, _, _, _, _, _, _, _, _, _, _, rfl⟩
theorem isA_thirteen {w : World} {ok : Nat → Prop} {x : A} {c : List Value} (h : isA w ok x c) : ∃ (k9 a9 m9 k0 a1 m1 : Int) (s9 s1 : ByteArray) (g3 g4 g5 g6 g7 : Option Addr) (n3 n4 n5 n6 n7 c3 c4 c5 c6 c7 : Nat), c = [.int .i64 k9, .int .i64 a9, .string s9, .int .i64 m9, .slice g3 n3 c3, .int .i64 k0, .int .i64 a1, .string s1, .int .i64 m1, .slice g4 n4 c4, .slice g5 n5 c5, .slice g6 n6 c6, .slice g7 n7 c7] := by
  obtain ⟨k, a, n, m, vs, x⟩ := x
  simp only [isA] at h
  obtain ⟨va, d, rfl, ⟨_, _, rfl, _⟩, h⟩ := h
  obtain ⟨k, a, m, s, g4, g5, g6, g7, n4, n5, n6, n7, c4, c5, c6, c7, rfl⟩ := isE_eight h
  exact ⟨_, _, _, _, _, _, _, _, _, _, _, _, _, _, _, _, _, _, _, _, _, _, _, rfl⟩
section
variable {w : World} {b : Nat} {ts : List ATok} {es : List Nat} {e : Int}
theorem str_arr (a : Array UInt8) : str a.toList = ⟨a⟩ := by simp [str]
theorem sign_at (P : Pr w b ts es e) (a : Array UInt8) (ha : a.size ≤ 100) (hn : ts.length ≤ 2000000) : Calls Tryz.prog 36 #[ptr b, .string ⟨a⟩] w (Did b w ts es e 1 (.ok [sgT a.toList])) := by
  have := sign_any P a.toList (by simp; omega) hn
  rw [str_arr] at this
  exact this
theorem word_at (P : Pr w b ts es e) (a : Array UInt8) (ha : a.size ≤ 100) (hn : ts.length ≤ 2000000) : Calls Tryz.prog 33 #[ptr b, .string ⟨a⟩] w (Did b w ts es e 1 (.ok [wdT a.toList])) := by
  have := pword_any P a.toList (by simp; omega) hn
  rw [str_arr] at this
  exact this
theorem row_len {ok : Nat → Prop} {xs : List Value} {n : Nat} {v : Value} (h : IsRow w ok xs n v) : ∃ ga cap, v = .slice ga n cap := by
  obtain ⟨ga, cap, rfl, _⟩ := h
  exact ⟨ga, cap, rfl⟩

set_option maxRecDepth 100000 in
set_option maxHeartbeats 4000000 in
theorem data_any (P : Pr w b ts es e) (d : D) (hf : In64 d.arity) (hn : ts.length + wtD d ≤ 2000000) :
    Calls Tryz.prog 18 #[ptr b, .agg #[.string (str d.name), .int .i64 d.arity, .int .i64 d.at']] w (Did b w ts es e (wtD d) (oData d)) := by
  obtain ⟨n, m, a⟩ := d
  simp only [wtD] at hn ⊢
  simp only at hf ⊢
  have lt := P.lt
  have F0 := (Fp.refl b w).alloc (.cells #[.string (str n), .int .i64 m, .int .i64 a] 62)
  have X0 := Blk.fresh w #[.string (str n), .int .i64 m, .int .i64 a] 62
  have P0 := P.alloc (.cells #[.string (str n), .int .i64 m, .int .i64 a] 62)
  clear P
  go_enter Tryz.func18, Tryz.ntmps18
  go_wp2_with (first
    | (go_at_call 33; refine (word_at P0 #[100, 97, 116, 97] (by decide) (by omega)).mono ?_; rintro r w1 ⟨rfl, F1, ts1, e1, P1, A1, l1⟩; have X1 := F1.oth _ _ _ X0 (by omega) (by decide) (by decide); have y0 : w1.cell? ⟨w.heap.size, 0, none⟩ = some (.string (str n)) := X1.cell 0)
    | (go_at_call 34; refine (name_any P1 2 ⟨by decide, by decide⟩ n (by omega) (by omega)).mono ?_; rintro r w2 ⟨rfl, F2, ts2, e2, P2, A2, l2⟩; have X2 := F2.oth _ _ _ X1 (by omega) (by decide) (by decide); have y1 : w2.cell? ⟨w.heap.size, 1, none⟩ = some (.int .i64 m) := X2.cell 1))
  have lt2 := P2.lt
  go_region_held3 (fun w' => w'.cell? ⟨w.heap.size, 1, none⟩ = some (.int .i64 m)) (go_keep) (first
    | (go_at_call 35; refine (pnumber_any P2.drew m hf (by omega)).mono ?_; rintro r w3 ⟨rfl, F3, ts3, e3, P3, A3, l3⟩; have y3 : w3.cell? ⟨w.heap.size, 1, none⟩ = some (.int .i64 m) := (F3.oth _ _ _ X2.drew (by omega) (by decide) (by decide)).cell 1))
  all_goals go_wp2_with (first
    | (go_at_call 36; refine (sign_at P3 #[59] (by decide) (by omega)).mono ?_; rintro r w4 ⟨rfl, F4, ts4, e4, P4, A4, l4⟩))
  all_goals go_end0
  all_goals exact ⟨rfl, (((F0.trans F1).trans F2).drew.trans F3).trans F4, ts4, e4, P4, A1.seq (A2.seq (A3.seq A4)), by omega⟩

set_option maxRecDepth 100000 in
set_option maxHeartbeats 8000000 in
theorem bind_any {d : Nat} (HE : ExpD d) (P : Pr w b ts es e) (x : B) (c : List Value) (I : isB w (fun g => g < b) x c) (hf : finB x) (deep : Int) (hd : deep + d = 61) (h1 : 1 ≤ deep) (hn : ts.length + wtB x ≤ 2000000) :
    Calls Tryz.prog 19 #[ptr b, .agg c.toArray, .int .i64 deep] w (Did b w ts es e (wtB x) (oB (oE d) x)) := by
  obtain ⟨n, a, az, x⟩ := x
  simp only [isB] at I
  obtain ⟨va, dd, rfl, IA, IE⟩ := I
  obtain ⟨g3, c3, rfl⟩ := row_len IA
  obtain ⟨k0, a1, m1, s1, g4, g5, g6, g7, n4, n5, n6, n7, c4, c5, c6, c7, rfl⟩ := isE_eight IE
  simp only [List.cons_append, List.nil_append]
  simp only [finB] at hf
  simp only [wtB] at hn ⊢
  simp only [oB]
  have hwl := wtN_len az
  have lt := P.lt
  have HIA : Hid (IsRow w (fun g => g < b) (strC az) az.length (.slice g3 az.length c3)) := ⟨IA⟩
  have HIE : Hid (isE w (fun g => g < b) x [.int .i64 k0, .int .i64 a1, .string s1, .int .i64 m1, .slice g4 n4 c4, .slice g5 n5 c5, .slice g6 n6 c6, .slice g7 n7 c7]) := ⟨IE⟩
  have F0 := (Fp.refl b w).alloc (.cells #[.string (str n), .int .i64 a, .slice g3 az.length c3, .int .i64 k0, .int .i64 a1, .string s1, .int .i64 m1, .slice g4 n4 c4, .slice g5 n5 c5, .slice g6 n6 c6, .slice g7 n7 c7] 51)
  have X0 := Blk.fresh w #[.string (str n), .int .i64 a, .slice g3 az.length c3, .int .i64 k0, .int .i64 a1, .string s1, .int .i64 m1, .slice g4 n4 c4, .slice g5 n5 c5, .slice g6 n6 c6, .slice g7 n7 c7] 51
  have P0 := P.alloc (.cells #[.string (str n), .int .i64 a, .slice g3 az.length c3, .int .i64 k0, .int .i64 a1, .string s1, .int .i64 m1, .slice g4 n4 c4, .slice g5 n5 c5, .slice g6 n6 c6, .slice g7 n7 c7] 51)
  have HHE : Hid (ExpD d) := ⟨HE⟩
  clear P IA IE HE
  by_cases hz : az = []
  · have hl : az.length = 0 := by rw [hz]; rfl
    have hle : ¬ (0 : Int) < az.length := by omega
    have HO : Hid (oArgs az = .ok []) := ⟨by rw [hz]; rfl⟩
    clear hz hl
    go_enter Tryz.func19, Tryz.ntmps19
    go_wp2_with (first
      | (go_at_call 34; refine (name_any P0 1 ⟨by decide, by decide⟩ n (by omega) (by omega)).mono ?_; rintro r w1 ⟨rfl, F1, ts1, e1, P1, A1, l1⟩; have X1 := F1.oth _ _ _ X0 (by omega) (by decide) (by decide); have lt1 := P1.lt)
      | (go_at_call_of 36 (Value.string { data := #[61] }); refine (sign_at P1 #[61] (by decide) (by omega)).mono ?_; rintro r w2 ⟨rfl, F2, ts2, e2, P2, A2, l2⟩; have X2 := F2.oth _ _ _ X1 (by omega) (by decide) (by decide); have lt2 := P2.lt; have y22 : w2.cell? ⟨w.heap.size, 2, none⟩ = some (.slice g3 az.length c3) := X2.cell 2; have y23 : w2.cell? ⟨w.heap.size, 3, none⟩ = some (.int .i64 k0) := X2.cell 3; have y24 : w2.cell? ⟨w.heap.size, 4, none⟩ = some (.int .i64 a1) := X2.cell 4; have y25 : w2.cell? ⟨w.heap.size, 5, none⟩ = some (.string s1) := X2.cell 5; have y26 : w2.cell? ⟨w.heap.size, 6, none⟩ = some (.int .i64 m1) := X2.cell 6; have y27 : w2.cell? ⟨w.heap.size, 7, none⟩ = some (.slice g4 n4 c4) := X2.cell 7; have y28 : w2.cell? ⟨w.heap.size, 8, none⟩ = some (.slice g5 n5 c5) := X2.cell 8; have y29 : w2.cell? ⟨w.heap.size, 9, none⟩ = some (.slice g6 n6 c6) := X2.cell 9; have y210 : w2.cell? ⟨w.heap.size, 10, none⟩ = some (.slice g7 n7 c7) := X2.cell 10)
      | (go_at_call 38; refine (HHE.out _ b ts2 es e2 P2 x _ (isE_keeps ((F0.trans F1).trans F2).keeps x _ HIE.out) hf deep hd h1 (by omega)).mono ?_; rintro r w3 ⟨rfl, F3, ts3, e3, P3, A3, l3⟩; have lt3 := P3.lt)
      | (go_at_call_of 36 (Value.string { data := #[59] }); refine (sign_at P3 #[59] (by decide) (by omega)).mono ?_; rintro r w4 ⟨rfl, F4, ts4, e4, P4, A4, l4⟩))
    go_end0
    refine ⟨rfl, (((F0.trans F1).trans F2).trans F3).trans F4, ts4, e4, P4, ?_, by omega⟩
    rw [HO.out]
    exact A1.seq (A2.seq ((Aft.nil _ _).seq (A3.seq A4)))
  · have hl : 0 < az.length := List.length_pos_iff.2 hz
    have hle : (0 : Int) < az.length := by omega
    have HO : Hid (oArgs az = seqO (.ok [sgT [92]]) (seqO (oNames az) (.ok [sgT [45, 62]]))) := ⟨by unfold oArgs; rw [if_neg hz]⟩
    clear hz hl
    go_enter Tryz.func19, Tryz.ntmps19
    go_wp2_with (first
      | (go_at_call 34; refine (name_any P0 1 ⟨by decide, by decide⟩ n (by omega) (by omega)).mono ?_; rintro r w1 ⟨rfl, F1, ts1, e1, P1, A1, l1⟩; have X1 := F1.oth _ _ _ X0 (by omega) (by decide) (by decide); have lt1 := P1.lt)
      | (go_at_call_of 36 (Value.string { data := #[61] }); refine (sign_at P1 #[61] (by decide) (by omega)).mono ?_; rintro r w2 ⟨rfl, F2, ts2, e2, P2, A2, l2⟩; have X2 := F2.oth _ _ _ X1 (by omega) (by decide) (by decide); have lt2 := P2.lt; have y22 : w2.cell? ⟨w.heap.size, 2, none⟩ = some (.slice g3 az.length c3) := X2.cell 2)
      | (go_at_call_of 36 (Value.string { data := #[92] }); refine (sign_at P2 #[92] (by decide) (by omega)).mono ?_; rintro r w5 ⟨rfl, F5, ts5, e5, P5, A5, l5⟩; have X5 := F5.oth _ _ _ X2 (by omega) (by decide) (by decide); have lt5 := P5.lt; have y52 : w5.cell? ⟨w.heap.size, 2, none⟩ = some (.slice g3 az.length c3) := X5.cell 2)
      | (go_at_call 37; refine (names_any P5 az _ (HIA.out.keeps (((F0.trans F1).trans F2).trans F5).keeps) (by omega)).mono ?_; rintro r w6 ⟨rfl, F6, ts6, e6, P6, A6, l6⟩; have X6 := F6.oth _ _ _ X5 (by omega) (by decide) (by decide); have lt6 := P6.lt)
      | (go_at_call_of 36 (Value.string { data := #[45, 62] }); refine (sign_at P6 #[45, 62] (by decide) (by omega)).mono ?_; rintro r w7 ⟨rfl, F7, ts7, e7, P7, A7, l7⟩; have X7 := F7.oth _ _ _ X6 (by omega) (by decide) (by decide); have lt7 := P7.lt; have y73 : w7.cell? ⟨w.heap.size, 3, none⟩ = some (.int .i64 k0) := X7.cell 3; have y74 : w7.cell? ⟨w.heap.size, 4, none⟩ = some (.int .i64 a1) := X7.cell 4; have y75 : w7.cell? ⟨w.heap.size, 5, none⟩ = some (.string s1) := X7.cell 5; have y76 : w7.cell? ⟨w.heap.size, 6, none⟩ = some (.int .i64 m1) := X7.cell 6; have y77 : w7.cell? ⟨w.heap.size, 7, none⟩ = some (.slice g4 n4 c4) := X7.cell 7; have y78 : w7.cell? ⟨w.heap.size, 8, none⟩ = some (.slice g5 n5 c5) := X7.cell 8; have y79 : w7.cell? ⟨w.heap.size, 9, none⟩ = some (.slice g6 n6 c6) := X7.cell 9; have y710 : w7.cell? ⟨w.heap.size, 10, none⟩ = some (.slice g7 n7 c7) := X7.cell 10)
      | (go_at_call 38; refine (HHE.out _ b ts7 es e7 P7 x _ (isE_keeps (((((F0.trans F1).trans F2).trans F5).trans F6).trans F7).keeps x _ HIE.out) hf deep hd h1 (by omega)).mono ?_; rintro r w3 ⟨rfl, F3, ts3, e3, P3, A3, l3⟩; have lt3 := P3.lt)
      | (go_at_call_of 36 (Value.string { data := #[59] }); refine (sign_at P3 #[59] (by decide) (by omega)).mono ?_; rintro r w4 ⟨rfl, F4, ts4, e4, P4, A4, l4⟩))
    go_end0
    refine ⟨rfl, ((((((F0.trans F1).trans F2).trans F5).trans F6).trans F7).trans F3).trans F4, ts4, e4, P4, ?_, by omega⟩
    rw [HO.out]
    exact A1.seq (A2.seq ((A5.seq (A6.seq A7)).seq (A3.seq A4)))

set_option maxRecDepth 100000 in
set_option maxHeartbeats 8000000 in
theorem alt_any {d : Nat} (HE : ExpD d) (P : Pr w b ts es e) (x : A) (c : List Value) (I : isA w (fun g => g < b) x c) (hf : finA x) (deep : Int) (hd : deep + d = 61) (h1 : 1 ≤ deep) (hn : ts.length + wtA x ≤ 2000000) :
    Calls Tryz.prog 68 #[ptr b, .agg c.toArray, .int .i64 deep] w (Did b w ts es e (wtA x) (oA (oE d) x)) := by
  obtain ⟨k, a, n, m, vs, x⟩ := x
  simp only [isA] at I
  obtain ⟨va, dd, rfl, IA, IE⟩ := I
  obtain ⟨g3, c3, rfl⟩ := row_len IA
  obtain ⟨k0, a1, m1, s1, g4, g5, g6, g7, n4, n5, n6, n7, c4, c5, c6, c7, rfl⟩ := isE_eight IE
  simp only [List.cons_append, List.nil_append]
  simp only [finA] at hf
  simp only [wtA] at hn ⊢
  simp only [oA]
  have hwl := wtN_len vs
  have lt := P.lt
  have HIA : Hid (IsRow w (fun g => g < b) (strC vs) vs.length (.slice g3 vs.length c3)) := ⟨IA⟩
  have HIE : Hid (isE w (fun g => g < b) x [.int .i64 k0, .int .i64 a1, .string s1, .int .i64 m1, .slice g4 n4 c4, .slice g5 n5 c5, .slice g6 n6 c6, .slice g7 n7 c7]) := ⟨IE⟩
  have F0 := (Fp.refl b w).alloc (.cells #[.int .i64 k, .int .i64 a, .string (str n), .int .i64 m, .slice g3 vs.length c3, .int .i64 k0, .int .i64 a1, .string s1, .int .i64 m1, .slice g4 n4 c4, .slice g5 n5 c5, .slice g6 n6 c6, .slice g7 n7 c7] 102)
  have X0 := Blk.fresh w #[.int .i64 k, .int .i64 a, .string (str n), .int .i64 m, .slice g3 vs.length c3, .int .i64 k0, .int .i64 a1, .string s1, .int .i64 m1, .slice g4 n4 c4, .slice g5 n5 c5, .slice g6 n6 c6, .slice g7 n7 c7] 102
  have P0 := P.alloc (.cells #[.int .i64 k, .int .i64 a, .string (str n), .int .i64 m, .slice g3 vs.length c3, .int .i64 k0, .int .i64 a1, .string s1, .int .i64 m1, .slice g4 n4 c4, .slice g5 n5 c5, .slice g6 n6 c6, .slice g7 n7 c7] 102)
  have HHE : Hid (ExpD d) := ⟨HE⟩
  clear P IA IE HE
  by_cases k1 : k = 1
  · subst k1
    unfold oHead
    rw [if_pos rfl]
    go_enter Tryz.func68, Tryz.ntmps68
    go_wp2_with (first
      | (go_at_call 34; refine (name_any P0 2 ⟨by decide, by decide⟩ n (by omega) (by omega)).mono ?_; rintro r w1 ⟨rfl, F1, ts1, e1, P1, A1, l1⟩; have X1 := F1.oth _ _ _ X0 (by omega) (by decide) (by decide); have lt1 := P1.lt; have y14 : w1.cell? ⟨w.heap.size, 4, none⟩ = some (.slice g3 vs.length c3) := X1.cell 4)
      | (go_at_call 37; refine (names_any P1 vs _ (HIA.out.keeps (F0.trans F1).keeps) (by omega)).mono ?_; rintro r w5 ⟨rfl, F6, ts5, e5, P5, A6, l6⟩; have F5 := F1.trans F6; have A5 := A1.seq A6; have l5 : ts5.length ≤ ts.length + 1 + vs.length := (by omega); have X5 := F6.oth _ _ _ X1 (by omega) (by decide) (by decide); have lt5 := P5.lt)
      | (go_at_call_of 36 (Value.string { data := #[45, 62] }); refine (sign_at P5 #[45, 62] (by decide) (by omega)).mono ?_; rintro r w7 ⟨rfl, F7, ts7, e7, P7, A7, l7⟩; have X7 := F7.oth _ _ _ X5 (by omega) (by decide) (by decide); have lt7 := P7.lt; have y75 : w7.cell? ⟨w.heap.size, 5, none⟩ = some (.int .i64 k0) := X7.cell 5; have y76 : w7.cell? ⟨w.heap.size, 6, none⟩ = some (.int .i64 a1) := X7.cell 6; have y77 : w7.cell? ⟨w.heap.size, 7, none⟩ = some (.string s1) := X7.cell 7; have y78 : w7.cell? ⟨w.heap.size, 8, none⟩ = some (.int .i64 m1) := X7.cell 8; have y79 : w7.cell? ⟨w.heap.size, 9, none⟩ = some (.slice g4 n4 c4) := X7.cell 9; have y710 : w7.cell? ⟨w.heap.size, 10, none⟩ = some (.slice g5 n5 c5) := X7.cell 10; have y711 : w7.cell? ⟨w.heap.size, 11, none⟩ = some (.slice g6 n6 c6) := X7.cell 11; have y712 : w7.cell? ⟨w.heap.size, 12, none⟩ = some (.slice g7 n7 c7) := X7.cell 12)
      | (go_at_call 38; refine (HHE.out _ b ts7 es e7 P7 x _ (isE_keeps ((F0.trans F5).trans F7).keeps x _ HIE.out) hf.2 deep hd h1 (by omega)).mono ?_; rintro r w3 ⟨rfl, F3, ts3, e3, P3, A3, l3⟩; have lt3 := P3.lt)
      | (go_at_call_of 36 (Value.string { data := #[59] }); refine (sign_at P3 #[59] (by decide) (by omega)).mono ?_; rintro r w4 ⟨rfl, F4, ts4, e4, P4, A4, l4⟩))
    all_goals go_end0
    all_goals exact ⟨rfl, (((F0.trans F5).trans F7).trans F3).trans F4, ts4, e4, P4, A5.seq (A7.seq (A3.seq A4)), by omega⟩
  · by_cases k2 : k = 2
    · subst k2
      unfold oHead
      rw [if_neg (by decide), if_pos rfl]
      go_enter Tryz.func68, Tryz.ntmps68
      go_wp2
      go_region_held3 (fun w' => w'.cell? ⟨w.heap.size, 3, none⟩ = some (.int .i64 m)) (go_keep) (first
        | (go_at_call 35; refine (pnumber_any P0.drew m hf.1 (by omega)).mono ?_; rintro r w5 ⟨rfl, F6, ts5, e5, P5, A5, l5⟩; have F5 := (Fp.refl b _).drew.trans F6; have X5 := F6.oth _ _ _ X0.drew (by omega) (by decide) (by decide); have lt5 := P5.lt; have y53 : w5.cell? ⟨w.heap.size, 3, none⟩ = some (.int .i64 m) := X5.cell 3))
      all_goals go_wp2_with (first
        | (go_at_call_of 36 (Value.string { data := #[45, 62] }); refine (sign_at P5 #[45, 62] (by decide) (by omega)).mono ?_; rintro r w7 ⟨rfl, F7, ts7, e7, P7, A7, l7⟩; have X7 := F7.oth _ _ _ X5 (by omega) (by decide) (by decide); have lt7 := P7.lt; have y75 : w7.cell? ⟨w.heap.size, 5, none⟩ = some (.int .i64 k0) := X7.cell 5; have y76 : w7.cell? ⟨w.heap.size, 6, none⟩ = some (.int .i64 a1) := X7.cell 6; have y77 : w7.cell? ⟨w.heap.size, 7, none⟩ = some (.string s1) := X7.cell 7; have y78 : w7.cell? ⟨w.heap.size, 8, none⟩ = some (.int .i64 m1) := X7.cell 8; have y79 : w7.cell? ⟨w.heap.size, 9, none⟩ = some (.slice g4 n4 c4) := X7.cell 9; have y710 : w7.cell? ⟨w.heap.size, 10, none⟩ = some (.slice g5 n5 c5) := X7.cell 10; have y711 : w7.cell? ⟨w.heap.size, 11, none⟩ = some (.slice g6 n6 c6) := X7.cell 11; have y712 : w7.cell? ⟨w.heap.size, 12, none⟩ = some (.slice g7 n7 c7) := X7.cell 12)
        | (go_at_call 38; refine (HHE.out _ b ts7 es e7 P7 x _ (isE_keeps ((F0.trans F5).trans F7).keeps x _ HIE.out) hf.2 deep hd h1 (by omega)).mono ?_; rintro r w3 ⟨rfl, F3, ts3, e3, P3, A3, l3⟩; have lt3 := P3.lt)
        | (go_at_call_of 36 (Value.string { data := #[59] }); refine (sign_at P3 #[59] (by decide) (by omega)).mono ?_; rintro r w4 ⟨rfl, F4, ts4, e4, P4, A4, l4⟩))
      all_goals go_end0
      all_goals exact ⟨rfl, (((F0.trans F5).trans F7).trans F3).trans F4, ts4, e4, P4, A5.seq (A7.seq (A3.seq A4)), by omega⟩
    · by_cases k3 : k = 3
      · subst k3
        unfold oHead
        rw [if_neg (by decide), if_neg (by decide), if_pos rfl]
        go_enter Tryz.func68, Tryz.ntmps68
        go_wp2_with (first
          | (go_at_call 34; refine (name_any P0 1 ⟨by decide, by decide⟩ n (by omega) (by omega)).mono ?_; rintro r w5 ⟨rfl, F5, ts5, e5, P5, A5, l5⟩; have X5 := F5.oth _ _ _ X0 (by omega) (by decide) (by decide); have lt5 := P5.lt)
          | (go_at_call_of 36 (Value.string { data := #[45, 62] }); refine (sign_at P5 #[45, 62] (by decide) (by omega)).mono ?_; rintro r w7 ⟨rfl, F7, ts7, e7, P7, A7, l7⟩; have X7 := F7.oth _ _ _ X5 (by omega) (by decide) (by decide); have lt7 := P7.lt; have y75 : w7.cell? ⟨w.heap.size, 5, none⟩ = some (.int .i64 k0) := X7.cell 5; have y76 : w7.cell? ⟨w.heap.size, 6, none⟩ = some (.int .i64 a1) := X7.cell 6; have y77 : w7.cell? ⟨w.heap.size, 7, none⟩ = some (.string s1) := X7.cell 7; have y78 : w7.cell? ⟨w.heap.size, 8, none⟩ = some (.int .i64 m1) := X7.cell 8; have y79 : w7.cell? ⟨w.heap.size, 9, none⟩ = some (.slice g4 n4 c4) := X7.cell 9; have y710 : w7.cell? ⟨w.heap.size, 10, none⟩ = some (.slice g5 n5 c5) := X7.cell 10; have y711 : w7.cell? ⟨w.heap.size, 11, none⟩ = some (.slice g6 n6 c6) := X7.cell 11; have y712 : w7.cell? ⟨w.heap.size, 12, none⟩ = some (.slice g7 n7 c7) := X7.cell 12)
          | (go_at_call 38; refine (HHE.out _ b ts7 es e7 P7 x _ (isE_keeps ((F0.trans F5).trans F7).keeps x _ HIE.out) hf.2 deep hd h1 (by omega)).mono ?_; rintro r w3 ⟨rfl, F3, ts3, e3, P3, A3, l3⟩; have lt3 := P3.lt)
          | (go_at_call_of 36 (Value.string { data := #[59] }); refine (sign_at P3 #[59] (by decide) (by omega)).mono ?_; rintro r w4 ⟨rfl, F4, ts4, e4, P4, A4, l4⟩))
        all_goals go_end0
        all_goals exact ⟨rfl, (((F0.trans F5).trans F7).trans F3).trans F4, ts4, e4, P4, A5.seq (A7.seq (A3.seq A4)), by omega⟩
      · unfold oHead
        rw [if_neg k1, if_neg k2, if_neg k3]
        have k1' : (k == 1) = false := by simp [k1]
        have k2' : (k == 2) = false := by simp [k2]
        have k3' : (k == 3) = false := by simp [k3]
        go_enter Tryz.func68, Tryz.ntmps68
        go_wp2_with (first
          | (go_at_call 58; refine (fail_any P0 2 (by decide)).mono ?_; rintro r w5 ⟨rfl, F5, ts5, e5, P5, A5, l5⟩; have X5 := F5.oth _ _ _ X0 (by omega) (by decide) (by decide); have lt5 := P5.lt)
          | (go_at_call_of 36 (Value.string { data := #[45, 62] }); refine (sign_at P5 #[45, 62] (by decide) (by omega)).mono ?_; rintro r w7 ⟨rfl, F7, ts7, e7, P7, A7, l7⟩; have X7 := F7.oth _ _ _ X5 (by omega) (by decide) (by decide); have lt7 := P7.lt; have y75 : w7.cell? ⟨w.heap.size, 5, none⟩ = some (.int .i64 k0) := X7.cell 5; have y76 : w7.cell? ⟨w.heap.size, 6, none⟩ = some (.int .i64 a1) := X7.cell 6; have y77 : w7.cell? ⟨w.heap.size, 7, none⟩ = some (.string s1) := X7.cell 7; have y78 : w7.cell? ⟨w.heap.size, 8, none⟩ = some (.int .i64 m1) := X7.cell 8; have y79 : w7.cell? ⟨w.heap.size, 9, none⟩ = some (.slice g4 n4 c4) := X7.cell 9; have y710 : w7.cell? ⟨w.heap.size, 10, none⟩ = some (.slice g5 n5 c5) := X7.cell 10; have y711 : w7.cell? ⟨w.heap.size, 11, none⟩ = some (.slice g6 n6 c6) := X7.cell 11; have y712 : w7.cell? ⟨w.heap.size, 12, none⟩ = some (.slice g7 n7 c7) := X7.cell 12)
          | (go_at_call 38; refine (HHE.out _ b ts7 es e7 P7 x _ (isE_keeps ((F0.trans F5).trans F7).keeps x _ HIE.out) hf.2 deep hd h1 (by omega)).mono ?_; rintro r w3 ⟨rfl, F3, ts3, e3, P3, A3, l3⟩; have lt3 := P3.lt)
          | (go_at_call_of 36 (Value.string { data := #[59] }); refine (sign_at P3 #[59] (by decide) (by omega)).mono ?_; rintro r w4 ⟨rfl, F4, ts4, e4, P4, A4, l4⟩))
        all_goals go_end0
        all_goals exact ⟨rfl, (((F0.trans F5).trans F7).trans F3).trans F4, ts4, e4, P4, A5.seq (A7.seq (A3.seq A4)), by omega⟩
end

end Go.Proofs.YtofgnpehlheeiaaGreatDoor
