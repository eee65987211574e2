/- The document's reader: a bind. -/
import Derived.Test.YtcbdolflgpmaoaaDoorRee
namespace Go.Proofs.YtcbdolflgpmaoaaDoor
open Go.RowKit
set_option linter.unusedVariables false
set_option linter.unusedSimpArgs false


section
variable {w : World} {b : Nat} {o : Option (List Tok)} {n : Int}
set_option maxRecDepth 100000 in
set_option maxHeartbeats 8000000 in
theorem bind_plain {d : Nat} (hE : ExpR d) {k : Int} (hk : k = 61 - d) (R : RdR w b o n) (hs : isR [92] (runO (pWant [61]) (runO (pKind 1) o)) = false) :
    Calls Tryd.prog 26 #[ptr b, .int .i64 k] w fun e w' => Fr b w w' ∧ RdR w' b (runO (pBind (pExp d)) o) n ∧ ∃ x v, e = .returned v ∧ isBV w' (new w w') x v ∧ Rt (pBind (pExp d)) o x := by
  have lt := R.lt
  have K1 := kind_any (R.alloc (.cells zero51 49)) 1 (by decide)
  have M0 := Blk.fresh w zero51 49
  have F0 := (Fr.refl b w).alloc (.cells zero51 49)
  have HEX : Hid (ExpR d ∧ k = 61 - d) := ⟨hE, hk⟩
  obtain ⟨o1, e1⟩ : ∃ o1, o1 = runO (pKind 1) o := ⟨_, rfl⟩
  obtain ⟨o2, e2⟩ : ∃ o2, o2 = runO (pWant [61]) o1 := ⟨_, rfl⟩
  rw [← e1, ← e2] at hs
  rw [← e1] at K1
  obtain ⟨h6, hA⟩ := args_no hs
  have HA : Hid (o2 = runO pArgs o2 ∧ Rt pArgs o2 []) := ⟨h6.symm, hA⟩
  obtain ⟨Q, hQ⟩ : ∃ Q : Option (List Tok) → B → Prop, ∀ q x, Q q x ↔ (runO (pBind (pExp d)) o = q ∧ Rt (pBind (pExp d)) o x) := ⟨_, fun _ _ => Iff.rfl⟩
  have HQ : Hid (∀ (t : Tok) (x : E), Rt (pKind 1) o t → Rt (pExp d) o2 x → Q (runO (pWant [59]) (runO (pExp d) o2)) (.mk t.text t.at' [] x)) := ⟨fun t x h1 h7 => (hQ _ _).2 (bind_rt h1 e1 e2 hA h6.symm h7 rfl)⟩
  suffices Calls Tryd.prog 26 #[ptr b, .int .i64 k] w fun e w' => Fr b w w' ∧ ∃ q x v, RdR w' b q n ∧ e = .returned v ∧ isBV w' (new w w') x v ∧ Q q x by
    refine this.mono ?_
    rintro e w' ⟨h1, q, x, v, h2, h3, h4, h5⟩
    obtain ⟨h5, h6⟩ := (hQ _ _).1 h5
    rw [h5]
    exact ⟨h1, h2, x, v, h3, h4, h6⟩
  have HE2 : Hid (o2 = runO (pWant [61]) o1) := ⟨e2⟩
  have HS : Hid (isR [92] o2 = false) := ⟨hs⟩
  clear hk hE e1 e2 R hs h6 hA hQ HA
  go_enter Tryd.func26, Tryd.ntmps26
  go_wp2_with (first
    | (go_at_call 24; refine K1.mono ?_; rintro e w1 ⟨F1', R1, t, rfl, T1⟩; have HT : Hid (Rt (pKind 1) o t) := ⟨T1⟩; have F1 := F0.trans F1'; have M1 := M0.kept F1' (fun e => by cases e; omega); have WA := want_any (R1.alloc (.cells #[.int .i64 t.kind, .string (str t.text), .int .i64 t.num, .int .i64 t.at'] 70)) [61]; rw [← HE2.out, show str [61] = ⟨#[61]⟩ from rfl] at WA; have L1 := Blk.fresh w1 #[.int .i64 t.kind, .string (str t.text), .int .i64 t.num, .int .i64 t.at'] 70; have lt1 := M1.lt; clear F1' T1 R1)
    | (go_at_call_of 25 (Value.string { data := #[61] }); refine WA.mono ?_; rintro e w2 ⟨rfl, F2', R2⟩; have F2 := (F1.alloc (.cells #[.int .i64 t.kind, .string (str t.text), .int .i64 t.num, .int .i64 t.at'] 70)).trans F2'; have M2 := (M1.alloc _).kept F2' (fun e => by cases e; omega); have L2 := L1.kept F2' (fun e => by cases e; omega); have y1 : w2.cell? ⟨w1.heap.size, 1, none⟩ = some (.string (str t.text)) := L2.cell 1; have y3 : w2.cell? ⟨w1.heap.size, 3, none⟩ = some (.int .i64 t.at') := L2.cell 3; have IS := is_any (R2.alloc (.cells #[.string (str t.text), .int .i64 t.at', nil3, .int .i64 0, .int .i64 0, .string ⟨#[]⟩, .int .i64 0, nil3, nil3, nil3, nil3] 49)) [92]; rw [HS.out, show str [92] = ⟨#[92]⟩ from rfl] at IS; have lt2 := L2.lt; have O2 : Ob w (w2.alloc (.cells #[.string (str t.text), .int .i64 t.at', nil3, .int .i64 0, .int .i64 0, .string ⟨#[]⟩, .int .i64 0, nil3, nil3, nil3, nil3] 49)) b w.heap.size w2.heap.size n o2 zero51 49 #[.string (str t.text), .int .i64 t.at', nil3, .int .i64 0, .int .i64 0, .string ⟨#[]⟩, .int .i64 0, nil3, nil3, nil3, nil3] 49 := ⟨R2.alloc _, F2.alloc _, M2.alloc _, Blk.fresh w2 _ _, ⟨lt, Nat.le_refl _, M2.lt⟩⟩; clear F2' R2 F2 M2 F1 M1 L1 WA)
    | (go_at_call 22; refine IS.mono ?_; rintro e w3 ⟨rfl, B3⟩; have O3 := O2.below B3; have XP := HEX.out.1 k HEX.out.2 _ b o2 n O3.rd; have hX : w2.heap.size < w3.heap.size := O3.lts.2.2; clear B3 O2 IS)
    | (go_at_call 42; refine XP.mono ?_; rintro e w7 ⟨F7, R7, x, v7, rfl, ⟨c, rfl, E7⟩, hx⟩; obtain ⟨k', a', m', s', g4, g5, g6, g7, n4, n5, n6, n7, c4, c5, c6, c7, rfl⟩ := isE_eight E7; have HE7 : Hid (isE _ _ _ _) := ⟨E7⟩; have HX7 : Hid (Rt (pExp d) o2 x) := ⟨hx⟩; have O7 := O3.call F7 R7; have s7 := F7.size; have AB : Hid (Fr b w3 w7) := ⟨F7⟩;  have u3 : w7.cell? ⟨w2.heap.size, 3, none⟩ = some (.int .i64 0) := O7.x.cell 3; have z3 := O7.x.z 3; have u4 : w7.cell? ⟨w2.heap.size, 4, none⟩ = some (.int .i64 0) := O7.x.cell 4; have z4 := O7.x.z 4; have u5 : w7.cell? ⟨w2.heap.size, 5, none⟩ = some (.string ⟨#[]⟩) := O7.x.cell 5; have z5 := O7.x.z 5; have u6 : w7.cell? ⟨w2.heap.size, 6, none⟩ = some (.int .i64 0) := O7.x.cell 6; have z6 := O7.x.z 6; have u7 : w7.cell? ⟨w2.heap.size, 7, none⟩ = some (nil3) := O7.x.cell 7; have z7 := O7.x.z 7; have u8 : w7.cell? ⟨w2.heap.size, 8, none⟩ = some (nil3) := O7.x.cell 8; have z8 := O7.x.z 8; have u9 : w7.cell? ⟨w2.heap.size, 9, none⟩ = some (nil3) := O7.x.cell 9; have z9 := O7.x.z 9; have u10 : w7.cell? ⟨w2.heap.size, 10, none⟩ = some (nil3) := O7.x.cell 10; have z10 := O7.x.z 10; clear E7 hx F7 R7 XP O3)
    | (go_at_call_of 25 (Value.string { data := #[59] }); have O8 := O7.store11 (.int .i64 k') (.int .i64 a') (.string s') (.int .i64 m') (.slice g4 n4 c4) (.slice g5 n5 c5) (.slice g6 n6 c6) (.slice g7 n7 c7); refine (want_any O8.rd [59]).mono ?_; rintro e w9 ⟨rfl, F9, R9⟩; have O9 := O8.call F9 R9; have HF9 : Hid (Fr b _ w9) := ⟨F9⟩; clear F9 R9)
    | (refine wpList_load_row rfl 49 _ rfl w2.heap.size rfl 49 _ (0, 0) _ O9.x Tryd.underlying49 rfl size51 ?_)
    | (refine wpList_store_row rfl 49 _ _ rfl w.heap.size _ rfl rfl 49 _ O9.m size51 rfl (by simp [Value.oneCell']) ?_))
  have oo := O9.out #[.string (str t.text), .int .i64 t.at', nil3, .int .i64 k', .int .i64 a', .string s', .int .i64 m', .slice g4 n4 c4, .slice g5 n5 c5, .slice g6 n6 c6, .slice g7 n7 c7]
  refine bodyPost_ret (results_cell_row Tryd.results26 _ _ w.heap.size 49 #[.string (str t.text), .int .i64 t.at', nil3, .int .i64 k', .int .i64 a', .string s', .int .i64 m', .slice g4 n4 c4, .slice g5 n5 c5, .slice g6 n6 c6, .slice g7 n7 c7] (0, 0) _ rfl O9.m.set Tryd.underlying49 rfl size51) rfl ⟨oo.1, _, _, _, oo.2, rfl, ?_, HQ.out t x HT.out HX7.out⟩
  have A := ((Abv.refl w3.heap.size w7).set8 hX 3 (.int .i64 k') (.int .i64 a') (.string s') (.int .i64 m') (.slice g4 n4 c4) (.slice g5 n5 c5) (.slice g6 n6 c6) (.slice g7 n7 c7)).fr HF9.out (by omega)
  have K := fun cs => (A.setRow (X := w.heap.size) (by omega) cs).keeps (wv := w3) (w0 := w) (Nat.le_refl _) (by omega)
  refine ⟨[.string (str t.text), .int .i64 t.at', nil3] ++ [.int .i64 k', .int .i64 a', .string s', .int .i64 m', .slice g4 n4 c4, .slice g5 n5 c5, .slice g6 n6 c6, .slice g7 n7 c7], rfl, ?_⟩
  simp only [isB]
  exact ⟨_, _, rfl, isRow_nil _ _ _, isE_keeps (K _) x _ HE7.out⟩

set_option maxRecDepth 100000 in
set_option maxHeartbeats 8000000 in
theorem bind_args {d : Nat} (hE : ExpR d) {k : Int} (hk : k = 61 - d) (R : RdR w b o n) (hs : isR [92] (runO (pWant [61]) (runO (pKind 1) o)) = true) :
    Calls Tryd.prog 26 #[ptr b, .int .i64 k] w fun e w' => Fr b w w' ∧ RdR w' b (runO (pBind (pExp d)) o) n ∧ ∃ x v, e = .returned v ∧ isBV w' (new w w') x v ∧ Rt (pBind (pExp d)) o x := by
  have lt := R.lt
  have f1 := fieldR1
  have K1 := kind_any (R.alloc (.cells zero51 49)) 1 (by decide)
  have M0 := Blk.fresh w zero51 49
  have F0 := (Fr.refl b w).alloc (.cells zero51 49)
  have HEX : Hid (ExpR d ∧ k = 61 - d) := ⟨hE, hk⟩
  obtain ⟨o1, e1⟩ : ∃ o1, o1 = runO (pKind 1) o := ⟨_, rfl⟩
  obtain ⟨o2, e2⟩ : ∃ o2, o2 = runO (pWant [61]) o1 := ⟨_, rfl⟩
  rw [← e1, ← e2] at hs
  rw [← e1] at K1
  have hne : ∀ l, o2 = some l → l ≠ [] := fun l e z => by rw [e, z] at hs; cases hs
  have HNE : Hid (∀ l, o2 = some l → l ≠ []) := ⟨hne⟩
  have hAY := fun {u : Tok} (h : Rt (pKind 1) (o2.map List.tail) u) => args_yes hs h
  obtain ⟨o3, e3⟩ : ∃ o3, o3 = o2.map List.tail := ⟨_, rfl⟩
  rw [← e3] at hAY
  obtain ⟨o4, e4⟩ : ∃ o4, o4 = runO (pKind 1) o3 := ⟨_, rfl⟩
  rw [← e4] at hAY
  obtain ⟨N, eN⟩ : ∃ N, N = namesO o4 := ⟨_, rfl⟩
  rw [← eN] at hAY
  obtain ⟨o6, e6⟩ : ∃ o6, o6 = runO (pWant [45, 62]) N.2 := ⟨_, rfl⟩
  rw [← e6] at hAY
  obtain ⟨Q, hQ⟩ : ∃ Q : Option (List Tok) → B → Prop, ∀ q x, Q q x ↔ (runO (pBind (pExp d)) o = q ∧ Rt (pBind (pExp d)) o x) := ⟨_, fun _ _ => Iff.rfl⟩
  have HQ : Hid (∀ (t u : Tok) (x : E), Rt (pKind 1) o t → Rt (pKind 1) o3 u → Rt (pExp d) o6 x → Q (runO (pWant [59]) (runO (pExp d) o6)) (.mk t.text t.at' (u.text :: N.1) x)) := ⟨fun t u x h1 h4 h7 => (hQ _ _).2 (bind_rt h1 e1 e2 (hAY h4).2 (hAY h4).1.symm h7 rfl)⟩
  suffices Calls Tryd.prog 26 #[ptr b, .int .i64 k] w fun e w' => Fr b w w' ∧ ∃ q x v, RdR w' b q n ∧ e = .returned v ∧ isBV w' (new w w') x v ∧ Q q x by
    refine this.mono ?_
    rintro e w' ⟨h1, q, x, v, h2, h3, h4, h5⟩
    obtain ⟨h5, h6⟩ := (hQ _ _).1 h5
    rw [h5]
    exact ⟨h1, h2, x, v, h3, h4, h6⟩
  have HE2 : Hid (o2 = runO (pWant [61]) o1 ∧ o3 = o2.map List.tail ∧ o4 = runO (pKind 1) o3 ∧ N = namesO o4 ∧ o6 = runO (pWant [45, 62]) N.2) := ⟨e2, e3, e4, eN, e6⟩
  have HS : Hid (isR [92] o2 = true) := ⟨hs⟩
  obtain ⟨i0, hi, hz0, hz1, hz2⟩ := info_parts info9
  clear hk hE e1 e2 R hs e3 e4 eN e6 hAY hQ hne
  go_enter Tryd.func26, Tryd.ntmps26
  go_wp2_with (first
    | (go_at_call 24; refine K1.mono ?_; rintro e w1 ⟨F1', R1, t, rfl, T1⟩; have HT : Hid (Rt (pKind 1) o t) := ⟨T1⟩; have F1 := F0.trans F1'; have M1 := M0.kept F1' (fun e => by cases e; omega); have WA := want_any (R1.alloc (.cells #[.int .i64 t.kind, .string (str t.text), .int .i64 t.num, .int .i64 t.at'] 70)) [61]; rw [← HE2.out.1, show str [61] = ⟨#[61]⟩ from rfl] at WA; have L1 := Blk.fresh w1 #[.int .i64 t.kind, .string (str t.text), .int .i64 t.num, .int .i64 t.at'] 70; have lt1 := M1.lt; clear F1' T1 R1 K1)
    | (go_at_call_of 25 (Value.string { data := #[61] }); refine WA.mono ?_; rintro e w2 ⟨rfl, F2', R2⟩; have F2 := (F1.alloc (.cells #[.int .i64 t.kind, .string (str t.text), .int .i64 t.num, .int .i64 t.at'] 70)).trans F2'; have M2 := (M1.alloc _).kept F2' (fun e => by cases e; omega); have L2 := L1.kept F2' (fun e => by cases e; omega); have y1 : w2.cell? ⟨w1.heap.size, 1, none⟩ = some (.string (str t.text)) := L2.cell 1; have y3 : w2.cell? ⟨w1.heap.size, 3, none⟩ = some (.int .i64 t.at') := L2.cell 3; have IS := is_any (R2.alloc (.cells #[.string (str t.text), .int .i64 t.at', nil3, .int .i64 0, .int .i64 0, .string ⟨#[]⟩, .int .i64 0, nil3, nil3, nil3, nil3] 49)) [92]; rw [HS.out, show str [92] = ⟨#[92]⟩ from rfl] at IS; have lt2 := L2.lt; have O2 : Ob w (w2.alloc (.cells #[.string (str t.text), .int .i64 t.at', nil3, .int .i64 0, .int .i64 0, .string ⟨#[]⟩, .int .i64 0, nil3, nil3, nil3, nil3] 49)) b w.heap.size w2.heap.size n o2 zero51 49 #[.string (str t.text), .int .i64 t.at', nil3, .int .i64 0, .int .i64 0, .string ⟨#[]⟩, .int .i64 0, nil3, nil3, nil3, nil3] 49 := ⟨R2.alloc _, F2.alloc _, M2.alloc _, Blk.fresh w2 _ _, ⟨lt, Nat.le_refl _, M2.lt⟩⟩; clear F2' R2 F2 M2 F1 M1 L1 WA L2)
    | (go_at_call 22; refine IS.mono ?_; rintro e w3 ⟨rfl, B3⟩; have O3 := O2.below B3; have ON := on_any O3.rd HNE.out; rw [← HE2.out.2.1] at ON; clear B3 O2 IS y1 y3)
    | (go_at_call 23; refine ON.mono ?_; rintro e w4 ⟨rfl, F4, R4⟩; have O4 := O3.call F4 R4; have hX : w2.heap.size < w4.heap.size := O4.lts.2.2; clear F4 R4 O3 ON))
  have HO4 : Hid (Ob _ _ _ _ _ _ _ _ _ _ _) := ⟨O4⟩
  have KN := kind_any O4.rd.drew 1 (by decide)
  rw [← HE2.out.2.2.1] at KN
  have x2 : w4.cell? ⟨w2.heap.size, 2, none⟩ = some nil3 := O4.x.cell 2
  clear O4
  generalize hXX : w2.heap.size = X at *
  go_cut [] from 20 to 29 (fun wx => ∃ (u : Tok) (q cap : Nat), Ob w wx b w.heap.size X n o4 zero51 49 #[.string (str t.text), .int .i64 t.at', .slice (some ⟨q, 0, none⟩) 1 cap, .int .i64 0, .int .i64 0, .string ⟨#[]⟩, .int .i64 0, nil3, nil3, nil3, nil3] 49 ∧ wx.ownsRow (X + 1) 9 1 (.slice (some ⟨q, 0, none⟩) 1 cap) 1 [.string (str u.text)] ∧ Hid (Rt (pKind 1) o3 u))
  case first =>
    go_region_law (first
      | (refine step_append_lies _ (by rfl) _ _ _ (by rfl) (X + 1) 9 i0 _ 1 16 Tryd.underlying38 hi hz0 hz1 hz2 rfl (by decide) nil3 0 [] (by rfl) (World.ownsRow_nil _ _ _ _) ⟨_, 0, none⟩ 1 1 [.string (str u.text)] (by rfl) rfl new_one (by simp [Value.oneCell']) (by decide) (by unfold maxLen; omega) (by omega) (by simp; omega) _ rfl ?_; intro q5 cap5 w6 ho hg hat hlt; have O6 := (O5.alloc (.cells #[.string (str u.text)] 9)).kept hg (fun i e => by cases e); have y6 : w6.cell? ⟨X, 2, none⟩ = some nil3 := O6.x.cell 2; have z6 : w6.frozen? ⟨X, 2, none⟩ = false := O6.x.z 2; clear hg hat hlt)
      | (go_simp; go_at_call 24; refine KN.mono ?_; rintro e w5 ⟨F5, R5, u, rfl, hu⟩; have HU : Hid (Rt (pKind 1) o3 u) := ⟨hu⟩; have O5 := HO4.out.drew.call F5 R5; have y5 : w5.cell? ⟨X, 2, none⟩ = some nil3 := O5.x.cell 2; have lt5 := O5.lts.2.2; clear F5 R5 hu))
    all_goals go_wp2
    all_goals go_meet
    all_goals exact ⟨u, q5, cap5, O6.store 2 _, own_store ho 2 _, HU⟩
  case rest =>
    obtain ⟨u, q5, cap5, O7, OW7, HU⟩ := hcut
    have HO7 : Hid (Ob _ _ _ _ _ _ _ _ _ _ _) := ⟨O7⟩
    have NM := rnames_any O7.rd.drew
    rw [← HE2.out.2.2.2.1] at NM
    have x2 : wc.cell? ⟨X, 2, none⟩ = some (.slice (some ⟨q5, 0, none⟩) 1 cap5) := O7.x.cell 2
    have lb := O7.lo
    clear O7 KN HO4
    go_wp2
    go_cut [] from 30 to 37 (fun wx => ∃ (ga : Option Addr) (cap : Nat), Ob w wx b w.heap.size X n N.2 zero51 49 #[.string (str t.text), .int .i64 t.at', .slice ga (1 + N.1.length) cap, .int .i64 0, .int .i64 0, .string ⟨#[]⟩, .int .i64 0, nil3, nil3, nil3, nil3] 49 ∧ wx.ownsRow (X + 1) 9 1 (.slice ga (1 + N.1.length) cap) (1 + N.1.length) ([.string (str u.text)] ++ strC N.1) ∧ N.1.length ≤ 16384)
    case first =>
      go_region_law (first
        | (refine step_append_any (by rfl) _ _ _ (by rfl) (X + 1) 9 i0 _ 1 16 Tryd.underlying38 hi hz0 hz1 hz2 rfl (by decide) (.slice (some ⟨q5, 0, none⟩) 1 cap5) 1 [.string (str u.text)] (by rfl) OW8 _ v8 N.1.length (strC N.1) (by rfl) NR8 (by simp [strC]) (by simp [strC, Value.oneCell']) (by unfold maxLen; omega) (by omega) (by omega) ?_; intro ga9 cap9 w9 ho hg; have O9 := O8.row OW8 hg; have y9 : w9.cell? ⟨X, 2, none⟩ = some (.slice (some ⟨q5, 0, none⟩) 1 cap5) := O9.x.cell 2; have z9 : w9.frozen? ⟨X, 2, none⟩ = false := O9.x.z 2; clear hg)
        | (go_simp; go_at_call 41; refine NM.mono ?_; rintro e w8 ⟨v8, rfl, F8, R8, NR8, nl8⟩; have O8 := HO7.out.drew.call F8 R8; have OW8 := own_call OW7.drew F8 (by omega); have y8 : w8.cell? ⟨X, 2, none⟩ = some (.slice (some ⟨q5, 0, none⟩) 1 cap5) := O8.x.cell 2; have lt8 := O8.lts.2.2; clear F8 R8))
      all_goals go_wp2
      all_goals go_meet
      all_goals exact ⟨ga9, cap9, O9.store 2 _, own_store ho 2 _, nl8⟩
    case rest =>
      rename_i wd
      obtain ⟨ga, capA, O9, OW9, nl⟩ := hcut
      have WB := want_any O9.rd [45, 62]
      rw [← HE2.out.2.2.2.2, show str [45, 62] = ⟨#[45, 62]⟩ from rfl] at WB
      clear NM HO7 x2 OW7
      go_wp2_with (first
        | (go_at_call_of 25 (Value.string { data := #[45, 62] }); refine WB.mono ?_; rintro e w3 ⟨rfl, F3, R3⟩; have O3 := O9.call F3 R3; have OW3 := own_call OW9 F3 (by omega); have XP := HEX.out.1 k HEX.out.2 _ b o6 n O3.rd; have hX : X < w3.heap.size := O3.lts.2.2; clear F3 R3 O9 OW9 WB)
        | (go_at_call 42; refine XP.mono ?_; rintro e w7 ⟨F7, R7, x, v7, rfl, ⟨c, rfl, E7⟩, hx⟩; obtain ⟨k', a', m', s', g4, g5, g6, g7, n4, n5, n6, n7, c4, c5, c6, c7, rfl⟩ := isE_eight E7; have HE7 : Hid (isE _ _ _ _) := ⟨E7⟩; have HX7 : Hid (Rt (pExp d) o6 x) := ⟨hx⟩; have O7 := O3.call F7 R7; have OW7 := own_call OW3 F7 (by omega); have s7 := F7.size; have u3 : w7.cell? ⟨X, 3, none⟩ = some (.int .i64 0) := O7.x.cell 3; have z3 := O7.x.z 3; have u4 : w7.cell? ⟨X, 4, none⟩ = some (.int .i64 0) := O7.x.cell 4; have z4 := O7.x.z 4; have u5 : w7.cell? ⟨X, 5, none⟩ = some (.string ⟨#[]⟩) := O7.x.cell 5; have z5 := O7.x.z 5; have u6 : w7.cell? ⟨X, 6, none⟩ = some (.int .i64 0) := O7.x.cell 6; have z6 := O7.x.z 6; have u7 : w7.cell? ⟨X, 7, none⟩ = some (nil3) := O7.x.cell 7; have z7 := O7.x.z 7; have u8 : w7.cell? ⟨X, 8, none⟩ = some (nil3) := O7.x.cell 8; have z8 := O7.x.z 8; have u9 : w7.cell? ⟨X, 9, none⟩ = some (nil3) := O7.x.cell 9; have z9 := O7.x.z 9; have u10 : w7.cell? ⟨X, 10, none⟩ = some (nil3) := O7.x.cell 10; have z10 := O7.x.z 10; clear E7 hx F7 R7 XP O3)
        | (go_at_call_of 25 (Value.string { data := #[59] }); have O8 := O7.store11 (.int .i64 k') (.int .i64 a') (.string s') (.int .i64 m') (.slice g4 n4 c4) (.slice g5 n5 c5) (.slice g6 n6 c6) (.slice g7 n7 c7); have OW8 := own_store (own_store (own_store (own_store (own_store (own_store (own_store (own_store OW7 3 (.int .i64 k')) 4 (.int .i64 a')) 5 (.string s')) 6 (.int .i64 m')) 7 (.slice g4 n4 c4)) 8 (.slice g5 n5 c5)) 9 (.slice g6 n6 c6)) 10 (.slice g7 n7 c7); refine (want_any O8.rd [59]).mono ?_; rintro e w9 ⟨rfl, F9, R9⟩; have O9 := O8.call F9 R9; have OW9 := own_call OW8 F9 (by omega); have HF9 : Hid (Fr b _ w9) := ⟨F9⟩; clear F9 R9)
        | (refine wpList_load_row rfl 49 _ rfl X rfl 49 _ (0, 0) _ O9.x Tryd.underlying49 rfl size51 ?_)
        | (refine wpList_store_row rfl 49 _ _ rfl w.heap.size _ rfl rfl 49 _ O9.m size51 rfl (by simp [Value.oneCell']) ?_))
      have oo := O9.out #[.string (str t.text), .int .i64 t.at', .slice ga (1 + N.1.length) capA, .int .i64 k', .int .i64 a', .string s', .int .i64 m', .slice g4 n4 c4, .slice g5 n5 c5, .slice g6 n6 c6, .slice g7 n7 c7]
      refine bodyPost_ret (results_cell_row Tryd.results26 _ _ w.heap.size 49 #[.string (str t.text), .int .i64 t.at', .slice ga (1 + N.1.length) capA, .int .i64 k', .int .i64 a', .string s', .int .i64 m', .slice g4 n4 c4, .slice g5 n5 c5, .slice g6 n6 c6, .slice g7 n7 c7] (0, 0) _ rfl O9.m.set Tryd.underlying49 rfl size51) rfl ⟨oo.1, _, _, _, oo.2, rfl, ?_, HQ.out t u x HT.out HU.out HX7.out⟩
      have A := ((Abv.refl w3.heap.size w7).set8 hX 3 (.int .i64 k') (.int .i64 a') (.string s') (.int .i64 m') (.slice g4 n4 c4) (.slice g5 n5 c5) (.slice g6 n6 c6) (.slice g7 n7 c7)).fr HF9.out (by omega)
      have K := fun cs => (A.setRow (X := w.heap.size) (by omega) cs).keeps (wv := w3) (w0 := w) (Nat.le_refl _) (by omega)
      refine ⟨[.string (str t.text), .int .i64 t.at', .slice ga (1 + N.1.length) capA] ++ [.int .i64 k', .int .i64 a', .string s', .int .i64 m', .slice g4 n4 c4, .slice g5 n5 c5, .slice g6 n6 c6, .slice g7 n7 c7], rfl, ?_⟩
      simp only [isB]
      refine ⟨_, _, rfl, ?_, isE_keeps (K _) x _ HE7.out⟩
      have OF := own_new (z_own_kept OW9 (grown_setRow w9 w.heap.size #[.string (str t.text), .int .i64 t.at', .slice ga (1 + N.1.length) capA, .int .i64 k', .int .i64 a', .string s', .int .i64 m', .slice g4 n4 c4, .slice g5 n5 c5, .slice g6 n6 c6, .slice g7 n7 c7]) (by omega)) (w := w) (by omega) (by omega)
      rw [List.length_cons, Nat.add_comm N.1.length 1]
      exact OF
theorem rbind_any {d : Nat} (hE : ExpR d) {k : Int} (hk : k = 61 - d) (R : RdR w b o n) :
    Calls Tryd.prog 26 #[ptr b, .int .i64 k] w fun e w' => Fr b w w' ∧ RdR w' b (runO (pBind (pExp d)) o) n ∧ ∃ x v, e = .returned v ∧ isBV w' (new w w') x v ∧ Rt (pBind (pExp d)) o x := by
  cases hs : isR [92] (runO (pWant [61]) (runO (pKind 1) o)) with
  | false => exact bind_plain hE hk R hs
  | true => exact bind_args hE hk R hs
end

end Go.Proofs.YtcbdolflgpmaoaaDoor

