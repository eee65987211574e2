/- The document's reader: an alternative. -/
import Derived.Test.YtofgnpehlheeiaaGreatDoorRee
namespace Go.Proofs.YtofgnpehlheeiaaGreatDoor
open Go.RowKit
set_option linter.unusedVariables false
set_option linter.unusedSimpArgs false


abbrev zero102 : Array Value := #[.int .i64 0, .int .i64 0, .string ⟨#[]⟩, .int .i64 0, nil3, .int .i64 0, .int .i64 0, .string ⟨#[]⟩, .int .i64 0, nil3, nil3, nil3, nil3]
abbrev Hd : Type := Int × Int × List UInt8 × Int × List (List UInt8)
theorem alt_rt {ex : List Tok → PR E} {o oh o6 : Option (List Tok)} {h : Hd} {x : E} (h1 : Rt pHead o h) (e1 : oh = runO pHead o) (e6 : o6 = runO (pWant [45, 62]) oh) (h7 : Rt ex o6 x) :
    runO (pAlt ex) o = runO (pWant [59]) (runO ex o6) ∧ Rt (pAlt ex) o (.mk h.1 h.2.1 h.2.2.1 h.2.2.2.1 h.2.2.2.2 x) := by
  subst e1 e6
  have s1 := (Stp.mk (q := pAlt ex) (fun l => rfl)).rt h1
  have s2 := (Stp.mk (p := pWant [45, 62]) (f := fun _ r => andT (ex r) fun x r => andT (pWant [59] r) fun _ r => Except.ok (A.mk h.1 h.2.1 h.2.2.1 h.2.2.2.1 h.2.2.2.2 x, r)) (q := fun r => _) (fun l => rfl)).rt (rt_want [45, 62] (runO pHead o))
  have s4 := (Stp.mk (p := ex) (f := fun x r => andT (pWant [59] r) fun _ r => Except.ok (A.mk h.1 h.2.1 h.2.2.1 h.2.2.2.1 h.2.2.2.2 x, r)) (q := fun r => _) (fun l => rfl)).rt h7
  have s5 := (Stp.mk (p := pWant [59]) (f := fun _ r => (Except.ok (A.mk h.1 h.2.1 h.2.2.1 h.2.2.2.1 h.2.2.2.2 x, r) : PR A)) (q := fun r => _) (fun l => rfl)).rt (rt_want [59] (runO ex (runO (pWant [45, 62]) (runO pHead o))))
  have s6 := rt_ret (A.mk h.1 h.2.1 h.2.2.1 h.2.2.2.1 h.2.2.2.2 x) (runO (pWant [59]) (runO ex (runO (pWant [45, 62]) (runO pHead o))))
  exact ⟨s1.1.trans (s2.1.trans (s4.1.trans (s5.1.trans s6.1))), s1.2 _ (s2.2 _ (s4.2 _ (s5.2 _ s6.2)))⟩
theorem head_two {t : Tok} {r : List Tok} (hk : t.kind = 2) : (namesO (some r)).2 = runO pHead (some (t :: r)) ∧ Rt pHead (some (t :: r)) (1, t.at', t.text, 0, (namesO (some r)).1) := by
  have e : pHead (t :: r) = .ok ((1, t.at', t.text, 0, (pNames r).1), (pNames r).2) := by simp [pHead, hk]
  obtain ⟨h1, h2⟩ := runO_some (p := pHead) e
  exact ⟨by rw [h1]; rfl, fun y hy => by rw [h2] at hy; cases hy; rfl⟩
theorem head_four {t : Tok} {r : List Tok} (hk : t.kind = 4) : some r = runO pHead (some (t :: r)) ∧ Rt pHead (some (t :: r)) (2, t.at', [], t.num, []) := by
  have e : pHead (t :: r) = .ok ((2, t.at', [], t.num, []), r) := by simp [pHead, hk]
  obtain ⟨h1, h2⟩ := runO_some (p := pHead) e
  exact ⟨by rw [h1], fun y hy => by rw [h2] at hy; cases hy; rfl⟩
theorem head_one {t : Tok} {r : List Tok} (hk : t.kind = 1) : some r = runO pHead (some (t :: r)) ∧ Rt pHead (some (t :: r)) (3, t.at', t.text, 0, []) := by
  have e : pHead (t :: r) = .ok ((3, t.at', t.text, 0, []), r) := by simp [pHead, hk]
  obtain ⟨h1, h2⟩ := runO_some (p := pHead) e
  exact ⟨by rw [h1], fun y hy => by rw [h2] at hy; cases hy; rfl⟩
theorem hd_none3 {o : Option (List Tok)} {n : Int} (hm : ¬ ∃ t r, o = some (t :: r) ∧ (t.kind = 2 ∨ t.kind = 4 ∨ t.kind = 1)) : (none = runO pHead o ∧ ∀ h, Rt pHead o h) ∧ ∃ (a m p : Int) (s : ByteArray), hdO o n = .agg #[.int .i64 a, .string s, .int .i64 m, .int .i64 p] ∧ (a == 2) = false ∧ (a == 4) = false ∧ (a == 1) = false := by
  rcases o with _ | (_ | ⟨t, r⟩)
  · exact ⟨⟨rfl, fun h y hy => by cases hy⟩, 0, 0, n, ⟨#[]⟩, rfl, rfl, rfl, rfl⟩
  · exact ⟨⟨rfl, fun h y hy => by cases hy⟩, 0, 0, n, ⟨#[]⟩, rfl, rfl, rfl, rfl⟩
  · have h2 : ¬ t.kind = 2 := fun q => hm ⟨t, r, rfl, .inl q⟩
    have h4 : ¬ t.kind = 4 := fun q => hm ⟨t, r, rfl, .inr (.inl q)⟩
    have h1 : ¬ t.kind = 1 := fun q => hm ⟨t, r, rfl, .inr (.inr q)⟩
    exact ⟨⟨by simp [runO, pHead, h2, h4, h1], fun h y hy => by simp [valO, pHead, h2, h4, h1] at hy⟩, t.kind, t.num, t.at', str t.text, rfl, by simp [h2], by simp [h4], by simp [h1]⟩
section
variable {w : World} {b : Nat} {n : Int}
set_option maxRecDepth 100000 in
set_option maxHeartbeats 8000000 in
theorem alt_bad {d : Nat} (hE : ExpR d) {k : Int} (hk : k = 61 - d) {o : Option (List Tok)} (R : RdR w b o n) (hm : ¬ ∃ t r, o = some (t :: r) ∧ (t.kind = 2 ∨ t.kind = 4 ∨ t.kind = 1)) :
    Calls Tryz.prog 53 #[ptr b, .int .i64 k] w fun e w' => Fr b w w' ∧ RdR w' b (runO (pAlt (pExp d)) o) n ∧ ∃ x v, e = .returned v ∧ isAV w' (new w w') x v ∧ Rt (pAlt (pExp d)) o x := by
  have lt := R.lt
  have T := token_any (R.alloc (.cells zero102 102))
  have M0 := Blk.fresh w zero102 102
  have HR : Hid (RdR _ _ _ _) := ⟨R⟩
  have HEX : Hid (ExpR d ∧ k = 61 - d) := ⟨hE, hk⟩
  obtain ⟨⟨eh, hh⟩, ta, tm, tp, tx, eT, hn2, hn4, hn1⟩ := hd_none3 (n := n) hm
  rw [eT] at T
  obtain ⟨o6, e6⟩ : ∃ o6, o6 = runO (pWant [45, 62]) none := ⟨_, rfl⟩
  obtain ⟨Q, hQ⟩ : ∃ Q : Option (List Tok) → A → Prop, ∀ q x, Q q x ↔ (runO (pAlt (pExp d)) o = q ∧ Rt (pAlt (pExp d)) o x) := ⟨_, fun _ _ => Iff.rfl⟩
  have HQ : Hid (∀ (x : E), Rt (pExp d) o6 x → Q (runO (pWant [59]) (runO (pExp d) o6)) (.mk 0 tp [] 0 [] x)) := ⟨fun x h7 => (hQ _ _).2 (alt_rt (hh (0, tp, [], 0, [])) eh e6 h7)⟩
  suffices Calls Tryz.prog 53 #[ptr b, .int .i64 k] w fun e w' => Fr b w w' ∧ ∃ q x v, RdR w' b q n ∧ e = .returned v ∧ isAV w' (new w w') x v ∧ Q q x by
    refine this.mono ?_
    rintro e w' ⟨h1, q, x, v, h2, h3, h4, h5⟩
    obtain ⟨h5, h6⟩ := (hQ _ _).1 h5
    rw [h5]
    exact ⟨h1, h2, x, v, h3, h4, h6⟩
  have HE6 : Hid (o6 = runO (pWant [45, 62]) none) := ⟨e6⟩
  clear hk hE R e6 hQ  eT hm eh hh
  go_enter Tryz.func53, Tryz.ntmps53
  go_wp2_with (first
    | (go_at_call 27; refine T.mono ?_; rintro e w1 ⟨rfl, B1⟩; have M1 : Blk w1 w.heap.size zero102 102 := (B1.block _ M0.lt).trans M0; have lt1 := M1.lt; have O1 : Ob w ((w1.alloc (.cells #[.int .i64 ta, .string tx, .int .i64 tm, .int .i64 tp] 58)).alloc (.cells #[.int .i64 0, .int .i64 tp, .string ⟨#[]⟩, .int .i64 0, nil3, .int .i64 0, .int .i64 0, .string ⟨#[]⟩, .int .i64 0, nil3, nil3, nil3, nil3] 102)) b w.heap.size (w1.heap.size + 1) n o zero102 102 #[.int .i64 0, .int .i64 tp, .string ⟨#[]⟩, .int .i64 0, nil3, .int .i64 0, .int .i64 0, .string ⟨#[]⟩, .int .i64 0, nil3, nil3, nil3, nil3] 102 := ⟨(((HR.out.alloc _).below B1).alloc _).alloc _, (((Fr.refl b w).alloc _).trans (Fr.of_below B1)).alloc _ |>.alloc _, (M1.alloc _).alloc _, (by have := Blk.fresh (w1.alloc (.cells #[.int .i64 ta, .string tx, .int .i64 tm, .int .i64 tp] 58)) #[.int .i64 0, .int .i64 tp, .string ⟨#[]⟩, .int .i64 0, nil3, .int .i64 0, .int .i64 0, .string ⟨#[]⟩, .int .i64 0, nil3, nil3, nil3, nil3] 102; simpa using this), ⟨lt, Nat.le_refl _, by omega⟩⟩; have L1 := (Blk.fresh w1 #[.int .i64 ta, .string tx, .int .i64 tm, .int .i64 tp] 58).alloc (.cells #[.int .i64 0, .int .i64 tp, .string ⟨#[]⟩, .int .i64 0, nil3, .int .i64 0, .int .i64 0, .string ⟨#[]⟩, .int .i64 0, nil3, nil3, nil3, nil3] 102); clear B1 M1 T M0)
    | (go_at_call 28; refine (rfail_any O1.rd 23 (by decide)).mono ?_; rintro e w2 ⟨rfl, F2, R2⟩; have O2 := O1.call F2 R2; have ltX := O2.lts.2.2; have O5 := O2; have WB := want_any O5.rd [45, 62]; rw [← HE6.out, show str [45, 62] = ⟨#[45, 62]⟩ from rfl] at WB; clear F2 R2 O1 L1 O2)
    | (go_at_call_of 15 (Value.string { data := #[45, 62] }); refine WB.mono ?_; rintro e w3 ⟨rfl, F3, R3⟩; have s3 := F3.size; (try simp only [World.size_setCell] at s3); have O3 := O5.call F3 R3; have XP := HEX.out.1 k HEX.out.2 _ b o6 n O3.rd; have hX : w1.heap.size + 1 < w3.heap.size := O3.lts.2.2; clear F3 R3 O5 WB)
    | (go_at_call 30; refine XP.mono ?_; rintro e w7 ⟨F7, R7, x, v7, rfl, ⟨c, rfl, E7⟩, hx⟩; obtain ⟨k', a', m', s', g4, g5, g6, g7, n4, n5, n6, n7, c4, c5, c6, c7, rfl⟩ := isE_eight E7; have HE7 : Hid (isE _ _ _ _) := ⟨E7⟩; have HX7 : Hid (Rt (pExp d) o6 x) := ⟨hx⟩; have O7 := O3.call F7 R7; have s7 := F7.size; have u5 : w7.cell? ⟨w1.heap.size + 1, 5, none⟩ = some (.int .i64 0) := O7.x.cell 5; have q5 := O7.x.z 5; have u6 : w7.cell? ⟨w1.heap.size + 1, 6, none⟩ = some (.int .i64 0) := O7.x.cell 6; have q6 := O7.x.z 6; have u7 : w7.cell? ⟨w1.heap.size + 1, 7, none⟩ = some (.string ⟨#[]⟩) := O7.x.cell 7; have q7 := O7.x.z 7; have u8 : w7.cell? ⟨w1.heap.size + 1, 8, none⟩ = some (.int .i64 0) := O7.x.cell 8; have q8 := O7.x.z 8; have u9 : w7.cell? ⟨w1.heap.size + 1, 9, none⟩ = some (nil3) := O7.x.cell 9; have q9 := O7.x.z 9; have u10 : w7.cell? ⟨w1.heap.size + 1, 10, none⟩ = some (nil3) := O7.x.cell 10; have q10 := O7.x.z 10; have u11 : w7.cell? ⟨w1.heap.size + 1, 11, none⟩ = some (nil3) := O7.x.cell 11; have q11 := O7.x.z 11; have u12 : w7.cell? ⟨w1.heap.size + 1, 12, none⟩ = some (nil3) := O7.x.cell 12; have q12 := O7.x.z 12; clear E7 hx F7 R7 XP O3)
    | (go_at_call_of 15 (Value.string { data := #[59] }); have O8 := O7.store13 (.int .i64 k') (.int .i64 a') (.string s') (.int .i64 m') (.slice g4 n4 c4) (.slice g5 n5 c5) (.slice g6 n6 c6) (.slice g7 n7 c7); refine (want_any O8.rd [59]).mono ?_; rintro e w9 ⟨rfl, F9, R9⟩; have O9 := O8.call F9 R9; have HF9 : Hid (Fr b _ w9) := ⟨F9⟩; clear F9 R9)
    | (refine wpList_load_row rfl 102 _ rfl (w1.heap.size + 1) rfl 102 _ (0, 0) _ O9.x Tryz.underlying102 rfl size102 ?_)
    | (refine wpList_store_row rfl 102 _ _ rfl w.heap.size _ rfl rfl 102 _ O9.m size102 rfl (by simp [Value.oneCell']) ?_))
  have oo := O9.out #[.int .i64 0, .int .i64 tp, .string ⟨#[]⟩, .int .i64 0, nil3, .int .i64 k', .int .i64 a', .string s', .int .i64 m', .slice g4 n4 c4, .slice g5 n5 c5, .slice g6 n6 c6, .slice g7 n7 c7]
  refine bodyPost_ret (results_cell_row Tryz.results53 _ _ w.heap.size 102 #[.int .i64 0, .int .i64 tp, .string ⟨#[]⟩, .int .i64 0, nil3, .int .i64 k', .int .i64 a', .string s', .int .i64 m', .slice g4 n4 c4, .slice g5 n5 c5, .slice g6 n6 c6, .slice g7 n7 c7] (0, 0) _ rfl O9.m.set Tryz.underlying102 rfl size102) rfl ⟨oo.1, _, _, _, oo.2, rfl, ?_, HQ.out x HX7.out⟩
  have A := ((Abv.refl w3.heap.size w7).set8 hX 5 (.int .i64 k') (.int .i64 a') (.string s') (.int .i64 m') (.slice g4 n4 c4) (.slice g5 n5 c5) (.slice g6 n6 c6) (.slice g7 n7 c7)).fr HF9.out (by omega)
  have K := fun cs => (A.setRow (X := w.heap.size) (by omega) cs).keeps (wv := w3) (w0 := w) (Nat.le_refl _) (by omega)
  refine ⟨[.int .i64 0, .int .i64 tp, .string ⟨#[]⟩, .int .i64 0, nil3] ++ [.int .i64 k', .int .i64 a', .string s', .int .i64 m', .slice g4 n4 c4, .slice g5 n5 c5, .slice g6 n6 c6, .slice g7 n7 c7], rfl, ?_⟩
  simp only [isA]
  exact ⟨_, _, rfl, isRow_nil _ _ _, isE_keeps (K _) x _ HE7.out⟩
set_option maxRecDepth 100000 in
set_option maxHeartbeats 8000000 in
theorem alt_int {d : Nat} (hE : ExpR d) {k : Int} (hk : k = 61 - d) {t : Tok} {r : List Tok} (R : RdR w b (some (t :: r)) n) (hk9 : t.kind = 4) :
    Calls Tryz.prog 53 #[ptr b, .int .i64 k] w fun e w' => Fr b w w' ∧ RdR w' b (runO (pAlt (pExp d)) (some (t :: r))) n ∧ ∃ x v, e = .returned v ∧ isAV w' (new w w') x v ∧ Rt (pAlt (pExp d)) (some (t :: r)) x := by
  have lt := R.lt
  have T := token_any (R.alloc (.cells zero102 102))
  have M0 := Blk.fresh w zero102 102
  have HR : Hid (RdR _ _ _ _) := ⟨R⟩
  have HEX : Hid (ExpR d ∧ k = 61 - d) := ⟨hE, hk⟩
  simp only [hdO] at T
  rw [hk9] at T
  obtain ⟨eh, hh⟩ := head_four (r := r) hk9
  obtain ⟨o6, e6⟩ : ∃ o6, o6 = runO (pWant [45, 62]) (some r) := ⟨_, rfl⟩
  obtain ⟨Q, hQ⟩ : ∃ Q : Option (List Tok) → A → Prop, ∀ q x, Q q x ↔ (runO (pAlt (pExp d)) (some (t :: r)) = q ∧ Rt (pAlt (pExp d)) (some (t :: r)) x) := ⟨_, fun _ _ => Iff.rfl⟩
  have HQ : Hid (∀ (x : E), Rt (pExp d) o6 x → Q (runO (pWant [59]) (runO (pExp d) o6)) (.mk 2 t.at' [] t.num [] x)) := ⟨fun x h7 => (hQ _ _).2 (alt_rt hh eh e6 h7)⟩
  suffices Calls Tryz.prog 53 #[ptr b, .int .i64 k] w fun e w' => Fr b w w' ∧ ∃ q x v, RdR w' b q n ∧ e = .returned v ∧ isAV w' (new w w') x v ∧ Q q x by
    refine this.mono ?_
    rintro e w' ⟨h1, q, x, v, h2, h3, h4, h5⟩
    obtain ⟨h5, h6⟩ := (hQ _ _).1 h5
    rw [h5]
    exact ⟨h1, h2, x, v, h3, h4, h6⟩
  have HE6 : Hid (o6 = runO (pWant [45, 62]) (some r)) := ⟨e6⟩
  clear hk hE R e6 hQ  hk9 eh hh
  go_enter Tryz.func53, Tryz.ntmps53
  go_wp2_with (first
    | (go_at_call 27; refine T.mono ?_; rintro e w1 ⟨rfl, B1⟩; have M1 : Blk w1 w.heap.size zero102 102 := (B1.block _ M0.lt).trans M0; have lt1 := M1.lt; have O1 : Ob w ((w1.alloc (.cells #[.int .i64 4, .string (str t.text), .int .i64 t.num, .int .i64 t.at'] 58)).alloc (.cells #[.int .i64 0, .int .i64 t.at', .string ⟨#[]⟩, .int .i64 0, nil3, .int .i64 0, .int .i64 0, .string ⟨#[]⟩, .int .i64 0, nil3, nil3, nil3, nil3] 102)) b w.heap.size (w1.heap.size + 1) n (some (t :: r)) zero102 102 #[.int .i64 0, .int .i64 t.at', .string ⟨#[]⟩, .int .i64 0, nil3, .int .i64 0, .int .i64 0, .string ⟨#[]⟩, .int .i64 0, nil3, nil3, nil3, nil3] 102 := ⟨(((HR.out.alloc _).below B1).alloc _).alloc _, (((Fr.refl b w).alloc _).trans (Fr.of_below B1)).alloc _ |>.alloc _, (M1.alloc _).alloc _, (by have := Blk.fresh (w1.alloc (.cells #[.int .i64 4, .string (str t.text), .int .i64 t.num, .int .i64 t.at'] 58)) #[.int .i64 0, .int .i64 t.at', .string ⟨#[]⟩, .int .i64 0, nil3, .int .i64 0, .int .i64 0, .string ⟨#[]⟩, .int .i64 0, nil3, nil3, nil3, nil3] 102; simpa using this), ⟨lt, Nat.le_refl _, by omega⟩⟩; have L1 := (Blk.fresh w1 #[.int .i64 4, .string (str t.text), .int .i64 t.num, .int .i64 t.at'] 58).alloc (.cells #[.int .i64 0, .int .i64 t.at', .string ⟨#[]⟩, .int .i64 0, nil3, .int .i64 0, .int .i64 0, .string ⟨#[]⟩, .int .i64 0, nil3, nil3, nil3, nil3] 102); clear B1 M1 T M0)
    | (go_at_call 13; refine (on_any O1.rd (fun l e z => by cases e; cases z)).mono ?_; rintro e w2 ⟨rfl, F2, R2⟩; simp only [Option.map_some, List.tail_cons] at R2; have O2 := O1.call F2 R2; have L2 := L1.kept F2 (fun q => by cases q; omega); have y1 : w2.cell? ⟨w1.heap.size, 1, none⟩ = some (.string (str t.text)) := L2.cell 1; have y2 : w2.cell? ⟨w1.heap.size, 2, none⟩ = some (.int .i64 t.num) := L2.cell 2; have x0 : w2.cell? ⟨w1.heap.size + 1, 0, none⟩ = some (.int .i64 0) := O2.x.cell 0; have z0 := O2.x.z 0; have x2 : w2.cell? ⟨w1.heap.size + 1, 2, none⟩ = some (.string ⟨#[]⟩) := O2.x.cell 2; have z2 := O2.x.z 2; have x3 : w2.cell? ⟨w1.heap.size + 1, 3, none⟩ = some (.int .i64 0) := O2.x.cell 3; have z3 := O2.x.z 3; have x4 : w2.cell? ⟨w1.heap.size + 1, 4, none⟩ = some (nil3) := O2.x.cell 4; have z4 := O2.x.z 4; have ltX := O2.lts.2.2; clear F2 R2 O1 L1)
    | (go_at_call_of 15 (Value.string { data := #[45, 62] }); have O5 := (O2.store 0 (.int .i64 2)).store 3 (.int .i64 t.num); have WB := want_any O5.rd [45, 62]; rw [← HE6.out, show str [45, 62] = ⟨#[45, 62]⟩ from rfl] at WB; refine WB.mono ?_; rintro e w3 ⟨rfl, F3, R3⟩; have s3 := F3.size; (try simp only [World.size_setCell] at s3); have O3 := O5.call F3 R3; have XP := HEX.out.1 k HEX.out.2 _ b o6 n O3.rd; have hX : w1.heap.size + 1 < w3.heap.size := O3.lts.2.2; clear F3 R3 O5 WB x0 x2 x3 x4 z0 z2 z3 z4 y1 y2 L2 O2)
    | (go_at_call 30; refine XP.mono ?_; rintro e w7 ⟨F7, R7, x, v7, rfl, ⟨c, rfl, E7⟩, hx⟩; obtain ⟨k', a', m', s', g4, g5, g6, g7, n4, n5, n6, n7, c4, c5, c6, c7, rfl⟩ := isE_eight E7; have HE7 : Hid (isE _ _ _ _) := ⟨E7⟩; have HX7 : Hid (Rt (pExp d) o6 x) := ⟨hx⟩; have O7 := O3.call F7 R7; have s7 := F7.size; have u5 : w7.cell? ⟨w1.heap.size + 1, 5, none⟩ = some (.int .i64 0) := O7.x.cell 5; have q5 := O7.x.z 5; have u6 : w7.cell? ⟨w1.heap.size + 1, 6, none⟩ = some (.int .i64 0) := O7.x.cell 6; have q6 := O7.x.z 6; have u7 : w7.cell? ⟨w1.heap.size + 1, 7, none⟩ = some (.string ⟨#[]⟩) := O7.x.cell 7; have q7 := O7.x.z 7; have u8 : w7.cell? ⟨w1.heap.size + 1, 8, none⟩ = some (.int .i64 0) := O7.x.cell 8; have q8 := O7.x.z 8; have u9 : w7.cell? ⟨w1.heap.size + 1, 9, none⟩ = some (nil3) := O7.x.cell 9; have q9 := O7.x.z 9; have u10 : w7.cell? ⟨w1.heap.size + 1, 10, none⟩ = some (nil3) := O7.x.cell 10; have q10 := O7.x.z 10; have u11 : w7.cell? ⟨w1.heap.size + 1, 11, none⟩ = some (nil3) := O7.x.cell 11; have q11 := O7.x.z 11; have u12 : w7.cell? ⟨w1.heap.size + 1, 12, none⟩ = some (nil3) := O7.x.cell 12; have q12 := O7.x.z 12; clear E7 hx F7 R7 XP O3)
    | (go_at_call_of 15 (Value.string { data := #[59] }); have O8 := O7.store13 (.int .i64 k') (.int .i64 a') (.string s') (.int .i64 m') (.slice g4 n4 c4) (.slice g5 n5 c5) (.slice g6 n6 c6) (.slice g7 n7 c7); refine (want_any O8.rd [59]).mono ?_; rintro e w9 ⟨rfl, F9, R9⟩; have O9 := O8.call F9 R9; have HF9 : Hid (Fr b _ w9) := ⟨F9⟩; clear F9 R9)
    | (refine wpList_load_row rfl 102 _ rfl (w1.heap.size + 1) rfl 102 _ (0, 0) _ O9.x Tryz.underlying102 rfl size102 ?_)
    | (refine wpList_store_row rfl 102 _ _ rfl w.heap.size _ rfl rfl 102 _ O9.m size102 rfl (by simp [Value.oneCell']) ?_))
  have oo := O9.out #[.int .i64 2, .int .i64 t.at', .string ⟨#[]⟩, .int .i64 t.num, nil3, .int .i64 k', .int .i64 a', .string s', .int .i64 m', .slice g4 n4 c4, .slice g5 n5 c5, .slice g6 n6 c6, .slice g7 n7 c7]
  refine bodyPost_ret (results_cell_row Tryz.results53 _ _ w.heap.size 102 #[.int .i64 2, .int .i64 t.at', .string ⟨#[]⟩, .int .i64 t.num, nil3, .int .i64 k', .int .i64 a', .string s', .int .i64 m', .slice g4 n4 c4, .slice g5 n5 c5, .slice g6 n6 c6, .slice g7 n7 c7] (0, 0) _ rfl O9.m.set Tryz.underlying102 rfl size102) rfl ⟨oo.1, _, _, _, oo.2, rfl, ?_, HQ.out x HX7.out⟩
  have A := ((Abv.refl w3.heap.size w7).set8 hX 5 (.int .i64 k') (.int .i64 a') (.string s') (.int .i64 m') (.slice g4 n4 c4) (.slice g5 n5 c5) (.slice g6 n6 c6) (.slice g7 n7 c7)).fr HF9.out (by omega)
  have K := fun cs => (A.setRow (X := w.heap.size) (by omega) cs).keeps (wv := w3) (w0 := w) (Nat.le_refl _) (by omega)
  refine ⟨[.int .i64 2, .int .i64 t.at', .string ⟨#[]⟩, .int .i64 t.num, nil3] ++ [.int .i64 k', .int .i64 a', .string s', .int .i64 m', .slice g4 n4 c4, .slice g5 n5 c5, .slice g6 n6 c6, .slice g7 n7 c7], rfl, ?_⟩
  simp only [isA]
  exact ⟨_, _, rfl, isRow_nil _ _ _, isE_keeps (K _) x _ HE7.out⟩
set_option maxRecDepth 100000 in
set_option maxHeartbeats 8000000 in
theorem alt_all {d : Nat} (hE : ExpR d) {k : Int} (hk : k = 61 - d) {t : Tok} {r : List Tok} (R : RdR w b (some (t :: r)) n) (hk9 : t.kind = 1) :
    Calls Tryz.prog 53 #[ptr b, .int .i64 k] w fun e w' => Fr b w w' ∧ RdR w' b (runO (pAlt (pExp d)) (some (t :: r))) n ∧ ∃ x v, e = .returned v ∧ isAV w' (new w w') x v ∧ Rt (pAlt (pExp d)) (some (t :: r)) x := by
  have lt := R.lt
  have T := token_any (R.alloc (.cells zero102 102))
  have M0 := Blk.fresh w zero102 102
  have HR : Hid (RdR _ _ _ _) := ⟨R⟩
  have HEX : Hid (ExpR d ∧ k = 61 - d) := ⟨hE, hk⟩
  simp only [hdO] at T
  rw [hk9] at T
  obtain ⟨eh, hh⟩ := head_one (r := r) hk9
  obtain ⟨o6, e6⟩ : ∃ o6, o6 = runO (pWant [45, 62]) (some r) := ⟨_, rfl⟩
  obtain ⟨Q, hQ⟩ : ∃ Q : Option (List Tok) → A → Prop, ∀ q x, Q q x ↔ (runO (pAlt (pExp d)) (some (t :: r)) = q ∧ Rt (pAlt (pExp d)) (some (t :: r)) x) := ⟨_, fun _ _ => Iff.rfl⟩
  have HQ : Hid (∀ (x : E), Rt (pExp d) o6 x → Q (runO (pWant [59]) (runO (pExp d) o6)) (.mk 3 t.at' t.text 0 [] x)) := ⟨fun x h7 => (hQ _ _).2 (alt_rt hh eh e6 h7)⟩
  suffices Calls Tryz.prog 53 #[ptr b, .int .i64 k] w fun e w' => Fr b w w' ∧ ∃ q x v, RdR w' b q n ∧ e = .returned v ∧ isAV w' (new w w') x v ∧ Q q x by
    refine this.mono ?_
    rintro e w' ⟨h1, q, x, v, h2, h3, h4, h5⟩
    obtain ⟨h5, h6⟩ := (hQ _ _).1 h5
    rw [h5]
    exact ⟨h1, h2, x, v, h3, h4, h6⟩
  have HE6 : Hid (o6 = runO (pWant [45, 62]) (some r)) := ⟨e6⟩
  clear hk hE R e6 hQ  hk9 eh hh
  go_enter Tryz.func53, Tryz.ntmps53
  go_wp2_with (first
    | (go_at_call 27; refine T.mono ?_; rintro e w1 ⟨rfl, B1⟩; have M1 : Blk w1 w.heap.size zero102 102 := (B1.block _ M0.lt).trans M0; have lt1 := M1.lt; have O1 : Ob w ((w1.alloc (.cells #[.int .i64 1, .string (str t.text), .int .i64 t.num, .int .i64 t.at'] 58)).alloc (.cells #[.int .i64 0, .int .i64 t.at', .string ⟨#[]⟩, .int .i64 0, nil3, .int .i64 0, .int .i64 0, .string ⟨#[]⟩, .int .i64 0, nil3, nil3, nil3, nil3] 102)) b w.heap.size (w1.heap.size + 1) n (some (t :: r)) zero102 102 #[.int .i64 0, .int .i64 t.at', .string ⟨#[]⟩, .int .i64 0, nil3, .int .i64 0, .int .i64 0, .string ⟨#[]⟩, .int .i64 0, nil3, nil3, nil3, nil3] 102 := ⟨(((HR.out.alloc _).below B1).alloc _).alloc _, (((Fr.refl b w).alloc _).trans (Fr.of_below B1)).alloc _ |>.alloc _, (M1.alloc _).alloc _, (by have := Blk.fresh (w1.alloc (.cells #[.int .i64 1, .string (str t.text), .int .i64 t.num, .int .i64 t.at'] 58)) #[.int .i64 0, .int .i64 t.at', .string ⟨#[]⟩, .int .i64 0, nil3, .int .i64 0, .int .i64 0, .string ⟨#[]⟩, .int .i64 0, nil3, nil3, nil3, nil3] 102; simpa using this), ⟨lt, Nat.le_refl _, by omega⟩⟩; have L1 := (Blk.fresh w1 #[.int .i64 1, .string (str t.text), .int .i64 t.num, .int .i64 t.at'] 58).alloc (.cells #[.int .i64 0, .int .i64 t.at', .string ⟨#[]⟩, .int .i64 0, nil3, .int .i64 0, .int .i64 0, .string ⟨#[]⟩, .int .i64 0, nil3, nil3, nil3, nil3] 102); clear B1 M1 T M0)
    | (go_at_call 13; refine (on_any O1.rd (fun l e z => by cases e; cases z)).mono ?_; rintro e w2 ⟨rfl, F2, R2⟩; simp only [Option.map_some, List.tail_cons] at R2; have O2 := O1.call F2 R2; have L2 := L1.kept F2 (fun q => by cases q; omega); have y1 : w2.cell? ⟨w1.heap.size, 1, none⟩ = some (.string (str t.text)) := L2.cell 1; have y2 : w2.cell? ⟨w1.heap.size, 2, none⟩ = some (.int .i64 t.num) := L2.cell 2; have x0 : w2.cell? ⟨w1.heap.size + 1, 0, none⟩ = some (.int .i64 0) := O2.x.cell 0; have z0 := O2.x.z 0; have x2 : w2.cell? ⟨w1.heap.size + 1, 2, none⟩ = some (.string ⟨#[]⟩) := O2.x.cell 2; have z2 := O2.x.z 2; have x3 : w2.cell? ⟨w1.heap.size + 1, 3, none⟩ = some (.int .i64 0) := O2.x.cell 3; have z3 := O2.x.z 3; have x4 : w2.cell? ⟨w1.heap.size + 1, 4, none⟩ = some (nil3) := O2.x.cell 4; have z4 := O2.x.z 4; have ltX := O2.lts.2.2; clear F2 R2 O1 L1)
    | (go_at_call_of 15 (Value.string { data := #[45, 62] }); have O5 := (O2.store 0 (.int .i64 3)).store 2 (.string (str t.text)); have WB := want_any O5.rd [45, 62]; rw [← HE6.out, show str [45, 62] = ⟨#[45, 62]⟩ from rfl] at WB; refine WB.mono ?_; rintro e w3 ⟨rfl, F3, R3⟩; have s3 := F3.size; (try simp only [World.size_setCell] at s3); have O3 := O5.call F3 R3; have XP := HEX.out.1 k HEX.out.2 _ b o6 n O3.rd; have hX : w1.heap.size + 1 < w3.heap.size := O3.lts.2.2; clear F3 R3 O5 WB x0 x2 x3 x4 z0 z2 z3 z4 y1 y2 L2 O2)
    | (go_at_call 30; refine XP.mono ?_; rintro e w7 ⟨F7, R7, x, v7, rfl, ⟨c, rfl, E7⟩, hx⟩; obtain ⟨k', a', m', s', g4, g5, g6, g7, n4, n5, n6, n7, c4, c5, c6, c7, rfl⟩ := isE_eight E7; have HE7 : Hid (isE _ _ _ _) := ⟨E7⟩; have HX7 : Hid (Rt (pExp d) o6 x) := ⟨hx⟩; have O7 := O3.call F7 R7; have s7 := F7.size; have u5 : w7.cell? ⟨w1.heap.size + 1, 5, none⟩ = some (.int .i64 0) := O7.x.cell 5; have q5 := O7.x.z 5; have u6 : w7.cell? ⟨w1.heap.size + 1, 6, none⟩ = some (.int .i64 0) := O7.x.cell 6; have q6 := O7.x.z 6; have u7 : w7.cell? ⟨w1.heap.size + 1, 7, none⟩ = some (.string ⟨#[]⟩) := O7.x.cell 7; have q7 := O7.x.z 7; have u8 : w7.cell? ⟨w1.heap.size + 1, 8, none⟩ = some (.int .i64 0) := O7.x.cell 8; have q8 := O7.x.z 8; have u9 : w7.cell? ⟨w1.heap.size + 1, 9, none⟩ = some (nil3) := O7.x.cell 9; have q9 := O7.x.z 9; have u10 : w7.cell? ⟨w1.heap.size + 1, 10, none⟩ = some (nil3) := O7.x.cell 10; have q10 := O7.x.z 10; have u11 : w7.cell? ⟨w1.heap.size + 1, 11, none⟩ = some (nil3) := O7.x.cell 11; have q11 := O7.x.z 11; have u12 : w7.cell? ⟨w1.heap.size + 1, 12, none⟩ = some (nil3) := O7.x.cell 12; have q12 := O7.x.z 12; clear E7 hx F7 R7 XP O3)
    | (go_at_call_of 15 (Value.string { data := #[59] }); have O8 := O7.store13 (.int .i64 k') (.int .i64 a') (.string s') (.int .i64 m') (.slice g4 n4 c4) (.slice g5 n5 c5) (.slice g6 n6 c6) (.slice g7 n7 c7); refine (want_any O8.rd [59]).mono ?_; rintro e w9 ⟨rfl, F9, R9⟩; have O9 := O8.call F9 R9; have HF9 : Hid (Fr b _ w9) := ⟨F9⟩; clear F9 R9)
    | (refine wpList_load_row rfl 102 _ rfl (w1.heap.size + 1) rfl 102 _ (0, 0) _ O9.x Tryz.underlying102 rfl size102 ?_)
    | (refine wpList_store_row rfl 102 _ _ rfl w.heap.size _ rfl rfl 102 _ O9.m size102 rfl (by simp [Value.oneCell']) ?_))
  have oo := O9.out #[.int .i64 3, .int .i64 t.at', .string (str t.text), .int .i64 0, nil3, .int .i64 k', .int .i64 a', .string s', .int .i64 m', .slice g4 n4 c4, .slice g5 n5 c5, .slice g6 n6 c6, .slice g7 n7 c7]
  refine bodyPost_ret (results_cell_row Tryz.results53 _ _ w.heap.size 102 #[.int .i64 3, .int .i64 t.at', .string (str t.text), .int .i64 0, nil3, .int .i64 k', .int .i64 a', .string s', .int .i64 m', .slice g4 n4 c4, .slice g5 n5 c5, .slice g6 n6 c6, .slice g7 n7 c7] (0, 0) _ rfl O9.m.set Tryz.underlying102 rfl size102) rfl ⟨oo.1, _, _, _, oo.2, rfl, ?_, HQ.out x HX7.out⟩
  have A := ((Abv.refl w3.heap.size w7).set8 hX 5 (.int .i64 k') (.int .i64 a') (.string s') (.int .i64 m') (.slice g4 n4 c4) (.slice g5 n5 c5) (.slice g6 n6 c6) (.slice g7 n7 c7)).fr HF9.out (by omega)
  have K := fun cs => (A.setRow (X := w.heap.size) (by omega) cs).keeps (wv := w3) (w0 := w) (Nat.le_refl _) (by omega)
  refine ⟨[.int .i64 3, .int .i64 t.at', .string (str t.text), .int .i64 0, nil3] ++ [.int .i64 k', .int .i64 a', .string s', .int .i64 m', .slice g4 n4 c4, .slice g5 n5 c5, .slice g6 n6 c6, .slice g7 n7 c7], rfl, ?_⟩
  simp only [isA]
  exact ⟨_, _, rfl, isRow_nil _ _ _, isE_keeps (K _) x _ HE7.out⟩
set_option maxRecDepth 100000 in
set_option maxHeartbeats 8000000 in
theorem alt_con {d : Nat} (hE : ExpR d) {k : Int} (hk : k = 61 - d) {t : Tok} {r : List Tok} (R : RdR w b (some (t :: r)) n) (hk9 : t.kind = 2) :
    Calls Tryz.prog 53 #[ptr b, .int .i64 k] w fun e w' => Fr b w w' ∧ RdR w' b (runO (pAlt (pExp d)) (some (t :: r))) n ∧ ∃ x v, e = .returned v ∧ isAV w' (new w w') x v ∧ Rt (pAlt (pExp d)) (some (t :: r)) x := by
  have lt := R.lt
  have T := token_any (R.alloc (.cells zero102 102))
  have M0 := Blk.fresh w zero102 102
  have HR : Hid (RdR _ _ _ _) := ⟨R⟩
  have HEX : Hid (ExpR d ∧ k = 61 - d) := ⟨hE, hk⟩
  simp only [hdO] at T
  rw [hk9] at T
  obtain ⟨eh, hh⟩ := head_two (r := r) hk9
  obtain ⟨N, eN⟩ : ∃ N, N = namesO (some r) := ⟨_, rfl⟩
  rw [← eN] at eh hh
  obtain ⟨o6, e6⟩ : ∃ o6, o6 = runO (pWant [45, 62]) N.2 := ⟨_, rfl⟩
  obtain ⟨Q, hQ⟩ : ∃ Q : Option (List Tok) → A → Prop, ∀ q x, Q q x ↔ (runO (pAlt (pExp d)) (some (t :: r)) = q ∧ Rt (pAlt (pExp d)) (some (t :: r)) x) := ⟨_, fun _ _ => Iff.rfl⟩
  have HQ : Hid (∀ (x : E), Rt (pExp d) o6 x → Q (runO (pWant [59]) (runO (pExp d) o6)) (.mk 1 t.at' t.text 0 N.1 x)) := ⟨fun x h7 => (hQ _ _).2 (alt_rt hh eh e6 h7)⟩
  suffices Calls Tryz.prog 53 #[ptr b, .int .i64 k] w fun e w' => Fr b w w' ∧ ∃ q x v, RdR w' b q n ∧ e = .returned v ∧ isAV w' (new w w') x v ∧ Q q x by
    refine this.mono ?_
    rintro e w' ⟨h1, q, x, v, h2, h3, h4, h5⟩
    obtain ⟨h5, h6⟩ := (hQ _ _).1 h5
    rw [h5]
    exact ⟨h1, h2, x, v, h3, h4, h6⟩
  have HE6 : Hid (o6 = runO (pWant [45, 62]) N.2) := ⟨e6⟩
  have HN : Hid (N = namesO (some r)) := ⟨eN⟩
  clear hk hE R e6 hQ eN hk9 eh hh
  go_enter Tryz.func53, Tryz.ntmps53
  go_wp2_with (first
    | (go_at_call 27; refine T.mono ?_; rintro e w1 ⟨rfl, B1⟩; have M1 : Blk w1 w.heap.size zero102 102 := (B1.block _ M0.lt).trans M0; have lt1 := M1.lt; have O1 : Ob w ((w1.alloc (.cells #[.int .i64 2, .string (str t.text), .int .i64 t.num, .int .i64 t.at'] 58)).alloc (.cells #[.int .i64 0, .int .i64 t.at', .string ⟨#[]⟩, .int .i64 0, nil3, .int .i64 0, .int .i64 0, .string ⟨#[]⟩, .int .i64 0, nil3, nil3, nil3, nil3] 102)) b w.heap.size (w1.heap.size + 1) n (some (t :: r)) zero102 102 #[.int .i64 0, .int .i64 t.at', .string ⟨#[]⟩, .int .i64 0, nil3, .int .i64 0, .int .i64 0, .string ⟨#[]⟩, .int .i64 0, nil3, nil3, nil3, nil3] 102 := ⟨(((HR.out.alloc _).below B1).alloc _).alloc _, (((Fr.refl b w).alloc _).trans (Fr.of_below B1)).alloc _ |>.alloc _, (M1.alloc _).alloc _, (by have := Blk.fresh (w1.alloc (.cells #[.int .i64 2, .string (str t.text), .int .i64 t.num, .int .i64 t.at'] 58)) #[.int .i64 0, .int .i64 t.at', .string ⟨#[]⟩, .int .i64 0, nil3, .int .i64 0, .int .i64 0, .string ⟨#[]⟩, .int .i64 0, nil3, nil3, nil3, nil3] 102; simpa using this), ⟨lt, Nat.le_refl _, by omega⟩⟩; have L1 := (Blk.fresh w1 #[.int .i64 2, .string (str t.text), .int .i64 t.num, .int .i64 t.at'] 58).alloc (.cells #[.int .i64 0, .int .i64 t.at', .string ⟨#[]⟩, .int .i64 0, nil3, .int .i64 0, .int .i64 0, .string ⟨#[]⟩, .int .i64 0, nil3, nil3, nil3, nil3] 102); clear B1 M1 T M0)
    | (go_at_call 13; refine (on_any O1.rd (fun l e z => by cases e; cases z)).mono ?_; rintro e w2 ⟨rfl, F2, R2⟩; simp only [Option.map_some, List.tail_cons] at R2; have O2 := O1.call F2 R2; have L2 := L1.kept F2 (fun q => by cases q; omega); have y1 : w2.cell? ⟨w1.heap.size, 1, none⟩ = some (.string (str t.text)) := L2.cell 1; have y2 : w2.cell? ⟨w1.heap.size, 2, none⟩ = some (.int .i64 t.num) := L2.cell 2; have x0 : w2.cell? ⟨w1.heap.size + 1, 0, none⟩ = some (.int .i64 0) := O2.x.cell 0; have z0 := O2.x.z 0; have x2 : w2.cell? ⟨w1.heap.size + 1, 2, none⟩ = some (.string ⟨#[]⟩) := O2.x.cell 2; have z2 := O2.x.z 2; have x3 : w2.cell? ⟨w1.heap.size + 1, 3, none⟩ = some (.int .i64 0) := O2.x.cell 3; have z3 := O2.x.z 3; have x4 : w2.cell? ⟨w1.heap.size + 1, 4, none⟩ = some (nil3) := O2.x.cell 4; have z4 := O2.x.z 4; have ltX := O2.lts.2.2; clear F2 R2 O1 L1)
    | (go_at_call 29; have O4 := (O2.store 0 (.int .i64 1)).store 2 (.string (str t.text)); have NM := rnames_any O4.rd; rw [← HN.out] at NM; refine NM.mono ?_; rintro e w5 ⟨v5, rfl, F5, R5, NR5, nl5⟩; obtain ⟨gv, cv, rfl⟩ := own_form NR5; have s5 := F5.size; simp only [World.size_setCell] at s5 NR5; have O5' := O4.call F5 R5; have x4' : w5.cell? ⟨w1.heap.size + 1, 4, none⟩ = some nil3 := O5'.x.cell 4; have z4' := O5'.x.z 4; clear F5 R5 O4 O2 NM x0 x2 x3 x4 z0 z2 z3 z4 y1 y2 L2)
    | (go_at_call_of 15 (Value.string { data := #[45, 62] }); have O5 := O5'.store 4 (.slice gv N.1.length cv); have NR := own_fr NR5 (grown_set w5 (w1.heap.size + 1) 4 (.slice gv N.1.length cv)) (by omega); have WB := want_any O5.rd [45, 62]; rw [← HE6.out, show str [45, 62] = ⟨#[45, 62]⟩ from rfl] at WB; refine WB.mono ?_; rintro e w3 ⟨rfl, F3, R3⟩; have s3 := F3.size; (try simp only [World.size_setCell] at s3); have O3 := O5.call F3 R3; have NR3 := own_fr NR F3 (by omega); have XP := HEX.out.1 k HEX.out.2 _ b o6 n O3.rd; have hX : w1.heap.size + 1 < w3.heap.size := O3.lts.2.2; clear F3 R3 O5 O5' NR NR5 x4' z4' WB)
    | (go_at_call 30; refine XP.mono ?_; rintro e w7 ⟨F7, R7, x, v7, rfl, ⟨c, rfl, E7⟩, hx⟩; obtain ⟨k', a', m', s', g4, g5, g6, g7, n4, n5, n6, n7, c4, c5, c6, c7, rfl⟩ := isE_eight E7; have HE7 : Hid (isE _ _ _ _) := ⟨E7⟩; have HX7 : Hid (Rt (pExp d) o6 x) := ⟨hx⟩; have O7 := O3.call F7 R7; have NR7 := own_fr NR3 F7 (by omega); have s7 := F7.size; have u5 : w7.cell? ⟨w1.heap.size + 1, 5, none⟩ = some (.int .i64 0) := O7.x.cell 5; have q5 := O7.x.z 5; have u6 : w7.cell? ⟨w1.heap.size + 1, 6, none⟩ = some (.int .i64 0) := O7.x.cell 6; have q6 := O7.x.z 6; have u7 : w7.cell? ⟨w1.heap.size + 1, 7, none⟩ = some (.string ⟨#[]⟩) := O7.x.cell 7; have q7 := O7.x.z 7; have u8 : w7.cell? ⟨w1.heap.size + 1, 8, none⟩ = some (.int .i64 0) := O7.x.cell 8; have q8 := O7.x.z 8; have u9 : w7.cell? ⟨w1.heap.size + 1, 9, none⟩ = some (nil3) := O7.x.cell 9; have q9 := O7.x.z 9; have u10 : w7.cell? ⟨w1.heap.size + 1, 10, none⟩ = some (nil3) := O7.x.cell 10; have q10 := O7.x.z 10; have u11 : w7.cell? ⟨w1.heap.size + 1, 11, none⟩ = some (nil3) := O7.x.cell 11; have q11 := O7.x.z 11; have u12 : w7.cell? ⟨w1.heap.size + 1, 12, none⟩ = some (nil3) := O7.x.cell 12; have q12 := O7.x.z 12; clear E7 hx F7 R7 XP O3)
    | (go_at_call_of 15 (Value.string { data := #[59] }); have O8 := O7.store13 (.int .i64 k') (.int .i64 a') (.string s') (.int .i64 m') (.slice g4 n4 c4) (.slice g5 n5 c5) (.slice g6 n6 c6) (.slice g7 n7 c7); refine (want_any O8.rd [59]).mono ?_; rintro e w9 ⟨rfl, F9, R9⟩; have O9 := O8.call F9 R9; have HF9 : Hid (Fr b _ w9) := ⟨F9⟩; have hXb : w1.heap.size + 1 < w2.heap.size := ltX; have NR8 := own_fr (own_fr (own_fr (own_fr (own_fr (own_fr (own_fr (own_fr (own_fr NR7 (grown_set _ (w1.heap.size + 1) 5 (.int .i64 k')) hXb) (grown_set _ (w1.heap.size + 1) 6 (.int .i64 a')) hXb) (grown_set _ (w1.heap.size + 1) 7 (.string s')) hXb) (grown_set _ (w1.heap.size + 1) 8 (.int .i64 m')) hXb) (grown_set _ (w1.heap.size + 1) 9 (.slice g4 n4 c4)) hXb) (grown_set _ (w1.heap.size + 1) 10 (.slice g5 n5 c5)) hXb) (grown_set _ (w1.heap.size + 1) 11 (.slice g6 n6 c6)) hXb) (grown_set _ (w1.heap.size + 1) 12 (.slice g7 n7 c7)) hXb) F9 (by omega); clear F9 R9)
    | (refine wpList_load_row rfl 102 _ rfl (w1.heap.size + 1) rfl 102 _ (0, 0) _ O9.x Tryz.underlying102 rfl size102 ?_)
    | (refine wpList_store_row rfl 102 _ _ rfl w.heap.size _ rfl rfl 102 _ O9.m size102 rfl (by simp [Value.oneCell']) ?_))
  have oo := O9.out #[.int .i64 1, .int .i64 t.at', .string (str t.text), .int .i64 0, (.slice gv N.1.length cv), .int .i64 k', .int .i64 a', .string s', .int .i64 m', .slice g4 n4 c4, .slice g5 n5 c5, .slice g6 n6 c6, .slice g7 n7 c7]
  refine bodyPost_ret (results_cell_row Tryz.results53 _ _ w.heap.size 102 #[.int .i64 1, .int .i64 t.at', .string (str t.text), .int .i64 0, (.slice gv N.1.length cv), .int .i64 k', .int .i64 a', .string s', .int .i64 m', .slice g4 n4 c4, .slice g5 n5 c5, .slice g6 n6 c6, .slice g7 n7 c7] (0, 0) _ rfl O9.m.set Tryz.underlying102 rfl size102) rfl ⟨oo.1, _, _, _, oo.2, rfl, ?_, HQ.out x HX7.out⟩
  have A := ((Abv.refl w3.heap.size w7).set8 hX 5 (.int .i64 k') (.int .i64 a') (.string s') (.int .i64 m') (.slice g4 n4 c4) (.slice g5 n5 c5) (.slice g6 n6 c6) (.slice g7 n7 c7)).fr HF9.out (by omega)
  have K := fun cs => (A.setRow (X := w.heap.size) (by omega) cs).keeps (wv := w3) (w0 := w) (Nat.le_refl _) (by omega)
  refine ⟨[.int .i64 1, .int .i64 t.at', .string (str t.text), .int .i64 0, (.slice gv N.1.length cv)] ++ [.int .i64 k', .int .i64 a', .string s', .int .i64 m', .slice g4 n4 c4, .slice g5 n5 c5, .slice g6 n6 c6, .slice g7 n7 c7], rfl, ?_⟩
  simp only [isA]
  refine ⟨_, _, rfl, ?_, isE_keeps (K _) x _ HE7.out⟩
  have NF := own_fr NR8 (grown_setRow w9 w.heap.size #[.int .i64 1, .int .i64 t.at', .string (str t.text), .int .i64 0, (.slice gv N.1.length cv), .int .i64 k', .int .i64 a', .string s', .int .i64 m', .slice g4 n4 c4, .slice g5 n5 c5, .slice g6 n6 c6, .slice g7 n7 c7]) (by omega)
  exact row_of_owns NF (fun g hg => ⟨by have := (NF.lt g hg).1; omega, (NF.lt g hg).2⟩) (by omega)
theorem ralt_any {d : Nat} (hE : ExpR d) {k : Int} (hk : k = 61 - d) {o : Option (List Tok)} (R : RdR w b o n) :
    Calls Tryz.prog 53 #[ptr b, .int .i64 k] w fun e w' => Fr b w w' ∧ RdR w' b (runO (pAlt (pExp d)) o) n ∧ ∃ x v, e = .returned v ∧ isAV w' (new w w') x v ∧ Rt (pAlt (pExp d)) o x := by
  by_cases hm : ∃ t r, o = some (t :: r) ∧ (t.kind = 2 ∨ t.kind = 4 ∨ t.kind = 1)
  · obtain ⟨t, r, rfl, h | h | h⟩ := hm
    · exact alt_con hE hk R h
    · exact alt_int hE hk R h
    · exact alt_all hE hk R h
  · exact alt_bad hE hk R hm
end

end Go.Proofs.YtofgnpehlheeiaaGreatDoor

/- The document's reader: expressions without parts of their own. -/
namespace Go.Proofs.YtofgnpehlheeiaaGreatDoor
open Go.RowKit
set_option linter.unusedVariables false
set_option linter.unusedSimpArgs false


theorem RdR.bad {w : World} {b : Nat} {o : Option (List Tok)} {n : Int} (h : RdR w b o n) : w.cell? ⟨b, 3, none⟩ = some (.bool o.isNone) := by
  obtain ⟨ts, k, ga, cap, e4, e5, X, _⟩ := h.ex
  exact X.cell 3
theorem ex_zero (o : Option (List Tok)) : runO (pExp 0) o = none ∧ ∀ x, Rt (pExp 0) o x := by
  rcases o with _ | (_ | ⟨t, r⟩)
  · exact ⟨rfl, fun x y hy => by cases hy⟩
  · exact ⟨rfl, fun x y hy => by cases hy⟩
  · exact ⟨rfl, fun x y hy => by cases hy⟩
/-- no token that begins an expression -/
theorem exp_other {d : Nat} {o : Option (List Tok)} {n : Int} (hn : o ≠ none) (hm : ¬ ∃ t r, o = some (t :: r) ∧ (t.kind = 4 ∨ t.kind = 1 ∨ t.kind = 2 ∨ t.kind = 3)) (h1 : isR [108, 101, 116] o = false) (h2 : isR [99, 97, 115, 101] o = false) (h3 : isR [40] o = false) :
    (runO (pExp (d + 1)) o = none ∧ ∀ x, Rt (pExp (d + 1)) o x) := by
  rcases o with _ | (_ | ⟨t, r⟩)
  · exact absurd rfl hn
  · exact ⟨rfl, fun x y hy => by cases hy⟩
  · have k4 : ¬ t.kind = 4 := fun q => hm ⟨t, r, rfl, .inl q⟩
    have k1 : ¬ t.kind = 1 := fun q => hm ⟨t, r, rfl, .inr (.inl q)⟩
    have k2 : ¬ t.kind = 2 := fun q => hm ⟨t, r, rfl, .inr (.inr (.inl q))⟩
    have k3 : ¬ t.kind = 3 := fun q => hm ⟨t, r, rfl, .inr (.inr (.inr q))⟩
    have h1 : isS [108, 101, 116] (t :: r) = false := h1
    have h2 : isS [99, 97, 115, 101] (t :: r) = false := h2
    have h3 : isS [40] (t :: r) = false := h3
    exact ⟨by simp [runO, pExp, k4, k1, k2, k3, h1, h2, h3], fun x y hy => by simp [valO, pExp, k4, k1, k2, k3, h1, h2, h3] at hy⟩
theorem hd_other {o : Option (List Tok)} {n : Int} (hm : ¬ ∃ t r, o = some (t :: r) ∧ (t.kind = 4 ∨ t.kind = 1 ∨ t.kind = 2 ∨ t.kind = 3)) : ∃ (a m p : Int) (s : ByteArray), hdO o n = .agg #[.int .i64 a, .string s, .int .i64 m, .int .i64 p] ∧ (a == 4) = false ∧ (a == 1) = false ∧ (a == 2) = false ∧ (a == 3) = false := by
  rcases o with _ | (_ | ⟨t, r⟩)
  · exact ⟨0, 0, n, ⟨#[]⟩, rfl, rfl, rfl, rfl, rfl⟩
  · exact ⟨0, 0, n, ⟨#[]⟩, rfl, rfl, rfl, rfl, rfl⟩
  · have k4 : ¬ t.kind = 4 := fun q => hm ⟨t, r, rfl, .inl q⟩
    have k1 : ¬ t.kind = 1 := fun q => hm ⟨t, r, rfl, .inr (.inl q)⟩
    have k2 : ¬ t.kind = 2 := fun q => hm ⟨t, r, rfl, .inr (.inr (.inl q))⟩
    have k3 : ¬ t.kind = 3 := fun q => hm ⟨t, r, rfl, .inr (.inr (.inr q))⟩
    exact ⟨t.kind, t.num, t.at', str t.text, rfl, by simp [k4], by simp [k1], by simp [k2], by simp [k3]⟩
/-- an expression without parts -/
theorem isE_bare {w : World} {ok : Nat → Prop} (k a m : Int) (s : List UInt8) : isE w ok (.mk k a s m [] [] [] []) [.int .i64 k, .int .i64 a, .string (str s), .int .i64 m, nil3, nil3, nil3, nil3] := by
  simp only [isE]
  exact ⟨_, _, _, _, [], [], [], rfl, isRow_nil _ _ _, isRow_nil _ _ _, by simp only [isBs], isRow_nil _ _ _, by simp only [isEs], isRow_nil _ _ _, by simp only [isAs]⟩
theorem int_rt {d : Nat} {t : Tok} {r : List Tok} (hk : t.kind = 4) : runO (pExp (d + 1)) (some (t :: r)) = some r ∧ Rt (pExp (d + 1)) (some (t :: r)) (.mk 4 t.at' [] t.num [] [] [] []) := by
  obtain ⟨h1, h2⟩ := runO_some (p := pExp (d + 1)) (l := t :: r) (r := r) (x := .mk 4 t.at' [] t.num [] [] [] []) (by simp [pExp, hk])
  exact ⟨h1, fun y hy => by rw [h2] at hy; cases hy; rfl⟩
theorem app_rt {d : Nat} {t : Tok} {r : List Tok} (hk : t.kind = 1 ∨ t.kind = 2 ∨ t.kind = 3) : runO (pExp (d + 1)) (some (t :: r)) = (atomsO (some r)).2 ∧ Rt (pExp (d + 1)) (some (t :: r)) (.mk t.kind t.at' t.text 0 (atomsO (some r)).1 [] [] []) := by
  have k4 : ¬ t.kind = 4 := by omega
  obtain ⟨h1, h2⟩ := runO_some (p := pExp (d + 1)) (l := t :: r) (r := (pAtoms r).2) (x := .mk t.kind t.at' t.text 0 (pAtoms r).1 [] [] []) (by simp only [pExp, if_neg k4, if_pos hk])
  exact ⟨h1, fun y hy => by rw [h2] at hy; cases hy; rfl⟩
theorem par_rt {d : Nat} {t : Tok} {r : List Tok} {x : E} (hm : ¬ (t.kind = 4 ∨ t.kind = 1 ∨ t.kind = 2 ∨ t.kind = 3)) (h1 : isR [108, 101, 116] (some (t :: r)) = false) (h2 : isR [99, 97, 115, 101] (some (t :: r)) = false) (h3 : isR [40] (some (t :: r)) = true) (hx : Rt (pExp d) (some r) x) :
    runO (pExp (d + 1)) (some (t :: r)) = runO (pWant [41]) (runO (pExp d) (some r)) ∧ Rt (pExp (d + 1)) (some (t :: r)) x := by
  have k4 : ¬ t.kind = 4 := fun q => hm (.inl q)
  have k1 : ¬ (t.kind = 1 ∨ t.kind = 2 ∨ t.kind = 3) := fun q => hm (.inr q)
  have h1 : isS [108, 101, 116] (t :: r) = false := h1
  have h2 : isS [99, 97, 115, 101] (t :: r) = false := h2
  have h3 : isS [40] (t :: r) = true := h3
  have e : pExp (d + 1) (t :: r) = andT (pExp d r) fun x r => andT (pWant [41] r) fun _ r => .ok (x, r) := by
    simp only [pExp, if_neg k4, if_neg k1, h1, h2, h3, if_true, Bool.false_eq_true, if_false]
  have e' : ∀ {p : List Tok → PR E} {q : List Tok → PR E}, p (t :: r) = q r → runO p (some (t :: r)) = runO q (some r) ∧ valO p (some (t :: r)) = valO q (some r) := fun h => by simp only [runO, valO, h, and_self]
  obtain ⟨r1, r2⟩ := e' (p := pExp (d + 1)) (q := fun r => andT (pExp d r) fun x r => andT (pWant [41] r) fun _ r => .ok (x, r)) e
  have s1 := (Stp.mk (p := pExp d) (f := fun x r => andT (pWant [41] r) fun _ r => Except.ok (x, r)) (q := fun r => _) (fun l => rfl)).rt hx
  have s2 := (Stp.mk (p := pWant [41]) (f := fun _ r => (Except.ok (x, r) : PR E)) (q := fun r => _) (fun l => rfl)).rt (rt_want [41] (runO (pExp d) (some r)))
  have s3 := rt_ret x (runO (pWant [41]) (runO (pExp d) (some r)))
  exact ⟨r1.trans (s1.1.trans (s2.1.trans s3.1)), fun y hy => (s1.2 _ (s2.2 _ s3.2)) y (by rw [← r2]; exact hy)⟩
section
variable {w : World} {b : Nat} {n : Int}
set_option maxRecDepth 100000 in
set_option maxHeartbeats 8000000 in
theorem exp_deep {d : Nat} {k : Int} {o : Option (List Tok)} (hk : k = 61) (R : RdR w b o n) :
    Calls Tryz.prog 30 #[ptr b, .int .i64 k] w fun e w' => Fr b w w' ∧ RdR w' b (runO (pExp 0) o) n ∧ ∃ x v, e = .returned v ∧ isEV w' (new w w') x v ∧ Rt (pExp 0) o x := by
  have lt := R.lt
  have T := token_any (R.alloc (.cells zero46 47))
  have M0 := Blk.fresh w zero46 47
  have HR : Hid (RdR _ _ _ _) := ⟨R⟩
  obtain ⟨ta, tm, tp, tx, eT⟩ := hdO_form o n
  rw [eT] at T
  obtain ⟨hq1, hq2⟩ := ex_zero o
  rw [hq1]
  have HQ : Hid (∀ x, Rt (pExp 0) o x) := ⟨hq2⟩
  have hk60 : (60 : Int) < k := by omega
  clear hq1 hq2 R eT hk
  go_enter Tryz.func30, Tryz.ntmps30
  go_wp2_with (first
    | (go_at_call 27; refine T.mono ?_; rintro e w1 ⟨rfl, B1⟩; have M1 : Blk w1 w.heap.size zero46 47 := (B1.block _ M0.lt).trans M0; have lt1 := M1.lt; have O1 : Ob w ((w1.alloc (.cells #[.int .i64 ta, .string tx, .int .i64 tm, .int .i64 tp] 58)).alloc (.cells #[.int .i64 0, .int .i64 tp, .string ⟨#[]⟩, .int .i64 0, nil3, nil3, nil3, nil3] 47)) b w.heap.size (w1.heap.size + 1) n o zero46 47 #[.int .i64 0, .int .i64 tp, .string ⟨#[]⟩, .int .i64 0, nil3, nil3, nil3, nil3] 47 := ⟨(((HR.out.alloc _).below B1).alloc _).alloc _, (((Fr.refl b w).alloc _).trans (Fr.of_below B1)).alloc _ |>.alloc _, (M1.alloc _).alloc _, (by have := Blk.fresh (w1.alloc (.cells #[.int .i64 ta, .string tx, .int .i64 tm, .int .i64 tp] 58)) #[.int .i64 0, .int .i64 tp, .string ⟨#[]⟩, .int .i64 0, nil3, nil3, nil3, nil3] 47; simpa using this), ⟨lt, Nat.le_refl _, by omega⟩⟩; have L1 := (Blk.fresh w1 #[.int .i64 ta, .string tx, .int .i64 tm, .int .i64 tp] 58).alloc (.cells #[.int .i64 0, .int .i64 tp, .string ⟨#[]⟩, .int .i64 0, nil3, nil3, nil3, nil3] 47); have c3 := O1.rd.bad; have c3b : w1.cell? ⟨b, 3, none⟩ = some (.bool _) := ((HR.out.alloc _).below B1).bad; have nb1 : ¬ b = w1.heap.size := Nat.ne_of_lt (Nat.lt_trans lt lt1); have nb2 : ¬ b = w1.heap.size + 1 := Nat.ne_of_lt (Nat.lt_add_right 1 (Nat.lt_trans lt lt1)); clear B1 M1 T M0)
    | (go_at_call 28; refine (rfail_any O1.rd 24 (by decide)).mono ?_; rintro e w2 ⟨rfl, F2, R2⟩; have OE := O1.call F2 R2; clear F2 R2 O1 L1)
    | (refine wpList_load_row rfl 47 _ rfl (w1.heap.size + 1) rfl 47 _ (0, 0) _ OE.x Tryz.underlying47 rfl size46 ?_)
    | (refine wpList_store_row rfl 47 _ _ rfl w.heap.size _ rfl rfl 47 _ OE.m size46 rfl (by simp [Value.oneCell']) ?_))
  have oo := OE.out #[.int .i64 0, .int .i64 tp, .string ⟨#[]⟩, .int .i64 0, nil3, nil3, nil3, nil3]
  refine bodyPost_ret (results_cell_row Tryz.results30 _ _ w.heap.size 47 #[.int .i64 0, .int .i64 tp, .string ⟨#[]⟩, .int .i64 0, nil3, nil3, nil3, nil3] (0, 0) _ rfl OE.m.set Tryz.underlying47 rfl size46) rfl ⟨oo.1, oo.2, .mk 0 tp [] 0 [] [] [] [], _, rfl, ⟨_, rfl, isE_bare 0 tp 0 []⟩, HQ.out _⟩
set_option maxRecDepth 100000 in
set_option maxHeartbeats 8000000 in
theorem exp_bad {d : Nat} {k : Int} (hk : k ≤ 60) (R : RdR w b none n) :
    Calls Tryz.prog 30 #[ptr b, .int .i64 k] w fun e w' => Fr b w w' ∧ RdR w' b (runO (pExp (d + 1)) none) n ∧ ∃ x v, e = .returned v ∧ isEV w' (new w w') x v ∧ Rt (pExp (d + 1)) none x := by
  have lt := R.lt
  have T := token_any (R.alloc (.cells zero46 47))
  have M0 := Blk.fresh w zero46 47
  have HR : Hid (RdR _ _ _ _) := ⟨R⟩
  obtain ⟨ta, tm, tp, tx, eT⟩ := hdO_form none n
  rw [eT] at T
  have hk60 : ¬ (60 : Int) < k := by omega
  clear R eT hk
  go_enter Tryz.func30, Tryz.ntmps30
  go_wp2_with (first
    | (go_at_call 27; refine T.mono ?_; rintro e w1 ⟨rfl, B1⟩; have M1 : Blk w1 w.heap.size zero46 47 := (B1.block _ M0.lt).trans M0; have lt1 := M1.lt; have O1 : Ob w ((w1.alloc (.cells #[.int .i64 ta, .string tx, .int .i64 tm, .int .i64 tp] 58)).alloc (.cells #[.int .i64 0, .int .i64 tp, .string ⟨#[]⟩, .int .i64 0, nil3, nil3, nil3, nil3] 47)) b w.heap.size (w1.heap.size + 1) n none zero46 47 #[.int .i64 0, .int .i64 tp, .string ⟨#[]⟩, .int .i64 0, nil3, nil3, nil3, nil3] 47 := ⟨(((HR.out.alloc _).below B1).alloc _).alloc _, (((Fr.refl b w).alloc _).trans (Fr.of_below B1)).alloc _ |>.alloc _, (M1.alloc _).alloc _, (by have := Blk.fresh (w1.alloc (.cells #[.int .i64 ta, .string tx, .int .i64 tm, .int .i64 tp] 58)) #[.int .i64 0, .int .i64 tp, .string ⟨#[]⟩, .int .i64 0, nil3, nil3, nil3, nil3] 47; simpa using this), ⟨lt, Nat.le_refl _, by omega⟩⟩; have L1 := (Blk.fresh w1 #[.int .i64 ta, .string tx, .int .i64 tm, .int .i64 tp] 58).alloc (.cells #[.int .i64 0, .int .i64 tp, .string ⟨#[]⟩, .int .i64 0, nil3, nil3, nil3, nil3] 47); have c3 := O1.rd.bad; have c3b : w1.cell? ⟨b, 3, none⟩ = some (.bool _) := ((HR.out.alloc _).below B1).bad; have nb1 : ¬ b = w1.heap.size := Nat.ne_of_lt (Nat.lt_trans lt lt1); have nb2 : ¬ b = w1.heap.size + 1 := Nat.ne_of_lt (Nat.lt_add_right 1 (Nat.lt_trans lt lt1)); simp only [Option.isNone_none] at c3 c3b; have OE := O1; clear B1 M1 T M0)
    | (refine wpList_load_row rfl 47 _ rfl (w1.heap.size + 1) rfl 47 _ (0, 0) _ OE.x Tryz.underlying47 rfl size46 ?_)
    | (refine wpList_store_row rfl 47 _ _ rfl w.heap.size _ rfl rfl 47 _ OE.m size46 rfl (by simp [Value.oneCell']) ?_))
  have oo := OE.out #[.int .i64 0, .int .i64 tp, .string ⟨#[]⟩, .int .i64 0, nil3, nil3, nil3, nil3]
  refine bodyPost_ret (results_cell_row Tryz.results30 _ _ w.heap.size 47 #[.int .i64 0, .int .i64 tp, .string ⟨#[]⟩, .int .i64 0, nil3, nil3, nil3, nil3] (0, 0) _ rfl OE.m.set Tryz.underlying47 rfl size46) rfl ⟨oo.1, oo.2, .mk 0 tp [] 0 [] [] [] [], _, rfl, ⟨_, rfl, isE_bare 0 tp 0 []⟩, fun y hy => by cases hy⟩
set_option maxRecDepth 100000 in
set_option maxHeartbeats 8000000 in
theorem ex_none {d : Nat} {k : Int} {o : Option (List Tok)} (hk : k ≤ 60) (R : RdR w b o n) (hn : o ≠ none) (hm : ¬ ∃ t r, o = some (t :: r) ∧ (t.kind = 4 ∨ t.kind = 1 ∨ t.kind = 2 ∨ t.kind = 3)) (ia : isR [108, 101, 116] o = false) (ib : isR [99, 97, 115, 101] o = false) (ic : isR [40] o = false) :
    Calls Tryz.prog 30 #[ptr b, .int .i64 k] w fun e w' => Fr b w w' ∧ RdR w' b (runO (pExp (d + 1)) o) n ∧ ∃ x v, e = .returned v ∧ isEV w' (new w w') x v ∧ Rt (pExp (d + 1)) o x := by
  have lt := R.lt
  have T := token_any (R.alloc (.cells zero46 47))
  have M0 := Blk.fresh w zero46 47
  have HR : Hid (RdR _ _ _ _) := ⟨R⟩
  obtain ⟨ta, tm, tp, tx, eT, n4, n1, n2, n3⟩ := hd_other (n := n) hm
  rw [eT] at T
  obtain ⟨hq1, hq2⟩ := exp_other (d := d) (n := n) hn hm ia ib ic
  rw [hq1]
  have HQ : Hid (∀ x, Rt (pExp (d + 1)) o x) := ⟨hq2⟩
  have hb : o.isNone = false := by cases o with
    | none => exact absurd rfl hn
    | some l => rfl
  have HB : Hid (o.isNone = false) := ⟨hb⟩
  have hk60 : ¬ (60 : Int) < k := by omega
  have ISa := fun (W : World) (RW : RdR W b o n) => is_any RW [108, 101, 116]
  rw [ia, show str [108, 101, 116] = ⟨#[108, 101, 116]⟩ from rfl] at ISa
  have ISb := fun (W : World) (RW : RdR W b o n) => is_any RW [99, 97, 115, 101]
  rw [ib, show str [99, 97, 115, 101] = ⟨#[99, 97, 115, 101]⟩ from rfl] at ISb
  have ISc := fun (W : World) (RW : RdR W b o n) => is_any RW [40]
  rw [ic, show str [40] = ⟨#[40]⟩ from rfl] at ISc
  clear hq1 hq2 R eT hk hn hm ia ib ic hb
  go_enter Tryz.func30, Tryz.ntmps30
  go_wp2_with (first
    | (go_at_call 27; refine T.mono ?_; rintro e w1 ⟨rfl, B1⟩; have M1 : Blk w1 w.heap.size zero46 47 := (B1.block _ M0.lt).trans M0; have lt1 := M1.lt; have O1 : Ob w ((w1.alloc (.cells #[.int .i64 ta, .string tx, .int .i64 tm, .int .i64 tp] 58)).alloc (.cells #[.int .i64 0, .int .i64 tp, .string ⟨#[]⟩, .int .i64 0, nil3, nil3, nil3, nil3] 47)) b w.heap.size (w1.heap.size + 1) n o zero46 47 #[.int .i64 0, .int .i64 tp, .string ⟨#[]⟩, .int .i64 0, nil3, nil3, nil3, nil3] 47 := ⟨(((HR.out.alloc _).below B1).alloc _).alloc _, (((Fr.refl b w).alloc _).trans (Fr.of_below B1)).alloc _ |>.alloc _, (M1.alloc _).alloc _, (by have := Blk.fresh (w1.alloc (.cells #[.int .i64 ta, .string tx, .int .i64 tm, .int .i64 tp] 58)) #[.int .i64 0, .int .i64 tp, .string ⟨#[]⟩, .int .i64 0, nil3, nil3, nil3, nil3] 47; simpa using this), ⟨lt, Nat.le_refl _, by omega⟩⟩; have L1 := (Blk.fresh w1 #[.int .i64 ta, .string tx, .int .i64 tm, .int .i64 tp] 58).alloc (.cells #[.int .i64 0, .int .i64 tp, .string ⟨#[]⟩, .int .i64 0, nil3, nil3, nil3, nil3] 47); have c3 := O1.rd.bad; have c3b : w1.cell? ⟨b, 3, none⟩ = some (.bool _) := ((HR.out.alloc _).below B1).bad; have nb1 : ¬ b = w1.heap.size := Nat.ne_of_lt (Nat.lt_trans lt lt1); have nb2 : ¬ b = w1.heap.size + 1 := Nat.ne_of_lt (Nat.lt_add_right 1 (Nat.lt_trans lt lt1)); rw [HB.out] at c3 c3b; clear B1 M1 T M0)
    | (go_at_call_of 12 (Value.string { data := #[108, 101, 116] }); refine (ISa _ O1.rd).mono ?_; rintro e wa ⟨rfl, Ba⟩; have Oa := O1.below Ba; clear Ba)
    | (go_at_call_of 12 (Value.string { data := #[99, 97, 115, 101] }); refine (ISb _ Oa.rd).mono ?_; rintro e wb ⟨rfl, Bb⟩; have Obb := Oa.below Bb; clear Bb)
    | (go_at_call_of 12 (Value.string { data := #[40] }); refine (ISc _ Obb.rd).mono ?_; rintro e wc ⟨rfl, Bc⟩; have Oc := Obb.below Bc; clear Bc)
    | (go_at_call 28; refine (rfail_any Oc.rd 23 (by decide)).mono ?_; rintro e w2 ⟨rfl, F2, R2⟩; have OE := Oc.call F2 R2; clear F2 R2 O1 L1 Oa Oc)
    | (refine wpList_load_row rfl 47 _ rfl (w1.heap.size + 1) rfl 47 _ (0, 0) _ OE.x Tryz.underlying47 rfl size46 ?_)
    | (refine wpList_store_row rfl 47 _ _ rfl w.heap.size _ rfl rfl 47 _ OE.m size46 rfl (by simp [Value.oneCell']) ?_))
  have oo := OE.out #[.int .i64 0, .int .i64 tp, .string ⟨#[]⟩, .int .i64 0, nil3, nil3, nil3, nil3]
  refine bodyPost_ret (results_cell_row Tryz.results30 _ _ w.heap.size 47 #[.int .i64 0, .int .i64 tp, .string ⟨#[]⟩, .int .i64 0, nil3, nil3, nil3, nil3] (0, 0) _ rfl OE.m.set Tryz.underlying47 rfl size46) rfl ⟨oo.1, oo.2, .mk 0 tp [] 0 [] [] [] [], _, rfl, ⟨_, rfl, isE_bare 0 tp 0 []⟩, HQ.out _⟩
set_option maxRecDepth 100000 in
set_option maxHeartbeats 8000000 in
theorem exp_int {d : Nat} {k : Int} {t : Tok} {r : List Tok} (hk : k ≤ 60) (R : RdR w b (some (t :: r)) n) (hk9 : t.kind = 4) :
    Calls Tryz.prog 30 #[ptr b, .int .i64 k] w fun e w' => Fr b w w' ∧ RdR w' b (runO (pExp (d + 1)) (some (t :: r))) n ∧ ∃ x v, e = .returned v ∧ isEV w' (new w w') x v ∧ Rt (pExp (d + 1)) (some (t :: r)) x := by
  have lt := R.lt
  have T := token_any (R.alloc (.cells zero46 47))
  have M0 := Blk.fresh w zero46 47
  have HR : Hid (RdR _ _ _ _) := ⟨R⟩
  simp only [hdO] at T
  rw [hk9] at T
  obtain ⟨hq1, hq2⟩ := int_rt (d := d) (r := r) hk9
  rw [hq1]
  have HQ : Hid _ := ⟨hq2⟩
  have hk60 : ¬ (60 : Int) < k := by omega
  clear hq1 hq2 R hk hk9
  go_enter Tryz.func30, Tryz.ntmps30
  go_wp2_with (first
    | (go_at_call 27; refine T.mono ?_; rintro e w1 ⟨rfl, B1⟩; have M1 : Blk w1 w.heap.size zero46 47 := (B1.block _ M0.lt).trans M0; have lt1 := M1.lt; have O1 : Ob w ((w1.alloc (.cells #[.int .i64 4, .string (str t.text), .int .i64 t.num, .int .i64 t.at'] 58)).alloc (.cells #[.int .i64 0, .int .i64 t.at', .string ⟨#[]⟩, .int .i64 0, nil3, nil3, nil3, nil3] 47)) b w.heap.size (w1.heap.size + 1) n (some (t :: r)) zero46 47 #[.int .i64 0, .int .i64 t.at', .string ⟨#[]⟩, .int .i64 0, nil3, nil3, nil3, nil3] 47 := ⟨(((HR.out.alloc _).below B1).alloc _).alloc _, (((Fr.refl b w).alloc _).trans (Fr.of_below B1)).alloc _ |>.alloc _, (M1.alloc _).alloc _, (by have := Blk.fresh (w1.alloc (.cells #[.int .i64 4, .string (str t.text), .int .i64 t.num, .int .i64 t.at'] 58)) #[.int .i64 0, .int .i64 t.at', .string ⟨#[]⟩, .int .i64 0, nil3, nil3, nil3, nil3] 47; simpa using this), ⟨lt, Nat.le_refl _, by omega⟩⟩; have L1 := (Blk.fresh w1 #[.int .i64 4, .string (str t.text), .int .i64 t.num, .int .i64 t.at'] 58).alloc (.cells #[.int .i64 0, .int .i64 t.at', .string ⟨#[]⟩, .int .i64 0, nil3, nil3, nil3, nil3] 47); have c3 := O1.rd.bad; have c3b : w1.cell? ⟨b, 3, none⟩ = some (.bool _) := ((HR.out.alloc _).below B1).bad; have nb1 : ¬ b = w1.heap.size := Nat.ne_of_lt (Nat.lt_trans lt lt1); have nb2 : ¬ b = w1.heap.size + 1 := Nat.ne_of_lt (Nat.lt_add_right 1 (Nat.lt_trans lt lt1)); simp only [Option.isNone_some] at c3 c3b; clear B1 M1 T M0)
    | (go_at_call 13; refine (on_any O1.rd (fun l e z => by cases e; cases z)).mono ?_; rintro e w2 ⟨rfl, F2, R2⟩; simp only [Option.map_some, List.tail_cons] at R2; have O2 := O1.call F2 R2; have L2 := L1.kept F2 (fun q => by cases q; omega); have y1 : w2.cell? ⟨w1.heap.size, 1, none⟩ = some (.string (str t.text)) := L2.cell 1; have y2 : w2.cell? ⟨w1.heap.size, 2, none⟩ = some (.int .i64 t.num) := L2.cell 2; have y3 : w2.cell? ⟨w1.heap.size, 3, none⟩ = some (.int .i64 t.at') := L2.cell 3; have ltX := O2.lts.2.2; have x0 : w2.cell? ⟨w1.heap.size + 1, 0, none⟩ = some (.int .i64 0) := O2.x.cell 0; have xz0 := O2.x.z 0; have x1 : w2.cell? ⟨w1.heap.size + 1, 1, none⟩ = some (.int .i64 t.at') := O2.x.cell 1; have xz1 := O2.x.z 1; have x2 : w2.cell? ⟨w1.heap.size + 1, 2, none⟩ = some (.string ⟨#[]⟩) := O2.x.cell 2; have xz2 := O2.x.z 2; have x3 : w2.cell? ⟨w1.heap.size + 1, 3, none⟩ = some (.int .i64 0) := O2.x.cell 3; have xz3 := O2.x.z 3; have x4 : w2.cell? ⟨w1.heap.size + 1, 4, none⟩ = some (nil3) := O2.x.cell 4; have xz4 := O2.x.z 4; have x5 : w2.cell? ⟨w1.heap.size + 1, 5, none⟩ = some (nil3) := O2.x.cell 5; have xz5 := O2.x.z 5; have x6 : w2.cell? ⟨w1.heap.size + 1, 6, none⟩ = some (nil3) := O2.x.cell 6; have xz6 := O2.x.z 6; have x7 : w2.cell? ⟨w1.heap.size + 1, 7, none⟩ = some (nil3) := O2.x.cell 7; have xz7 := O2.x.z 7; have OE : Ob w _ b w.heap.size (w1.heap.size + 1) n _ zero46 47 #[.int .i64 4, .int .i64 t.at', .string ⟨#[]⟩, .int .i64 t.num, nil3, nil3, nil3, nil3] 47 := (O2.store 0 (.int .i64 4)).store 3 (.int .i64 t.num); clear F2 R2 O1 L1 c3 c3b)
    | (refine wpList_load_row rfl 47 _ rfl (w1.heap.size + 1) rfl 47 _ (0, 0) _ OE.x Tryz.underlying47 rfl size46 ?_)
    | (refine wpList_store_row rfl 47 _ _ rfl w.heap.size _ rfl rfl 47 _ OE.m size46 rfl (by simp [Value.oneCell']) ?_))
  have oo := OE.out #[.int .i64 4, .int .i64 t.at', .string ⟨#[]⟩, .int .i64 t.num, nil3, nil3, nil3, nil3]
  refine bodyPost_ret (results_cell_row Tryz.results30 _ _ w.heap.size 47 #[.int .i64 4, .int .i64 t.at', .string ⟨#[]⟩, .int .i64 t.num, nil3, nil3, nil3, nil3] (0, 0) _ rfl OE.m.set Tryz.underlying47 rfl size46) rfl ⟨oo.1, oo.2, .mk 4 t.at' [] t.num [] [] [] [], _, rfl, ⟨_, rfl, isE_bare 4 t.at' t.num []⟩, HQ.out⟩
set_option maxRecDepth 100000 in
set_option maxHeartbeats 8000000 in
theorem exp_par {d : Nat} {k : Int} (h0 : 0 ≤ k) (hE : ExpR d) {t : Tok} {r : List Tok} (hk : k = 60 - d) (R : RdR w b (some (t :: r)) n) (hm : ¬ (t.kind = 4 ∨ t.kind = 1 ∨ t.kind = 2 ∨ t.kind = 3)) (ia : isR [108, 101, 116] (some (t :: r)) = false) (ib : isR [99, 97, 115, 101] (some (t :: r)) = false) (ic : isR [40] (some (t :: r)) = true) :
    Calls Tryz.prog 30 #[ptr b, .int .i64 k] w fun e w' => Fr b w w' ∧ RdR w' b (runO (pExp (d + 1)) (some (t :: r))) n ∧ ∃ x v, e = .returned v ∧ isEV w' (new w w') x v ∧ Rt (pExp (d + 1)) (some (t :: r)) x := by
  have lt := R.lt
  have T := token_any (R.alloc (.cells zero46 47))
  have M0 := Blk.fresh w zero46 47
  have HR : Hid (RdR _ _ _ _) := ⟨R⟩
  obtain ⟨ta, tm, tp, tx, eT, n4, n1, n2, n3⟩ := hd_other (o := some (t :: r)) (n := n) (fun ⟨t', r', e, q⟩ => hm (by cases e; exact q))
  rw [eT] at T
  have HQ : Hid (∀ x, Rt (pExp d) (some r) x → runO (pExp (d + 1)) (some (t :: r)) = runO (pWant [41]) (runO (pExp d) (some r)) ∧ Rt (pExp (d + 1)) (some (t :: r)) x) := ⟨fun x hx => par_rt hm ia ib ic hx⟩
  have hk60 : ¬ (60 : Int) < k := by omega
  have HEX : Hid (ExpR d ∧ k + 1 = 61 - d) := ⟨hE, by omega⟩
  have kw : IntKind.i64.wrap (k + 1) = k + 1 := by rw [IntKind.wrap_i64]; omega
  have ISa := fun (W : World) (RW : RdR W b (some (t :: r)) n) => is_any RW [108, 101, 116]
  rw [ia, show str [108, 101, 116] = ⟨#[108, 101, 116]⟩ from rfl] at ISa
  have ISb := fun (W : World) (RW : RdR W b (some (t :: r)) n) => is_any RW [99, 97, 115, 101]
  rw [ib, show str [99, 97, 115, 101] = ⟨#[99, 97, 115, 101]⟩ from rfl] at ISb
  have ISc := fun (W : World) (RW : RdR W b (some (t :: r)) n) => is_any RW [40]
  rw [ic, show str [40] = ⟨#[40]⟩ from rfl] at ISc
  clear R eT hk hm ia ib ic hE
  go_enter Tryz.func30, Tryz.ntmps30
  go_wp2_with (first
    | (go_at_call 27; refine T.mono ?_; rintro e w1 ⟨rfl, B1⟩; have M1 : Blk w1 w.heap.size zero46 47 := (B1.block _ M0.lt).trans M0; have lt1 := M1.lt; have O1 : Ob w ((w1.alloc (.cells #[.int .i64 ta, .string tx, .int .i64 tm, .int .i64 tp] 58)).alloc (.cells #[.int .i64 0, .int .i64 tp, .string ⟨#[]⟩, .int .i64 0, nil3, nil3, nil3, nil3] 47)) b w.heap.size (w1.heap.size + 1) n (some (t :: r)) zero46 47 #[.int .i64 0, .int .i64 tp, .string ⟨#[]⟩, .int .i64 0, nil3, nil3, nil3, nil3] 47 := ⟨(((HR.out.alloc _).below B1).alloc _).alloc _, (((Fr.refl b w).alloc _).trans (Fr.of_below B1)).alloc _ |>.alloc _, (M1.alloc _).alloc _, (by have := Blk.fresh (w1.alloc (.cells #[.int .i64 ta, .string tx, .int .i64 tm, .int .i64 tp] 58)) #[.int .i64 0, .int .i64 tp, .string ⟨#[]⟩, .int .i64 0, nil3, nil3, nil3, nil3] 47; simpa using this), ⟨lt, Nat.le_refl _, by omega⟩⟩; have L1 := (Blk.fresh w1 #[.int .i64 ta, .string tx, .int .i64 tm, .int .i64 tp] 58).alloc (.cells #[.int .i64 0, .int .i64 tp, .string ⟨#[]⟩, .int .i64 0, nil3, nil3, nil3, nil3] 47); have c3 := O1.rd.bad; have c3b : w1.cell? ⟨b, 3, none⟩ = some (.bool _) := ((HR.out.alloc _).below B1).bad; have nb1 : ¬ b = w1.heap.size := Nat.ne_of_lt (Nat.lt_trans lt lt1); have nb2 : ¬ b = w1.heap.size + 1 := Nat.ne_of_lt (Nat.lt_add_right 1 (Nat.lt_trans lt lt1)); simp only [Option.isNone_some] at c3 c3b; clear B1 M1 T M0)
    | (go_at_call_of 12 (Value.string { data := #[108, 101, 116] }); refine (ISa _ O1.rd).mono ?_; rintro e wa ⟨rfl, Ba⟩; have Oa := O1.below Ba; clear Ba)
    | (go_at_call_of 12 (Value.string { data := #[99, 97, 115, 101] }); refine (ISb _ Oa.rd).mono ?_; rintro e wb ⟨rfl, Bb⟩; have Obb := Oa.below Bb; clear Bb)
    | (go_at_call_of 12 (Value.string { data := #[40] }); refine (ISc _ Obb.rd).mono ?_; rintro e wc ⟨rfl, Bc⟩; have Oc := Obb.below Bc; clear Bc)
    | (go_at_call 13; refine (on_any Oc.rd (fun l e z => by cases e; cases z)).mono ?_; rintro e w2 ⟨rfl, F2, R2⟩; simp only [Option.map_some, List.tail_cons] at R2; have O2 := Oc.call F2 R2; have ltX := O2.lts.2.2; have XP := HEX.out.1 (k + 1) HEX.out.2 _ b (some r) n O2.rd; clear F2 R2 O1 L1 c3 c3b Oa Oc)
    | (go_at_call 30; refine XP.mono ?_; rintro e w7 ⟨F7, R7, x, v7, rfl, ⟨c, rfl, E7⟩, hx⟩; obtain ⟨k', a', m', s', g4, g5, g6, g7, n4', n5, n6, n7, c4, c5, c6, c7, rfl⟩ := isE_eight E7; have HE7 : Hid (isE _ _ _ _) := ⟨E7⟩; have HX7 : Hid (Rt (pExp d) (some r) x) := ⟨hx⟩; have O7 := O2.call F7 R7; have s7 := F7.size; have u0 : w7.cell? ⟨w1.heap.size + 1, 0, none⟩ = some (.int .i64 0) := O7.x.cell 0; have uz0 := O7.x.z 0; have u1 : w7.cell? ⟨w1.heap.size + 1, 1, none⟩ = some (.int .i64 tp) := O7.x.cell 1; have uz1 := O7.x.z 1; have u2 : w7.cell? ⟨w1.heap.size + 1, 2, none⟩ = some (.string ⟨#[]⟩) := O7.x.cell 2; have uz2 := O7.x.z 2; have u3 : w7.cell? ⟨w1.heap.size + 1, 3, none⟩ = some (.int .i64 0) := O7.x.cell 3; have uz3 := O7.x.z 3; have u4 : w7.cell? ⟨w1.heap.size + 1, 4, none⟩ = some (nil3) := O7.x.cell 4; have uz4 := O7.x.z 4; have u5 : w7.cell? ⟨w1.heap.size + 1, 5, none⟩ = some (nil3) := O7.x.cell 5; have uz5 := O7.x.z 5; have u6 : w7.cell? ⟨w1.heap.size + 1, 6, none⟩ = some (nil3) := O7.x.cell 6; have uz6 := O7.x.z 6; have u7 : w7.cell? ⟨w1.heap.size + 1, 7, none⟩ = some (nil3) := O7.x.cell 7; have uz7 := O7.x.z 7; clear E7 hx F7 R7 XP)
    | (go_at_call_of 15 (Value.string { data := #[41] }); have O8 := O7.store8 (.int .i64 k') (.int .i64 a') (.string s') (.int .i64 m') (.slice g4 n4' c4) (.slice g5 n5 c5) (.slice g6 n6 c6) (.slice g7 n7 c7); refine (want_any O8.rd [41]).mono ?_; rintro e w9 ⟨rfl, F9, R9⟩; have OE := O8.call F9 R9; have HF9 : Hid (Fr b _ w9) := ⟨F9⟩; clear F9 R9)
    | (refine wpList_load_row rfl 47 _ rfl (w1.heap.size + 1) rfl 47 _ (0, 0) _ OE.x Tryz.underlying47 rfl size46 ?_)
    | (refine wpList_store_row rfl 47 _ _ rfl w.heap.size _ rfl rfl 47 _ OE.m size46 rfl (by simp [Value.oneCell']) ?_))
  have oo := OE.out #[.int .i64 k', .int .i64 a', .string s', .int .i64 m', .slice g4 n4' c4, .slice g5 n5 c5, .slice g6 n6 c6, .slice g7 n7 c7]
  refine bodyPost_ret (results_cell_row Tryz.results30 _ _ w.heap.size 47 #[.int .i64 k', .int .i64 a', .string s', .int .i64 m', .slice g4 n4' c4, .slice g5 n5 c5, .slice g6 n6 c6, .slice g7 n7 c7] (0, 0) _ rfl OE.m.set Tryz.underlying47 rfl size46) rfl ⟨oo.1, by rw [(HQ.out x HX7.out).1]; exact oo.2, x, _, rfl, ⟨_, rfl, ?_⟩, (HQ.out x HX7.out).2⟩
  have A := ((Abv.refl w2.heap.size w7).set8 ltX 0 (.int .i64 k') (.int .i64 a') (.string s') (.int .i64 m') (.slice g4 n4' c4) (.slice g5 n5 c5) (.slice g6 n6 c6) (.slice g7 n7 c7)).fr HF9.out (by omega)
  have K := fun cs => (A.setRow (X := w.heap.size) (by omega) cs).keeps (wv := w2) (w0 := w) (Nat.le_refl _) (by omega)
  exact isE_keeps (K _) x _ HE7.out
end

end Go.Proofs.YtofgnpehlheeiaaGreatDoor

/- The document's reader: a head and its atoms. -/
namespace Go.Proofs.YtofgnpehlheeiaaGreatDoor
open Go.RowKit
set_option linter.unusedVariables false
set_option linter.unusedSimpArgs false

section
variable {w : World} {b : Nat} {n : Int}
set_option maxRecDepth 100000 in
set_option maxHeartbeats 8000000 in
theorem exp_name {d : Nat} {k : Int} {t : Tok} {r : List Tok} (hk : k ≤ 60) (R : RdR w b (some (t :: r)) n) (hk9 : t.kind = 1) :
    Calls Tryz.prog 30 #[ptr b, .int .i64 k] w fun e w' => Fr b w w' ∧ RdR w' b (runO (pExp (d + 1)) (some (t :: r))) n ∧ ∃ x v, e = .returned v ∧ isEV w' (new w w') x v ∧ Rt (pExp (d + 1)) (some (t :: r)) x := by
  have lt := R.lt
  have T := token_any (R.alloc (.cells zero46 47))
  have M0 := Blk.fresh w zero46 47
  have HR : Hid (RdR _ _ _ _) := ⟨R⟩
  simp only [hdO] at T
  rw [hk9] at T
  obtain ⟨hq1, hq2⟩ := app_rt (d := d) (t := t) (r := r) (by omega)
  rw [hq1]
  rw [hk9] at hq2
  obtain ⟨N, eN⟩ : ∃ N, N = atomsO (some r) := ⟨_, rfl⟩
  rw [← eN] at hq2 ⊢
  have HN : Hid (N = atomsO (some r)) := ⟨eN⟩
  have HQ : Hid _ := ⟨hq2⟩
  have hk60 : ¬ (60 : Int) < k := by omega
  clear hq1 hq2 R hk hk9 eN
  go_enter Tryz.func30, Tryz.ntmps30
  go_wp2_with (first
    | (go_at_call 27; refine T.mono ?_; rintro e w1 ⟨rfl, B1⟩; have M1 : Blk w1 w.heap.size zero46 47 := (B1.block _ M0.lt).trans M0; have lt1 := M1.lt; have O1 : Ob w ((w1.alloc (.cells #[.int .i64 1, .string (str t.text), .int .i64 t.num, .int .i64 t.at'] 58)).alloc (.cells #[.int .i64 0, .int .i64 t.at', .string ⟨#[]⟩, .int .i64 0, nil3, nil3, nil3, nil3] 47)) b w.heap.size (w1.heap.size + 1) n (some (t :: r)) zero46 47 #[.int .i64 0, .int .i64 t.at', .string ⟨#[]⟩, .int .i64 0, nil3, nil3, nil3, nil3] 47 := ⟨(((HR.out.alloc _).below B1).alloc _).alloc _, (((Fr.refl b w).alloc _).trans (Fr.of_below B1)).alloc _ |>.alloc _, (M1.alloc _).alloc _, (by have := Blk.fresh (w1.alloc (.cells #[.int .i64 1, .string (str t.text), .int .i64 t.num, .int .i64 t.at'] 58)) #[.int .i64 0, .int .i64 t.at', .string ⟨#[]⟩, .int .i64 0, nil3, nil3, nil3, nil3] 47; simpa using this), ⟨lt, Nat.le_refl _, by omega⟩⟩; have L1 := (Blk.fresh w1 #[.int .i64 1, .string (str t.text), .int .i64 t.num, .int .i64 t.at'] 58).alloc (.cells #[.int .i64 0, .int .i64 t.at', .string ⟨#[]⟩, .int .i64 0, nil3, nil3, nil3, nil3] 47); have c3 := O1.rd.bad; have c3b : w1.cell? ⟨b, 3, none⟩ = some (.bool _) := ((HR.out.alloc _).below B1).bad; have nb1 : ¬ b = w1.heap.size := Nat.ne_of_lt (Nat.lt_trans lt lt1); have nb2 : ¬ b = w1.heap.size + 1 := Nat.ne_of_lt (Nat.lt_add_right 1 (Nat.lt_trans lt lt1)); simp only [Option.isNone_some] at c3 c3b; clear B1 M1 T M0)
    | (go_at_call 13; refine (on_any O1.rd (fun l e z => by cases e; cases z)).mono ?_; rintro e w2 ⟨rfl, F2, R2⟩; simp only [Option.map_some, List.tail_cons] at R2; have O2 := O1.call F2 R2; have L2 := L1.kept F2 (fun q => by cases q; omega); have y1 : w2.cell? ⟨w1.heap.size, 1, none⟩ = some (.string (str t.text)) := L2.cell 1; have y2 : w2.cell? ⟨w1.heap.size, 2, none⟩ = some (.int .i64 t.num) := L2.cell 2; have y3 : w2.cell? ⟨w1.heap.size, 3, none⟩ = some (.int .i64 t.at') := L2.cell 3; have ltX := O2.lts.2.2; clear F2 R2 O1 L1 c3 c3b))
  have HO2 : Hid (Ob _ _ _ _ _ _ _ _ _ _ _) := ⟨O2⟩
  have AT := ratoms_any O2.rd.drew
  rw [← HN.out] at AT
  have HL2 : Hid (Blk _ _ _ _) := ⟨L2⟩
  clear O2 L2
  go_region_held3 (fun w' => w'.cell? ⟨w1.heap.size, 1, none⟩ = some (.string (str t.text)) ∧ w'.cell? ⟨w1.heap.size, 3, none⟩ = some (.int .i64 t.at')) (go_keep) (first | (go_at_call 52; refine AT.mono ?_; rintro e w3 ⟨v3, rfl, F3, R3, NR3, nl3⟩; obtain ⟨gv, cv, rfl⟩ := own_form NR3; have s3 := F3.size; simp only [World.size_drew] at s3; have O3 := HO2.out.drew.call F3 R3; have L3 := (HL2.out.kept (grown_drew _) (fun q => by cases q)).kept F3 (fun q => by cases q; omega); have p1 : w3.cell? ⟨w1.heap.size, 1, none⟩ = some (.string (str t.text)) := L3.cell 1; have p3 : w3.cell? ⟨w1.heap.size, 3, none⟩ = some (.int .i64 t.at') := L3.cell 3; have u0 : w3.cell? ⟨w1.heap.size + 1, 0, none⟩ = some (.int .i64 0) := O3.x.cell 0; have uz0 := O3.x.z 0; have u1 : w3.cell? ⟨w1.heap.size + 1, 1, none⟩ = some (.int .i64 t.at') := O3.x.cell 1; have uz1 := O3.x.z 1; have u2 : w3.cell? ⟨w1.heap.size + 1, 2, none⟩ = some (.string ⟨#[]⟩) := O3.x.cell 2; have uz2 := O3.x.z 2; have u3 : w3.cell? ⟨w1.heap.size + 1, 3, none⟩ = some (.int .i64 0) := O3.x.cell 3; have uz3 := O3.x.z 3; have u4 : w3.cell? ⟨w1.heap.size + 1, 4, none⟩ = some (nil3) := O3.x.cell 4; have uz4 := O3.x.z 4; have u5 : w3.cell? ⟨w1.heap.size + 1, 5, none⟩ = some (nil3) := O3.x.cell 5; have uz5 := O3.x.z 5; have u6 : w3.cell? ⟨w1.heap.size + 1, 6, none⟩ = some (nil3) := O3.x.cell 6; have uz6 := O3.x.z 6; have u7 : w3.cell? ⟨w1.heap.size + 1, 7, none⟩ = some (nil3) := O3.x.cell 7; have uz7 := O3.x.z 7; have hXb : w1.heap.size + 1 < w2.drew.heap.size := (by simpa using ltX); have OE := O3.store8 (.int .i64 1) (.int .i64 t.at') (.string (str t.text)) (.int .i64 0) (.slice gv N.1.length cv) (.slice none 0 0) (.slice none 0 0) (.slice none 0 0); have NRE := (own_fr (own_fr (own_fr (own_fr (own_fr (own_fr (own_fr (own_fr NR3 (grown_set _ (w1.heap.size + 1) 0 (.int .i64 1)) hXb) (grown_set _ (w1.heap.size + 1) 1 (.int .i64 t.at')) hXb) (grown_set _ (w1.heap.size + 1) 2 (.string (str t.text))) hXb) (grown_set _ (w1.heap.size + 1) 3 (.int .i64 0)) hXb) (grown_set _ (w1.heap.size + 1) 4 (.slice gv N.1.length cv)) hXb) (grown_set _ (w1.heap.size + 1) 5 (.slice none 0 0)) hXb) (grown_set _ (w1.heap.size + 1) 6 (.slice none 0 0)) hXb) (grown_set _ (w1.heap.size + 1) 7 (.slice none 0 0)) hXb); clear F3 R3))
  all_goals rename_i hHeld
  all_goals clear hHeld
  all_goals generalize ((((((((w3.setCell ⟨w1.heap.size + 1, 0, none⟩ (.int .i64 1)).setCell ⟨w1.heap.size + 1, 1, none⟩ (.int .i64 t.at')).setCell ⟨w1.heap.size + 1, 2, none⟩ (.string (str t.text))).setCell ⟨w1.heap.size + 1, 3, none⟩ (.int .i64 0)).setCell ⟨w1.heap.size + 1, 4, none⟩ (.slice gv N.1.length cv)).setCell ⟨w1.heap.size + 1, 5, none⟩ (.slice none 0 0)).setCell ⟨w1.heap.size + 1, 6, none⟩ (.slice none 0 0)).setCell ⟨w1.heap.size + 1, 7, none⟩ (.slice none 0 0)) = WE at OE NRE ⊢
  all_goals go_wp2_with (first
    | (refine wpList_load_row rfl 47 _ rfl (w1.heap.size + 1) rfl 47 _ (0, 0) _ OE.x Tryz.underlying47 rfl size46 ?_)
    | (refine wpList_store_row rfl 47 _ _ rfl w.heap.size _ rfl rfl 47 _ OE.m size46 rfl (by simp [Value.oneCell']) ?_))
  all_goals have oo := OE.out #[.int .i64 1, .int .i64 t.at', .string (str t.text), .int .i64 0, .slice gv N.1.length cv, nil3, nil3, nil3]
  all_goals refine bodyPost_ret (results_cell_row Tryz.results30 _ _ w.heap.size 47 #[.int .i64 1, .int .i64 t.at', .string (str t.text), .int .i64 0, .slice gv N.1.length cv, nil3, nil3, nil3] (0, 0) _ rfl OE.m.set Tryz.underlying47 rfl size46) rfl ⟨oo.1, oo.2, .mk 1 t.at' t.text 0 N.1 [] [] [], _, rfl, ⟨_, rfl, ?_⟩, HQ.out⟩
  all_goals
    have NF := own_fr NRE (grown_setRow _ w.heap.size #[.int .i64 1, .int .i64 t.at', .string (str t.text), .int .i64 0, .slice gv N.1.length cv, nil3, nil3, nil3]) (by omega)
    simp only [isE]
    exact ⟨_, _, _, _, [], [], [], rfl, row_of_owns NF (fun g hg => ⟨by have := (NF.lt g hg).1; omega, (NF.lt g hg).2⟩) (by omega), isRow_nil _ _ _, by simp only [isBs], isRow_nil _ _ _, by simp only [isEs], isRow_nil _ _ _, by simp only [isAs]⟩
set_option maxRecDepth 100000 in
set_option maxHeartbeats 8000000 in
theorem exp_con {d : Nat} {k : Int} {t : Tok} {r : List Tok} (hk : k ≤ 60) (R : RdR w b (some (t :: r)) n) (hk9 : t.kind = 2) :
    Calls Tryz.prog 30 #[ptr b, .int .i64 k] w fun e w' => Fr b w w' ∧ RdR w' b (runO (pExp (d + 1)) (some (t :: r))) n ∧ ∃ x v, e = .returned v ∧ isEV w' (new w w') x v ∧ Rt (pExp (d + 1)) (some (t :: r)) x := by
  have lt := R.lt
  have T := token_any (R.alloc (.cells zero46 47))
  have M0 := Blk.fresh w zero46 47
  have HR : Hid (RdR _ _ _ _) := ⟨R⟩
  simp only [hdO] at T
  rw [hk9] at T
  obtain ⟨hq1, hq2⟩ := app_rt (d := d) (t := t) (r := r) (by omega)
  rw [hq1]
  rw [hk9] at hq2
  obtain ⟨N, eN⟩ : ∃ N, N = atomsO (some r) := ⟨_, rfl⟩
  rw [← eN] at hq2 ⊢
  have HN : Hid (N = atomsO (some r)) := ⟨eN⟩
  have HQ : Hid _ := ⟨hq2⟩
  have hk60 : ¬ (60 : Int) < k := by omega
  clear hq1 hq2 R hk hk9 eN
  go_enter Tryz.func30, Tryz.ntmps30
  go_wp2_with (first
    | (go_at_call 27; refine T.mono ?_; rintro e w1 ⟨rfl, B1⟩; have M1 : Blk w1 w.heap.size zero46 47 := (B1.block _ M0.lt).trans M0; have lt1 := M1.lt; have O1 : Ob w ((w1.alloc (.cells #[.int .i64 2, .string (str t.text), .int .i64 t.num, .int .i64 t.at'] 58)).alloc (.cells #[.int .i64 0, .int .i64 t.at', .string ⟨#[]⟩, .int .i64 0, nil3, nil3, nil3, nil3] 47)) b w.heap.size (w1.heap.size + 1) n (some (t :: r)) zero46 47 #[.int .i64 0, .int .i64 t.at', .string ⟨#[]⟩, .int .i64 0, nil3, nil3, nil3, nil3] 47 := ⟨(((HR.out.alloc _).below B1).alloc _).alloc _, (((Fr.refl b w).alloc _).trans (Fr.of_below B1)).alloc _ |>.alloc _, (M1.alloc _).alloc _, (by have := Blk.fresh (w1.alloc (.cells #[.int .i64 2, .string (str t.text), .int .i64 t.num, .int .i64 t.at'] 58)) #[.int .i64 0, .int .i64 t.at', .string ⟨#[]⟩, .int .i64 0, nil3, nil3, nil3, nil3] 47; simpa using this), ⟨lt, Nat.le_refl _, by omega⟩⟩; have L1 := (Blk.fresh w1 #[.int .i64 2, .string (str t.text), .int .i64 t.num, .int .i64 t.at'] 58).alloc (.cells #[.int .i64 0, .int .i64 t.at', .string ⟨#[]⟩, .int .i64 0, nil3, nil3, nil3, nil3] 47); have c3 := O1.rd.bad; have c3b : w1.cell? ⟨b, 3, none⟩ = some (.bool _) := ((HR.out.alloc _).below B1).bad; have nb1 : ¬ b = w1.heap.size := Nat.ne_of_lt (Nat.lt_trans lt lt1); have nb2 : ¬ b = w1.heap.size + 1 := Nat.ne_of_lt (Nat.lt_add_right 1 (Nat.lt_trans lt lt1)); simp only [Option.isNone_some] at c3 c3b; clear B1 M1 T M0)
    | (go_at_call 13; refine (on_any O1.rd (fun l e z => by cases e; cases z)).mono ?_; rintro e w2 ⟨rfl, F2, R2⟩; simp only [Option.map_some, List.tail_cons] at R2; have O2 := O1.call F2 R2; have L2 := L1.kept F2 (fun q => by cases q; omega); have y1 : w2.cell? ⟨w1.heap.size, 1, none⟩ = some (.string (str t.text)) := L2.cell 1; have y2 : w2.cell? ⟨w1.heap.size, 2, none⟩ = some (.int .i64 t.num) := L2.cell 2; have y3 : w2.cell? ⟨w1.heap.size, 3, none⟩ = some (.int .i64 t.at') := L2.cell 3; have ltX := O2.lts.2.2; clear F2 R2 O1 L1 c3 c3b))
  have HO2 : Hid (Ob _ _ _ _ _ _ _ _ _ _ _) := ⟨O2⟩
  have AT := ratoms_any O2.rd.drew
  rw [← HN.out] at AT
  have HL2 : Hid (Blk _ _ _ _) := ⟨L2⟩
  clear O2 L2
  go_region_held3 (fun w' => w'.cell? ⟨w1.heap.size, 1, none⟩ = some (.string (str t.text)) ∧ w'.cell? ⟨w1.heap.size, 3, none⟩ = some (.int .i64 t.at')) (go_keep) (first | (go_at_call 52; refine AT.mono ?_; rintro e w3 ⟨v3, rfl, F3, R3, NR3, nl3⟩; obtain ⟨gv, cv, rfl⟩ := own_form NR3; have s3 := F3.size; simp only [World.size_drew] at s3; have O3 := HO2.out.drew.call F3 R3; have L3 := (HL2.out.kept (grown_drew _) (fun q => by cases q)).kept F3 (fun q => by cases q; omega); have p1 : w3.cell? ⟨w1.heap.size, 1, none⟩ = some (.string (str t.text)) := L3.cell 1; have p3 : w3.cell? ⟨w1.heap.size, 3, none⟩ = some (.int .i64 t.at') := L3.cell 3; have u0 : w3.cell? ⟨w1.heap.size + 1, 0, none⟩ = some (.int .i64 0) := O3.x.cell 0; have uz0 := O3.x.z 0; have u1 : w3.cell? ⟨w1.heap.size + 1, 1, none⟩ = some (.int .i64 t.at') := O3.x.cell 1; have uz1 := O3.x.z 1; have u2 : w3.cell? ⟨w1.heap.size + 1, 2, none⟩ = some (.string ⟨#[]⟩) := O3.x.cell 2; have uz2 := O3.x.z 2; have u3 : w3.cell? ⟨w1.heap.size + 1, 3, none⟩ = some (.int .i64 0) := O3.x.cell 3; have uz3 := O3.x.z 3; have u4 : w3.cell? ⟨w1.heap.size + 1, 4, none⟩ = some (nil3) := O3.x.cell 4; have uz4 := O3.x.z 4; have u5 : w3.cell? ⟨w1.heap.size + 1, 5, none⟩ = some (nil3) := O3.x.cell 5; have uz5 := O3.x.z 5; have u6 : w3.cell? ⟨w1.heap.size + 1, 6, none⟩ = some (nil3) := O3.x.cell 6; have uz6 := O3.x.z 6; have u7 : w3.cell? ⟨w1.heap.size + 1, 7, none⟩ = some (nil3) := O3.x.cell 7; have uz7 := O3.x.z 7; have hXb : w1.heap.size + 1 < w2.drew.heap.size := (by simpa using ltX); have OE := O3.store8 (.int .i64 2) (.int .i64 t.at') (.string (str t.text)) (.int .i64 0) (.slice gv N.1.length cv) (.slice none 0 0) (.slice none 0 0) (.slice none 0 0); have NRE := (own_fr (own_fr (own_fr (own_fr (own_fr (own_fr (own_fr (own_fr NR3 (grown_set _ (w1.heap.size + 1) 0 (.int .i64 2)) hXb) (grown_set _ (w1.heap.size + 1) 1 (.int .i64 t.at')) hXb) (grown_set _ (w1.heap.size + 1) 2 (.string (str t.text))) hXb) (grown_set _ (w1.heap.size + 1) 3 (.int .i64 0)) hXb) (grown_set _ (w1.heap.size + 1) 4 (.slice gv N.1.length cv)) hXb) (grown_set _ (w1.heap.size + 1) 5 (.slice none 0 0)) hXb) (grown_set _ (w1.heap.size + 1) 6 (.slice none 0 0)) hXb) (grown_set _ (w1.heap.size + 1) 7 (.slice none 0 0)) hXb); clear F3 R3))
  all_goals rename_i hHeld
  all_goals clear hHeld
  all_goals generalize ((((((((w3.setCell ⟨w1.heap.size + 1, 0, none⟩ (.int .i64 2)).setCell ⟨w1.heap.size + 1, 1, none⟩ (.int .i64 t.at')).setCell ⟨w1.heap.size + 1, 2, none⟩ (.string (str t.text))).setCell ⟨w1.heap.size + 1, 3, none⟩ (.int .i64 0)).setCell ⟨w1.heap.size + 1, 4, none⟩ (.slice gv N.1.length cv)).setCell ⟨w1.heap.size + 1, 5, none⟩ (.slice none 0 0)).setCell ⟨w1.heap.size + 1, 6, none⟩ (.slice none 0 0)).setCell ⟨w1.heap.size + 1, 7, none⟩ (.slice none 0 0)) = WE at OE NRE ⊢
  all_goals go_wp2_with (first
    | (refine wpList_load_row rfl 47 _ rfl (w1.heap.size + 1) rfl 47 _ (0, 0) _ OE.x Tryz.underlying47 rfl size46 ?_)
    | (refine wpList_store_row rfl 47 _ _ rfl w.heap.size _ rfl rfl 47 _ OE.m size46 rfl (by simp [Value.oneCell']) ?_))
  all_goals have oo := OE.out #[.int .i64 2, .int .i64 t.at', .string (str t.text), .int .i64 0, .slice gv N.1.length cv, nil3, nil3, nil3]
  all_goals refine bodyPost_ret (results_cell_row Tryz.results30 _ _ w.heap.size 47 #[.int .i64 2, .int .i64 t.at', .string (str t.text), .int .i64 0, .slice gv N.1.length cv, nil3, nil3, nil3] (0, 0) _ rfl OE.m.set Tryz.underlying47 rfl size46) rfl ⟨oo.1, oo.2, .mk 2 t.at' t.text 0 N.1 [] [] [], _, rfl, ⟨_, rfl, ?_⟩, HQ.out⟩
  all_goals
    have NF := own_fr NRE (grown_setRow _ w.heap.size #[.int .i64 2, .int .i64 t.at', .string (str t.text), .int .i64 0, .slice gv N.1.length cv, nil3, nil3, nil3]) (by omega)
    simp only [isE]
    exact ⟨_, _, _, _, [], [], [], rfl, row_of_owns NF (fun g hg => ⟨by have := (NF.lt g hg).1; omega, (NF.lt g hg).2⟩) (by omega), isRow_nil _ _ _, by simp only [isBs], isRow_nil _ _ _, by simp only [isEs], isRow_nil _ _ _, by simp only [isAs]⟩
set_option maxRecDepth 100000 in
set_option maxHeartbeats 8000000 in
theorem exp_prim {d : Nat} {k : Int} {t : Tok} {r : List Tok} (hk : k ≤ 60) (R : RdR w b (some (t :: r)) n) (hk9 : t.kind = 3) :
    Calls Tryz.prog 30 #[ptr b, .int .i64 k] w fun e w' => Fr b w w' ∧ RdR w' b (runO (pExp (d + 1)) (some (t :: r))) n ∧ ∃ x v, e = .returned v ∧ isEV w' (new w w') x v ∧ Rt (pExp (d + 1)) (some (t :: r)) x := by
  have lt := R.lt
  have T := token_any (R.alloc (.cells zero46 47))
  have M0 := Blk.fresh w zero46 47
  have HR : Hid (RdR _ _ _ _) := ⟨R⟩
  simp only [hdO] at T
  rw [hk9] at T
  obtain ⟨hq1, hq2⟩ := app_rt (d := d) (t := t) (r := r) (by omega)
  rw [hq1]
  rw [hk9] at hq2
  obtain ⟨N, eN⟩ : ∃ N, N = atomsO (some r) := ⟨_, rfl⟩
  rw [← eN] at hq2 ⊢
  have HN : Hid (N = atomsO (some r)) := ⟨eN⟩
  have HQ : Hid _ := ⟨hq2⟩
  have hk60 : ¬ (60 : Int) < k := by omega
  clear hq1 hq2 R hk hk9 eN
  go_enter Tryz.func30, Tryz.ntmps30
  go_wp2_with (first
    | (go_at_call 27; refine T.mono ?_; rintro e w1 ⟨rfl, B1⟩; have M1 : Blk w1 w.heap.size zero46 47 := (B1.block _ M0.lt).trans M0; have lt1 := M1.lt; have O1 : Ob w ((w1.alloc (.cells #[.int .i64 3, .string (str t.text), .int .i64 t.num, .int .i64 t.at'] 58)).alloc (.cells #[.int .i64 0, .int .i64 t.at', .string ⟨#[]⟩, .int .i64 0, nil3, nil3, nil3, nil3] 47)) b w.heap.size (w1.heap.size + 1) n (some (t :: r)) zero46 47 #[.int .i64 0, .int .i64 t.at', .string ⟨#[]⟩, .int .i64 0, nil3, nil3, nil3, nil3] 47 := ⟨(((HR.out.alloc _).below B1).alloc _).alloc _, (((Fr.refl b w).alloc _).trans (Fr.of_below B1)).alloc _ |>.alloc _, (M1.alloc _).alloc _, (by have := Blk.fresh (w1.alloc (.cells #[.int .i64 3, .string (str t.text), .int .i64 t.num, .int .i64 t.at'] 58)) #[.int .i64 0, .int .i64 t.at', .string ⟨#[]⟩, .int .i64 0, nil3, nil3, nil3, nil3] 47; simpa using this), ⟨lt, Nat.le_refl _, by omega⟩⟩; have L1 := (Blk.fresh w1 #[.int .i64 3, .string (str t.text), .int .i64 t.num, .int .i64 t.at'] 58).alloc (.cells #[.int .i64 0, .int .i64 t.at', .string ⟨#[]⟩, .int .i64 0, nil3, nil3, nil3, nil3] 47); have c3 := O1.rd.bad; have c3b : w1.cell? ⟨b, 3, none⟩ = some (.bool _) := ((HR.out.alloc _).below B1).bad; have nb1 : ¬ b = w1.heap.size := Nat.ne_of_lt (Nat.lt_trans lt lt1); have nb2 : ¬ b = w1.heap.size + 1 := Nat.ne_of_lt (Nat.lt_add_right 1 (Nat.lt_trans lt lt1)); simp only [Option.isNone_some] at c3 c3b; clear B1 M1 T M0)
    | (go_at_call 13; refine (on_any O1.rd (fun l e z => by cases e; cases z)).mono ?_; rintro e w2 ⟨rfl, F2, R2⟩; simp only [Option.map_some, List.tail_cons] at R2; have O2 := O1.call F2 R2; have L2 := L1.kept F2 (fun q => by cases q; omega); have y1 : w2.cell? ⟨w1.heap.size, 1, none⟩ = some (.string (str t.text)) := L2.cell 1; have y2 : w2.cell? ⟨w1.heap.size, 2, none⟩ = some (.int .i64 t.num) := L2.cell 2; have y3 : w2.cell? ⟨w1.heap.size, 3, none⟩ = some (.int .i64 t.at') := L2.cell 3; have ltX := O2.lts.2.2; clear F2 R2 O1 L1 c3 c3b))
  have HO2 : Hid (Ob _ _ _ _ _ _ _ _ _ _ _) := ⟨O2⟩
  have AT := ratoms_any O2.rd.drew
  rw [← HN.out] at AT
  have HL2 : Hid (Blk _ _ _ _) := ⟨L2⟩
  clear O2 L2
  go_region_held3 (fun w' => w'.cell? ⟨w1.heap.size, 1, none⟩ = some (.string (str t.text)) ∧ w'.cell? ⟨w1.heap.size, 3, none⟩ = some (.int .i64 t.at')) (go_keep) (first | (go_at_call 52; refine AT.mono ?_; rintro e w3 ⟨v3, rfl, F3, R3, NR3, nl3⟩; obtain ⟨gv, cv, rfl⟩ := own_form NR3; have s3 := F3.size; simp only [World.size_drew] at s3; have O3 := HO2.out.drew.call F3 R3; have L3 := (HL2.out.kept (grown_drew _) (fun q => by cases q)).kept F3 (fun q => by cases q; omega); have p1 : w3.cell? ⟨w1.heap.size, 1, none⟩ = some (.string (str t.text)) := L3.cell 1; have p3 : w3.cell? ⟨w1.heap.size, 3, none⟩ = some (.int .i64 t.at') := L3.cell 3; have u0 : w3.cell? ⟨w1.heap.size + 1, 0, none⟩ = some (.int .i64 0) := O3.x.cell 0; have uz0 := O3.x.z 0; have u1 : w3.cell? ⟨w1.heap.size + 1, 1, none⟩ = some (.int .i64 t.at') := O3.x.cell 1; have uz1 := O3.x.z 1; have u2 : w3.cell? ⟨w1.heap.size + 1, 2, none⟩ = some (.string ⟨#[]⟩) := O3.x.cell 2; have uz2 := O3.x.z 2; have u3 : w3.cell? ⟨w1.heap.size + 1, 3, none⟩ = some (.int .i64 0) := O3.x.cell 3; have uz3 := O3.x.z 3; have u4 : w3.cell? ⟨w1.heap.size + 1, 4, none⟩ = some (nil3) := O3.x.cell 4; have uz4 := O3.x.z 4; have u5 : w3.cell? ⟨w1.heap.size + 1, 5, none⟩ = some (nil3) := O3.x.cell 5; have uz5 := O3.x.z 5; have u6 : w3.cell? ⟨w1.heap.size + 1, 6, none⟩ = some (nil3) := O3.x.cell 6; have uz6 := O3.x.z 6; have u7 : w3.cell? ⟨w1.heap.size + 1, 7, none⟩ = some (nil3) := O3.x.cell 7; have uz7 := O3.x.z 7; have hXb : w1.heap.size + 1 < w2.drew.heap.size := (by simpa using ltX); have OE := O3.store8 (.int .i64 3) (.int .i64 t.at') (.string (str t.text)) (.int .i64 0) (.slice gv N.1.length cv) (.slice none 0 0) (.slice none 0 0) (.slice none 0 0); have NRE := (own_fr (own_fr (own_fr (own_fr (own_fr (own_fr (own_fr (own_fr NR3 (grown_set _ (w1.heap.size + 1) 0 (.int .i64 3)) hXb) (grown_set _ (w1.heap.size + 1) 1 (.int .i64 t.at')) hXb) (grown_set _ (w1.heap.size + 1) 2 (.string (str t.text))) hXb) (grown_set _ (w1.heap.size + 1) 3 (.int .i64 0)) hXb) (grown_set _ (w1.heap.size + 1) 4 (.slice gv N.1.length cv)) hXb) (grown_set _ (w1.heap.size + 1) 5 (.slice none 0 0)) hXb) (grown_set _ (w1.heap.size + 1) 6 (.slice none 0 0)) hXb) (grown_set _ (w1.heap.size + 1) 7 (.slice none 0 0)) hXb); clear F3 R3))
  all_goals rename_i hHeld
  all_goals clear hHeld
  all_goals generalize ((((((((w3.setCell ⟨w1.heap.size + 1, 0, none⟩ (.int .i64 3)).setCell ⟨w1.heap.size + 1, 1, none⟩ (.int .i64 t.at')).setCell ⟨w1.heap.size + 1, 2, none⟩ (.string (str t.text))).setCell ⟨w1.heap.size + 1, 3, none⟩ (.int .i64 0)).setCell ⟨w1.heap.size + 1, 4, none⟩ (.slice gv N.1.length cv)).setCell ⟨w1.heap.size + 1, 5, none⟩ (.slice none 0 0)).setCell ⟨w1.heap.size + 1, 6, none⟩ (.slice none 0 0)).setCell ⟨w1.heap.size + 1, 7, none⟩ (.slice none 0 0)) = WE at OE NRE ⊢
  all_goals go_wp2_with (first
    | (refine wpList_load_row rfl 47 _ rfl (w1.heap.size + 1) rfl 47 _ (0, 0) _ OE.x Tryz.underlying47 rfl size46 ?_)
    | (refine wpList_store_row rfl 47 _ _ rfl w.heap.size _ rfl rfl 47 _ OE.m size46 rfl (by simp [Value.oneCell']) ?_))
  all_goals have oo := OE.out #[.int .i64 3, .int .i64 t.at', .string (str t.text), .int .i64 0, .slice gv N.1.length cv, nil3, nil3, nil3]
  all_goals refine bodyPost_ret (results_cell_row Tryz.results30 _ _ w.heap.size 47 #[.int .i64 3, .int .i64 t.at', .string (str t.text), .int .i64 0, .slice gv N.1.length cv, nil3, nil3, nil3] (0, 0) _ rfl OE.m.set Tryz.underlying47 rfl size46) rfl ⟨oo.1, oo.2, .mk 3 t.at' t.text 0 N.1 [] [] [], _, rfl, ⟨_, rfl, ?_⟩, HQ.out⟩
  all_goals
    have NF := own_fr NRE (grown_setRow _ w.heap.size #[.int .i64 3, .int .i64 t.at', .string (str t.text), .int .i64 0, .slice gv N.1.length cv, nil3, nil3, nil3]) (by omega)
    simp only [isE]
    exact ⟨_, _, _, _, [], [], [], rfl, row_of_owns NF (fun g hg => ⟨by have := (NF.lt g hg).1; omega, (NF.lt g hg).2⟩) (by omega), isRow_nil _ _ _, by simp only [isBs], isRow_nil _ _ _, by simp only [isEs], isRow_nil _ _ _, by simp only [isAs]⟩
end

end Go.Proofs.YtofgnpehlheeiaaGreatDoor

/- The document's reader: a bind. -/
namespace Go.Proofs.YtofgnpehlheeiaaGreatDoor
open Go.RowKit
set_option linter.unusedVariables false
set_option linter.unusedSimpArgs false


section
variable {w : World} {b : Nat} {o : Option (List Tok)} {n : Int}
set_option maxRecDepth 100000 in
set_option maxHeartbeats 8000000 in
theorem bind_plain {d : Nat} (hE : ExpR d) {k : Int} (hk : k = 61 - d) (R : RdR w b o n) (hs : isR [92] (runO (pWant [61]) (runO (pKind 1) o)) = false) :
    Calls Tryz.prog 16 #[ptr b, .int .i64 k] w fun e w' => Fr b w w' ∧ RdR w' b (runO (pBind (pExp d)) o) n ∧ ∃ x v, e = .returned v ∧ isBV w' (new w w') x v ∧ Rt (pBind (pExp d)) o x := by
  have lt := R.lt
  have K1 := kind_any (R.alloc (.cells zero51 51)) 1 (by decide)
  have M0 := Blk.fresh w zero51 51
  have F0 := (Fr.refl b w).alloc (.cells zero51 51)
  have HEX : Hid (ExpR d ∧ k = 61 - d) := ⟨hE, hk⟩
  obtain ⟨o1, e1⟩ : ∃ o1, o1 = runO (pKind 1) o := ⟨_, rfl⟩
  obtain ⟨o2, e2⟩ : ∃ o2, o2 = runO (pWant [61]) o1 := ⟨_, rfl⟩
  rw [← e1, ← e2] at hs
  rw [← e1] at K1
  obtain ⟨h6, hA⟩ := args_no hs
  have HA : Hid (o2 = runO pArgs o2 ∧ Rt pArgs o2 []) := ⟨h6.symm, hA⟩
  obtain ⟨Q, hQ⟩ : ∃ Q : Option (List Tok) → B → Prop, ∀ q x, Q q x ↔ (runO (pBind (pExp d)) o = q ∧ Rt (pBind (pExp d)) o x) := ⟨_, fun _ _ => Iff.rfl⟩
  have HQ : Hid (∀ (t : Tok) (x : E), Rt (pKind 1) o t → Rt (pExp d) o2 x → Q (runO (pWant [59]) (runO (pExp d) o2)) (.mk t.text t.at' [] x)) := ⟨fun t x h1 h7 => (hQ _ _).2 (bind_rt h1 e1 e2 hA h6.symm h7 rfl)⟩
  suffices Calls Tryz.prog 16 #[ptr b, .int .i64 k] w fun e w' => Fr b w w' ∧ ∃ q x v, RdR w' b q n ∧ e = .returned v ∧ isBV w' (new w w') x v ∧ Q q x by
    refine this.mono ?_
    rintro e w' ⟨h1, q, x, v, h2, h3, h4, h5⟩
    obtain ⟨h5, h6⟩ := (hQ _ _).1 h5
    rw [h5]
    exact ⟨h1, h2, x, v, h3, h4, h6⟩
  have HE2 : Hid (o2 = runO (pWant [61]) o1) := ⟨e2⟩
  have HS : Hid (isR [92] o2 = false) := ⟨hs⟩
  clear hk hE e1 e2 R hs h6 hA hQ HA
  go_enter Tryz.func16, Tryz.ntmps16
  go_wp2_with (first
    | (go_at_call 14; refine K1.mono ?_; rintro e w1 ⟨F1', R1, t, rfl, T1⟩; have HT : Hid (Rt (pKind 1) o t) := ⟨T1⟩; have F1 := F0.trans F1'; have M1 := M0.kept F1' (fun e => by cases e; omega); have WA := want_any (R1.alloc (.cells #[.int .i64 t.kind, .string (str t.text), .int .i64 t.num, .int .i64 t.at'] 58)) [61]; rw [← HE2.out, show str [61] = ⟨#[61]⟩ from rfl] at WA; have L1 := Blk.fresh w1 #[.int .i64 t.kind, .string (str t.text), .int .i64 t.num, .int .i64 t.at'] 58; have lt1 := M1.lt; clear F1' T1 R1)
    | (go_at_call_of 15 (Value.string { data := #[61] }); refine WA.mono ?_; rintro e w2 ⟨rfl, F2', R2⟩; have F2 := (F1.alloc (.cells #[.int .i64 t.kind, .string (str t.text), .int .i64 t.num, .int .i64 t.at'] 58)).trans F2'; have M2 := (M1.alloc _).kept F2' (fun e => by cases e; omega); have L2 := L1.kept F2' (fun e => by cases e; omega); have y1 : w2.cell? ⟨w1.heap.size, 1, none⟩ = some (.string (str t.text)) := L2.cell 1; have y3 : w2.cell? ⟨w1.heap.size, 3, none⟩ = some (.int .i64 t.at') := L2.cell 3; have IS := is_any (R2.alloc (.cells #[.string (str t.text), .int .i64 t.at', nil3, .int .i64 0, .int .i64 0, .string ⟨#[]⟩, .int .i64 0, nil3, nil3, nil3, nil3] 51)) [92]; rw [HS.out, show str [92] = ⟨#[92]⟩ from rfl] at IS; have lt2 := L2.lt; have O2 : Ob w (w2.alloc (.cells #[.string (str t.text), .int .i64 t.at', nil3, .int .i64 0, .int .i64 0, .string ⟨#[]⟩, .int .i64 0, nil3, nil3, nil3, nil3] 51)) b w.heap.size w2.heap.size n o2 zero51 51 #[.string (str t.text), .int .i64 t.at', nil3, .int .i64 0, .int .i64 0, .string ⟨#[]⟩, .int .i64 0, nil3, nil3, nil3, nil3] 51 := ⟨R2.alloc _, F2.alloc _, M2.alloc _, Blk.fresh w2 _ _, ⟨lt, Nat.le_refl _, M2.lt⟩⟩; clear F2' R2 F2 M2 F1 M1 L1 WA)
    | (go_at_call 12; refine IS.mono ?_; rintro e w3 ⟨rfl, B3⟩; have O3 := O2.below B3; have XP := HEX.out.1 k HEX.out.2 _ b o2 n O3.rd; have hX : w2.heap.size < w3.heap.size := O3.lts.2.2; clear B3 O2 IS)
    | (go_at_call 30; refine XP.mono ?_; rintro e w7 ⟨F7, R7, x, v7, rfl, ⟨c, rfl, E7⟩, hx⟩; obtain ⟨k', a', m', s', g4, g5, g6, g7, n4, n5, n6, n7, c4, c5, c6, c7, rfl⟩ := isE_eight E7; have HE7 : Hid (isE _ _ _ _) := ⟨E7⟩; have HX7 : Hid (Rt (pExp d) o2 x) := ⟨hx⟩; have O7 := O3.call F7 R7; have s7 := F7.size; have AB : Hid (Fr b w3 w7) := ⟨F7⟩;  have u3 : w7.cell? ⟨w2.heap.size, 3, none⟩ = some (.int .i64 0) := O7.x.cell 3; have z3 := O7.x.z 3; have u4 : w7.cell? ⟨w2.heap.size, 4, none⟩ = some (.int .i64 0) := O7.x.cell 4; have z4 := O7.x.z 4; have u5 : w7.cell? ⟨w2.heap.size, 5, none⟩ = some (.string ⟨#[]⟩) := O7.x.cell 5; have z5 := O7.x.z 5; have u6 : w7.cell? ⟨w2.heap.size, 6, none⟩ = some (.int .i64 0) := O7.x.cell 6; have z6 := O7.x.z 6; have u7 : w7.cell? ⟨w2.heap.size, 7, none⟩ = some (nil3) := O7.x.cell 7; have z7 := O7.x.z 7; have u8 : w7.cell? ⟨w2.heap.size, 8, none⟩ = some (nil3) := O7.x.cell 8; have z8 := O7.x.z 8; have u9 : w7.cell? ⟨w2.heap.size, 9, none⟩ = some (nil3) := O7.x.cell 9; have z9 := O7.x.z 9; have u10 : w7.cell? ⟨w2.heap.size, 10, none⟩ = some (nil3) := O7.x.cell 10; have z10 := O7.x.z 10; clear E7 hx F7 R7 XP O3)
    | (go_at_call_of 15 (Value.string { data := #[59] }); have O8 := O7.store11 (.int .i64 k') (.int .i64 a') (.string s') (.int .i64 m') (.slice g4 n4 c4) (.slice g5 n5 c5) (.slice g6 n6 c6) (.slice g7 n7 c7); refine (want_any O8.rd [59]).mono ?_; rintro e w9 ⟨rfl, F9, R9⟩; have O9 := O8.call F9 R9; have HF9 : Hid (Fr b _ w9) := ⟨F9⟩; clear F9 R9)
    | (refine wpList_load_row rfl 51 _ rfl w2.heap.size rfl 51 _ (0, 0) _ O9.x Tryz.underlying51 rfl size51 ?_)
    | (refine wpList_store_row rfl 51 _ _ rfl w.heap.size _ rfl rfl 51 _ O9.m size51 rfl (by simp [Value.oneCell']) ?_))
  have oo := O9.out #[.string (str t.text), .int .i64 t.at', nil3, .int .i64 k', .int .i64 a', .string s', .int .i64 m', .slice g4 n4 c4, .slice g5 n5 c5, .slice g6 n6 c6, .slice g7 n7 c7]
  refine bodyPost_ret (results_cell_row Tryz.results16 _ _ w.heap.size 51 #[.string (str t.text), .int .i64 t.at', nil3, .int .i64 k', .int .i64 a', .string s', .int .i64 m', .slice g4 n4 c4, .slice g5 n5 c5, .slice g6 n6 c6, .slice g7 n7 c7] (0, 0) _ rfl O9.m.set Tryz.underlying51 rfl size51) rfl ⟨oo.1, _, _, _, oo.2, rfl, ?_, HQ.out t x HT.out HX7.out⟩
  have A := ((Abv.refl w3.heap.size w7).set8 hX 3 (.int .i64 k') (.int .i64 a') (.string s') (.int .i64 m') (.slice g4 n4 c4) (.slice g5 n5 c5) (.slice g6 n6 c6) (.slice g7 n7 c7)).fr HF9.out (by omega)
  have K := fun cs => (A.setRow (X := w.heap.size) (by omega) cs).keeps (wv := w3) (w0 := w) (Nat.le_refl _) (by omega)
  refine ⟨[.string (str t.text), .int .i64 t.at', nil3] ++ [.int .i64 k', .int .i64 a', .string s', .int .i64 m', .slice g4 n4 c4, .slice g5 n5 c5, .slice g6 n6 c6, .slice g7 n7 c7], rfl, ?_⟩
  simp only [isB]
  exact ⟨_, _, rfl, isRow_nil _ _ _, isE_keeps (K _) x _ HE7.out⟩

set_option maxRecDepth 100000 in
set_option maxHeartbeats 8000000 in
theorem bind_args {d : Nat} (hE : ExpR d) {k : Int} (hk : k = 61 - d) (R : RdR w b o n) (hs : isR [92] (runO (pWant [61]) (runO (pKind 1) o)) = true) :
    Calls Tryz.prog 16 #[ptr b, .int .i64 k] w fun e w' => Fr b w w' ∧ RdR w' b (runO (pBind (pExp d)) o) n ∧ ∃ x v, e = .returned v ∧ isBV w' (new w w') x v ∧ Rt (pBind (pExp d)) o x := by
  have lt := R.lt
  have f1 := fieldR1
  have K1 := kind_any (R.alloc (.cells zero51 51)) 1 (by decide)
  have M0 := Blk.fresh w zero51 51
  have F0 := (Fr.refl b w).alloc (.cells zero51 51)
  have HEX : Hid (ExpR d ∧ k = 61 - d) := ⟨hE, hk⟩
  obtain ⟨o1, e1⟩ : ∃ o1, o1 = runO (pKind 1) o := ⟨_, rfl⟩
  obtain ⟨o2, e2⟩ : ∃ o2, o2 = runO (pWant [61]) o1 := ⟨_, rfl⟩
  rw [← e1, ← e2] at hs
  rw [← e1] at K1
  have hne : ∀ l, o2 = some l → l ≠ [] := fun l e z => by rw [e, z] at hs; cases hs
  have HNE : Hid (∀ l, o2 = some l → l ≠ []) := ⟨hne⟩
  have hAY := fun {u : Tok} (h : Rt (pKind 1) (o2.map List.tail) u) => args_yes hs h
  obtain ⟨o3, e3⟩ : ∃ o3, o3 = o2.map List.tail := ⟨_, rfl⟩
  rw [← e3] at hAY
  obtain ⟨o4, e4⟩ : ∃ o4, o4 = runO (pKind 1) o3 := ⟨_, rfl⟩
  rw [← e4] at hAY
  obtain ⟨N, eN⟩ : ∃ N, N = namesO o4 := ⟨_, rfl⟩
  rw [← eN] at hAY
  obtain ⟨o6, e6⟩ : ∃ o6, o6 = runO (pWant [45, 62]) N.2 := ⟨_, rfl⟩
  rw [← e6] at hAY
  obtain ⟨Q, hQ⟩ : ∃ Q : Option (List Tok) → B → Prop, ∀ q x, Q q x ↔ (runO (pBind (pExp d)) o = q ∧ Rt (pBind (pExp d)) o x) := ⟨_, fun _ _ => Iff.rfl⟩
  have HQ : Hid (∀ (t u : Tok) (x : E), Rt (pKind 1) o t → Rt (pKind 1) o3 u → Rt (pExp d) o6 x → Q (runO (pWant [59]) (runO (pExp d) o6)) (.mk t.text t.at' (u.text :: N.1) x)) := ⟨fun t u x h1 h4 h7 => (hQ _ _).2 (bind_rt h1 e1 e2 (hAY h4).2 (hAY h4).1.symm h7 rfl)⟩
  suffices Calls Tryz.prog 16 #[ptr b, .int .i64 k] w fun e w' => Fr b w w' ∧ ∃ q x v, RdR w' b q n ∧ e = .returned v ∧ isBV w' (new w w') x v ∧ Q q x by
    refine this.mono ?_
    rintro e w' ⟨h1, q, x, v, h2, h3, h4, h5⟩
    obtain ⟨h5, h6⟩ := (hQ _ _).1 h5
    rw [h5]
    exact ⟨h1, h2, x, v, h3, h4, h6⟩
  have HE2 : Hid (o2 = runO (pWant [61]) o1 ∧ o3 = o2.map List.tail ∧ o4 = runO (pKind 1) o3 ∧ N = namesO o4 ∧ o6 = runO (pWant [45, 62]) N.2) := ⟨e2, e3, e4, eN, e6⟩
  have HS : Hid (isR [92] o2 = true) := ⟨hs⟩
  obtain ⟨i0, hi, hz0, hz1, hz2⟩ := info_parts info9
  clear hk hE e1 e2 R hs e3 e4 eN e6 hAY hQ hne
  go_enter Tryz.func16, Tryz.ntmps16
  go_wp2_with (first
    | (go_at_call 14; refine K1.mono ?_; rintro e w1 ⟨F1', R1, t, rfl, T1⟩; have HT : Hid (Rt (pKind 1) o t) := ⟨T1⟩; have F1 := F0.trans F1'; have M1 := M0.kept F1' (fun e => by cases e; omega); have WA := want_any (R1.alloc (.cells #[.int .i64 t.kind, .string (str t.text), .int .i64 t.num, .int .i64 t.at'] 58)) [61]; rw [← HE2.out.1, show str [61] = ⟨#[61]⟩ from rfl] at WA; have L1 := Blk.fresh w1 #[.int .i64 t.kind, .string (str t.text), .int .i64 t.num, .int .i64 t.at'] 58; have lt1 := M1.lt; clear F1' T1 R1 K1)
    | (go_at_call_of 15 (Value.string { data := #[61] }); refine WA.mono ?_; rintro e w2 ⟨rfl, F2', R2⟩; have F2 := (F1.alloc (.cells #[.int .i64 t.kind, .string (str t.text), .int .i64 t.num, .int .i64 t.at'] 58)).trans F2'; have M2 := (M1.alloc _).kept F2' (fun e => by cases e; omega); have L2 := L1.kept F2' (fun e => by cases e; omega); have y1 : w2.cell? ⟨w1.heap.size, 1, none⟩ = some (.string (str t.text)) := L2.cell 1; have y3 : w2.cell? ⟨w1.heap.size, 3, none⟩ = some (.int .i64 t.at') := L2.cell 3; have IS := is_any (R2.alloc (.cells #[.string (str t.text), .int .i64 t.at', nil3, .int .i64 0, .int .i64 0, .string ⟨#[]⟩, .int .i64 0, nil3, nil3, nil3, nil3] 51)) [92]; rw [HS.out, show str [92] = ⟨#[92]⟩ from rfl] at IS; have lt2 := L2.lt; have O2 : Ob w (w2.alloc (.cells #[.string (str t.text), .int .i64 t.at', nil3, .int .i64 0, .int .i64 0, .string ⟨#[]⟩, .int .i64 0, nil3, nil3, nil3, nil3] 51)) b w.heap.size w2.heap.size n o2 zero51 51 #[.string (str t.text), .int .i64 t.at', nil3, .int .i64 0, .int .i64 0, .string ⟨#[]⟩, .int .i64 0, nil3, nil3, nil3, nil3] 51 := ⟨R2.alloc _, F2.alloc _, M2.alloc _, Blk.fresh w2 _ _, ⟨lt, Nat.le_refl _, M2.lt⟩⟩; clear F2' R2 F2 M2 F1 M1 L1 WA L2)
    | (go_at_call 12; refine IS.mono ?_; rintro e w3 ⟨rfl, B3⟩; have O3 := O2.below B3; have ON := on_any O3.rd HNE.out; rw [← HE2.out.2.1] at ON; clear B3 O2 IS y1 y3)
    | (go_at_call 13; refine ON.mono ?_; rintro e w4 ⟨rfl, F4, R4⟩; have O4 := O3.call F4 R4; have hX : w2.heap.size < w4.heap.size := O4.lts.2.2; clear F4 R4 O3 ON))
  have HO4 : Hid (Ob _ _ _ _ _ _ _ _ _ _ _) := ⟨O4⟩
  have KN := kind_any O4.rd.drew 1 (by decide)
  rw [← HE2.out.2.2.1] at KN
  have x2 : w4.cell? ⟨w2.heap.size, 2, none⟩ = some nil3 := O4.x.cell 2
  clear O4
  generalize hXX : w2.heap.size = X at *
  go_cut [] from 20 to 29 (fun wx => ∃ (u : Tok) (q cap : Nat), Ob w wx b w.heap.size X n o4 zero51 51 #[.string (str t.text), .int .i64 t.at', .slice (some ⟨q, 0, none⟩) 1 cap, .int .i64 0, .int .i64 0, .string ⟨#[]⟩, .int .i64 0, nil3, nil3, nil3, nil3] 51 ∧ wx.ownsRow (X + 1) 9 1 (.slice (some ⟨q, 0, none⟩) 1 cap) 1 [.string (str u.text)] ∧ Hid (Rt (pKind 1) o3 u))
  case first =>
    go_region_law (first
      | (refine step_append_lies _ (by rfl) _ _ _ (by rfl) (X + 1) 9 i0 _ 1 16 Tryz.underlying42 hi hz0 hz1 hz2 rfl (by decide) nil3 0 [] (by rfl) (World.ownsRow_nil _ _ _ _) ⟨_, 0, none⟩ 1 1 [.string (str u.text)] (by rfl) rfl new_one (by simp [Value.oneCell']) (by decide) (by unfold maxLen; omega) (by omega) (by simp; omega) _ rfl ?_; intro q5 cap5 w6 ho hg hat hlt; have O6 := (O5.alloc (.cells #[.string (str u.text)] 9)).kept hg (fun i e => by cases e); have y6 : w6.cell? ⟨X, 2, none⟩ = some nil3 := O6.x.cell 2; have z6 : w6.frozen? ⟨X, 2, none⟩ = false := O6.x.z 2; clear hg hat hlt)
      | (go_simp; go_at_call 14; refine KN.mono ?_; rintro e w5 ⟨F5, R5, u, rfl, hu⟩; have HU : Hid (Rt (pKind 1) o3 u) := ⟨hu⟩; have O5 := HO4.out.drew.call F5 R5; have y5 : w5.cell? ⟨X, 2, none⟩ = some nil3 := O5.x.cell 2; have lt5 := O5.lts.2.2; clear F5 R5 hu))
    all_goals go_wp2
    all_goals go_meet
    all_goals exact ⟨u, q5, cap5, O6.store 2 _, own_store ho 2 _, HU⟩
  case rest =>
    obtain ⟨u, q5, cap5, O7, OW7, HU⟩ := hcut
    have HO7 : Hid (Ob _ _ _ _ _ _ _ _ _ _ _) := ⟨O7⟩
    have NM := rnames_any O7.rd.drew
    rw [← HE2.out.2.2.2.1] at NM
    have x2 : wc.cell? ⟨X, 2, none⟩ = some (.slice (some ⟨q5, 0, none⟩) 1 cap5) := O7.x.cell 2
    have lb := O7.lo
    clear O7 KN HO4
    go_wp2
    go_cut [] from 30 to 37 (fun wx => ∃ (ga : Option Addr) (cap : Nat), Ob w wx b w.heap.size X n N.2 zero51 51 #[.string (str t.text), .int .i64 t.at', .slice ga (1 + N.1.length) cap, .int .i64 0, .int .i64 0, .string ⟨#[]⟩, .int .i64 0, nil3, nil3, nil3, nil3] 51 ∧ wx.ownsRow (X + 1) 9 1 (.slice ga (1 + N.1.length) cap) (1 + N.1.length) ([.string (str u.text)] ++ strC N.1) ∧ N.1.length ≤ 16384)
    case first =>
      go_region_law (first
        | (refine step_append_any (by rfl) _ _ _ (by rfl) (X + 1) 9 i0 _ 1 16 Tryz.underlying42 hi hz0 hz1 hz2 rfl (by decide) (.slice (some ⟨q5, 0, none⟩) 1 cap5) 1 [.string (str u.text)] (by rfl) OW8 _ v8 N.1.length (strC N.1) (by rfl) NR8 (by simp [strC]) (by simp [strC, Value.oneCell']) (by unfold maxLen; omega) (by omega) (by omega) ?_; intro ga9 cap9 w9 ho hg; have O9 := O8.row OW8 hg; have y9 : w9.cell? ⟨X, 2, none⟩ = some (.slice (some ⟨q5, 0, none⟩) 1 cap5) := O9.x.cell 2; have z9 : w9.frozen? ⟨X, 2, none⟩ = false := O9.x.z 2; clear hg)
        | (go_simp; go_at_call 29; refine NM.mono ?_; rintro e w8 ⟨v8, rfl, F8, R8, NR8, nl8⟩; have O8 := HO7.out.drew.call F8 R8; have OW8 := own_call OW7.drew F8 (by omega); have y8 : w8.cell? ⟨X, 2, none⟩ = some (.slice (some ⟨q5, 0, none⟩) 1 cap5) := O8.x.cell 2; have lt8 := O8.lts.2.2; clear F8 R8))
      all_goals go_wp2
      all_goals go_meet
      all_goals exact ⟨ga9, cap9, O9.store 2 _, own_store ho 2 _, nl8⟩
    case rest =>
      rename_i wd
      obtain ⟨ga, capA, O9, OW9, nl⟩ := hcut
      have WB := want_any O9.rd [45, 62]
      rw [← HE2.out.2.2.2.2, show str [45, 62] = ⟨#[45, 62]⟩ from rfl] at WB
      clear NM HO7 x2 OW7
      go_wp2_with (first
        | (go_at_call_of 15 (Value.string { data := #[45, 62] }); refine WB.mono ?_; rintro e w3 ⟨rfl, F3, R3⟩; have O3 := O9.call F3 R3; have OW3 := own_call OW9 F3 (by omega); have XP := HEX.out.1 k HEX.out.2 _ b o6 n O3.rd; have hX : X < w3.heap.size := O3.lts.2.2; clear F3 R3 O9 OW9 WB)
        | (go_at_call 30; refine XP.mono ?_; rintro e w7 ⟨F7, R7, x, v7, rfl, ⟨c, rfl, E7⟩, hx⟩; obtain ⟨k', a', m', s', g4, g5, g6, g7, n4, n5, n6, n7, c4, c5, c6, c7, rfl⟩ := isE_eight E7; have HE7 : Hid (isE _ _ _ _) := ⟨E7⟩; have HX7 : Hid (Rt (pExp d) o6 x) := ⟨hx⟩; have O7 := O3.call F7 R7; have OW7 := own_call OW3 F7 (by omega); have s7 := F7.size; have u3 : w7.cell? ⟨X, 3, none⟩ = some (.int .i64 0) := O7.x.cell 3; have z3 := O7.x.z 3; have u4 : w7.cell? ⟨X, 4, none⟩ = some (.int .i64 0) := O7.x.cell 4; have z4 := O7.x.z 4; have u5 : w7.cell? ⟨X, 5, none⟩ = some (.string ⟨#[]⟩) := O7.x.cell 5; have z5 := O7.x.z 5; have u6 : w7.cell? ⟨X, 6, none⟩ = some (.int .i64 0) := O7.x.cell 6; have z6 := O7.x.z 6; have u7 : w7.cell? ⟨X, 7, none⟩ = some (nil3) := O7.x.cell 7; have z7 := O7.x.z 7; have u8 : w7.cell? ⟨X, 8, none⟩ = some (nil3) := O7.x.cell 8; have z8 := O7.x.z 8; have u9 : w7.cell? ⟨X, 9, none⟩ = some (nil3) := O7.x.cell 9; have z9 := O7.x.z 9; have u10 : w7.cell? ⟨X, 10, none⟩ = some (nil3) := O7.x.cell 10; have z10 := O7.x.z 10; clear E7 hx F7 R7 XP O3)
        | (go_at_call_of 15 (Value.string { data := #[59] }); have O8 := O7.store11 (.int .i64 k') (.int .i64 a') (.string s') (.int .i64 m') (.slice g4 n4 c4) (.slice g5 n5 c5) (.slice g6 n6 c6) (.slice g7 n7 c7); have OW8 := own_store (own_store (own_store (own_store (own_store (own_store (own_store (own_store OW7 3 (.int .i64 k')) 4 (.int .i64 a')) 5 (.string s')) 6 (.int .i64 m')) 7 (.slice g4 n4 c4)) 8 (.slice g5 n5 c5)) 9 (.slice g6 n6 c6)) 10 (.slice g7 n7 c7); refine (want_any O8.rd [59]).mono ?_; rintro e w9 ⟨rfl, F9, R9⟩; have O9 := O8.call F9 R9; have OW9 := own_call OW8 F9 (by omega); have HF9 : Hid (Fr b _ w9) := ⟨F9⟩; clear F9 R9)
        | (refine wpList_load_row rfl 51 _ rfl X rfl 51 _ (0, 0) _ O9.x Tryz.underlying51 rfl size51 ?_)
        | (refine wpList_store_row rfl 51 _ _ rfl w.heap.size _ rfl rfl 51 _ O9.m size51 rfl (by simp [Value.oneCell']) ?_))
      have oo := O9.out #[.string (str t.text), .int .i64 t.at', .slice ga (1 + N.1.length) capA, .int .i64 k', .int .i64 a', .string s', .int .i64 m', .slice g4 n4 c4, .slice g5 n5 c5, .slice g6 n6 c6, .slice g7 n7 c7]
      refine bodyPost_ret (results_cell_row Tryz.results16 _ _ w.heap.size 51 #[.string (str t.text), .int .i64 t.at', .slice ga (1 + N.1.length) capA, .int .i64 k', .int .i64 a', .string s', .int .i64 m', .slice g4 n4 c4, .slice g5 n5 c5, .slice g6 n6 c6, .slice g7 n7 c7] (0, 0) _ rfl O9.m.set Tryz.underlying51 rfl size51) rfl ⟨oo.1, _, _, _, oo.2, rfl, ?_, HQ.out t u x HT.out HU.out HX7.out⟩
      have A := ((Abv.refl w3.heap.size w7).set8 hX 3 (.int .i64 k') (.int .i64 a') (.string s') (.int .i64 m') (.slice g4 n4 c4) (.slice g5 n5 c5) (.slice g6 n6 c6) (.slice g7 n7 c7)).fr HF9.out (by omega)
      have K := fun cs => (A.setRow (X := w.heap.size) (by omega) cs).keeps (wv := w3) (w0 := w) (Nat.le_refl _) (by omega)
      refine ⟨[.string (str t.text), .int .i64 t.at', .slice ga (1 + N.1.length) capA] ++ [.int .i64 k', .int .i64 a', .string s', .int .i64 m', .slice g4 n4 c4, .slice g5 n5 c5, .slice g6 n6 c6, .slice g7 n7 c7], rfl, ?_⟩
      simp only [isB]
      refine ⟨_, _, rfl, ?_, isE_keeps (K _) x _ HE7.out⟩
      have OF := own_new (own_kept OW9 (grown_setRow w9 w.heap.size #[.string (str t.text), .int .i64 t.at', .slice ga (1 + N.1.length) capA, .int .i64 k', .int .i64 a', .string s', .int .i64 m', .slice g4 n4 c4, .slice g5 n5 c5, .slice g6 n6 c6, .slice g7 n7 c7]) (by omega)) (w := w) (by omega) (by omega)
      rw [List.length_cons, Nat.add_comm N.1.length 1]
      exact OF
theorem rbind_any {d : Nat} (hE : ExpR d) {k : Int} (hk : k = 61 - d) (R : RdR w b o n) :
    Calls Tryz.prog 16 #[ptr b, .int .i64 k] w fun e w' => Fr b w w' ∧ RdR w' b (runO (pBind (pExp d)) o) n ∧ ∃ x v, e = .returned v ∧ isBV w' (new w w') x v ∧ Rt (pBind (pExp d)) o x := by
  cases hs : isR [92] (runO (pWant [61]) (runO (pKind 1) o)) with
  | false => exact bind_plain hE hk R hs
  | true => exact bind_args hE hk R hs
end

end Go.Proofs.YtofgnpehlheeiaaGreatDoor
