/- The document's reader: an alternative. -/
import Derived.Test.YtcbdolflgpmaoaaDoorRee
namespace Go.Proofs.YtcbdolflgpmaoaaDoor
open Go.RowKit
set_option linter.unusedVariables false
set_option linter.unusedSimpArgs false


abbrev zero102 : Array Value := #[.int .i64 0, .int .i64 0, .string ⟨#[]⟩, .int .i64 0, nil3, .int .i64 0, .int .i64 0, .string ⟨#[]⟩, .int .i64 0, nil3, nil3, nil3, nil3]
abbrev Hd : Type := Int × Int × List UInt8 × Int × List (List UInt8)
theorem alt_rt {ex : List Tok → PR E} {o oh o6 : Option (List Tok)} {h : Hd} {x : E} (h1 : Rt pHead o h) (e1 : oh = runO pHead o) (e6 : o6 = runO (pWant [45, 62]) oh) (h7 : Rt ex o6 x) :
    runO (pAlt ex) o = runO (pWant [59]) (runO ex o6) ∧ Rt (pAlt ex) o (.mk h.1 h.2.1 h.2.2.1 h.2.2.2.1 h.2.2.2.2 x) := by
  subst e1 e6
  have s1 := (Stp.mk (q := pAlt ex) (fun l => rfl)).rt h1
  have s2 := (Stp.mk (p := pWant [45, 62]) (f := fun _ r => andT (ex r) fun x r => andT (pWant [59] r) fun _ r => Except.ok (A.mk h.1 h.2.1 h.2.2.1 h.2.2.2.1 h.2.2.2.2 x, r)) (q := fun r => _) (fun l => rfl)).rt (rt_want [45, 62] (runO pHead o))
  have s4 := (Stp.mk (p := ex) (f := fun x r => andT (pWant [59] r) fun _ r => Except.ok (A.mk h.1 h.2.1 h.2.2.1 h.2.2.2.1 h.2.2.2.2 x, r)) (q := fun r => _) (fun l => rfl)).rt h7
  have s5 := (Stp.mk (p := pWant [59]) (f := fun _ r => (Except.ok (A.mk h.1 h.2.1 h.2.2.1 h.2.2.2.1 h.2.2.2.2 x, r) : PR A)) (q := fun r => _) (fun l => rfl)).rt (rt_want [59] (runO ex (runO (pWant [45, 62]) (runO pHead o))))
  have s6 := rt_ret (A.mk h.1 h.2.1 h.2.2.1 h.2.2.2.1 h.2.2.2.2 x) (runO (pWant [59]) (runO ex (runO (pWant [45, 62]) (runO pHead o))))
  exact ⟨s1.1.trans (s2.1.trans (s4.1.trans (s5.1.trans s6.1))), s1.2 _ (s2.2 _ (s4.2 _ (s5.2 _ s6.2)))⟩
theorem head_two {t : Tok} {r : List Tok} (hk : t.kind = 2) : (namesO (some r)).2 = runO pHead (some (t :: r)) ∧ Rt pHead (some (t :: r)) (1, t.at', t.text, 0, (namesO (some r)).1) := by
  have e : pHead (t :: r) = .ok ((1, t.at', t.text, 0, (pNames r).1), (pNames r).2) := by simp [pHead, hk]
  obtain ⟨h1, h2⟩ := runO_some (p := pHead) e
  exact ⟨by rw [h1]; rfl, fun y hy => by rw [h2] at hy; cases hy; rfl⟩
theorem head_four {t : Tok} {r : List Tok} (hk : t.kind = 4) : some r = runO pHead (some (t :: r)) ∧ Rt pHead (some (t :: r)) (2, t.at', [], t.num, []) := by
  have e : pHead (t :: r) = .ok ((2, t.at', [], t.num, []), r) := by simp [pHead, hk]
  obtain ⟨h1, h2⟩ := runO_some (p := pHead) e
  exact ⟨by rw [h1], fun y hy => by rw [h2] at hy; cases hy; rfl⟩
theorem head_one {t : Tok} {r : List Tok} (hk : t.kind = 1) : some r = runO pHead (some (t :: r)) ∧ Rt pHead (some (t :: r)) (3, t.at', t.text, 0, []) := by
  have e : pHead (t :: r) = .ok ((3, t.at', t.text, 0, []), r) := by simp [pHead, hk]
  obtain ⟨h1, h2⟩ := runO_some (p := pHead) e
  exact ⟨by rw [h1], fun y hy => by rw [h2] at hy; cases hy; rfl⟩
theorem hd_none3 {o : Option (List Tok)} {n : Int} (hm : ¬ ∃ t r, o = some (t :: r) ∧ (t.kind = 2 ∨ t.kind = 4 ∨ t.kind = 1)) : (none = runO pHead o ∧ ∀ h, Rt pHead o h) ∧ ∃ (a m p : Int) (s : ByteArray), hdO o n = .agg #[.int .i64 a, .string s, .int .i64 m, .int .i64 p] ∧ (a == 2) = false ∧ (a == 4) = false ∧ (a == 1) = false := by
  rcases o with _ | (_ | ⟨t, r⟩)
  · exact ⟨⟨rfl, fun h y hy => by cases hy⟩, 0, 0, n, ⟨#[]⟩, rfl, rfl, rfl, rfl⟩
  · exact ⟨⟨rfl, fun h y hy => by cases hy⟩, 0, 0, n, ⟨#[]⟩, rfl, rfl, rfl, rfl⟩
  · have h2 : ¬ t.kind = 2 := fun q => hm ⟨t, r, rfl, .inl q⟩
    have h4 : ¬ t.kind = 4 := fun q => hm ⟨t, r, rfl, .inr (.inl q)⟩
    have h1 : ¬ t.kind = 1 := fun q => hm ⟨t, r, rfl, .inr (.inr q)⟩
    exact ⟨⟨by simp [runO, pHead, h2, h4, h1], fun h y hy => by simp [valO, pHead, h2, h4, h1] at hy⟩, t.kind, t.num, t.at', str t.text, rfl, by simp [h2], by simp [h4], by simp [h1]⟩
section
variable {w : World} {b : Nat} {n : Int}
set_option maxRecDepth 100000 in
set_option maxHeartbeats 8000000 in
theorem alt_bad {d : Nat} (hE : ExpR d) {k : Int} (hk : k = 61 - d) {o : Option (List Tok)} (R : RdR w b o n) (hm : ¬ ∃ t r, o = some (t :: r) ∧ (t.kind = 2 ∨ t.kind = 4 ∨ t.kind = 1)) :
    Calls Tryd.prog 64 #[ptr b, .int .i64 k] w fun e w' => Fr b w w' ∧ RdR w' b (runO (pAlt (pExp d)) o) n ∧ ∃ x v, e = .returned v ∧ isAV w' (new w w') x v ∧ Rt (pAlt (pExp d)) o x := by
  have lt := R.lt
  have T := token_any (R.alloc (.cells zero102 92))
  have M0 := Blk.fresh w zero102 92
  have HR : Hid (RdR _ _ _ _) := ⟨R⟩
  have HEX : Hid (ExpR d ∧ k = 61 - d) := ⟨hE, hk⟩
  obtain ⟨⟨eh, hh⟩, ta, tm, tp, tx, eT, hn2, hn4, hn1⟩ := hd_none3 (n := n) hm
  rw [eT] at T
  obtain ⟨o6, e6⟩ : ∃ o6, o6 = runO (pWant [45, 62]) none := ⟨_, rfl⟩
  obtain ⟨Q, hQ⟩ : ∃ Q : Option (List Tok) → A → Prop, ∀ q x, Q q x ↔ (runO (pAlt (pExp d)) o = q ∧ Rt (pAlt (pExp d)) o x) := ⟨_, fun _ _ => Iff.rfl⟩
  have HQ : Hid (∀ (x : E), Rt (pExp d) o6 x → Q (runO (pWant [59]) (runO (pExp d) o6)) (.mk 0 tp [] 0 [] x)) := ⟨fun x h7 => (hQ _ _).2 (alt_rt (hh (0, tp, [], 0, [])) eh e6 h7)⟩
  suffices Calls Tryd.prog 64 #[ptr b, .int .i64 k] w fun e w' => Fr b w w' ∧ ∃ q x v, RdR w' b q n ∧ e = .returned v ∧ isAV w' (new w w') x v ∧ Q q x by
    refine this.mono ?_
    rintro e w' ⟨h1, q, x, v, h2, h3, h4, h5⟩
    obtain ⟨h5, h6⟩ := (hQ _ _).1 h5
    rw [h5]
    exact ⟨h1, h2, x, v, h3, h4, h6⟩
  have HE6 : Hid (o6 = runO (pWant [45, 62]) none) := ⟨e6⟩
  clear hk hE R e6 hQ  eT hm eh hh
  go_enter Tryd.func64, Tryd.ntmps64
  go_wp2_with (first
    | (go_at_call 39; refine T.mono ?_; rintro e w1 ⟨rfl, B1⟩; have M1 : Blk w1 w.heap.size zero102 92 := (B1.block _ M0.lt).trans M0; have lt1 := M1.lt; have O1 : Ob w ((w1.alloc (.cells #[.int .i64 ta, .string tx, .int .i64 tm, .int .i64 tp] 70)).alloc (.cells #[.int .i64 0, .int .i64 tp, .string ⟨#[]⟩, .int .i64 0, nil3, .int .i64 0, .int .i64 0, .string ⟨#[]⟩, .int .i64 0, nil3, nil3, nil3, nil3] 92)) b w.heap.size (w1.heap.size + 1) n o zero102 92 #[.int .i64 0, .int .i64 tp, .string ⟨#[]⟩, .int .i64 0, nil3, .int .i64 0, .int .i64 0, .string ⟨#[]⟩, .int .i64 0, nil3, nil3, nil3, nil3] 92 := ⟨(((HR.out.alloc _).below B1).alloc _).alloc _, (((Fr.refl b w).alloc _).trans (Fr.of_below B1)).alloc _ |>.alloc _, (M1.alloc _).alloc _, (by have := Blk.fresh (w1.alloc (.cells #[.int .i64 ta, .string tx, .int .i64 tm, .int .i64 tp] 70)) #[.int .i64 0, .int .i64 tp, .string ⟨#[]⟩, .int .i64 0, nil3, .int .i64 0, .int .i64 0, .string ⟨#[]⟩, .int .i64 0, nil3, nil3, nil3, nil3] 92; simpa using this), ⟨lt, Nat.le_refl _, by omega⟩⟩; have L1 := (Blk.fresh w1 #[.int .i64 ta, .string tx, .int .i64 tm, .int .i64 tp] 70).alloc (.cells #[.int .i64 0, .int .i64 tp, .string ⟨#[]⟩, .int .i64 0, nil3, .int .i64 0, .int .i64 0, .string ⟨#[]⟩, .int .i64 0, nil3, nil3, nil3, nil3] 92); clear B1 M1 T M0)
    | (go_at_call 40; refine (rfail_any O1.rd 23 (by decide)).mono ?_; rintro e w2 ⟨rfl, F2, R2⟩; have O2 := O1.call F2 R2; have ltX := O2.lts.2.2; have O5 := O2; have WB := want_any O5.rd [45, 62]; rw [← HE6.out, show str [45, 62] = ⟨#[45, 62]⟩ from rfl] at WB; clear F2 R2 O1 L1 O2)
    | (go_at_call_of 25 (Value.string { data := #[45, 62] }); refine WB.mono ?_; rintro e w3 ⟨rfl, F3, R3⟩; have s3 := F3.size; (try simp only [World.size_setCell] at s3); have O3 := O5.call F3 R3; have XP := HEX.out.1 k HEX.out.2 _ b o6 n O3.rd; have hX : w1.heap.size + 1 < w3.heap.size := O3.lts.2.2; clear F3 R3 O5 WB)
    | (go_at_call 42; refine XP.mono ?_; rintro e w7 ⟨F7, R7, x, v7, rfl, ⟨c, rfl, E7⟩, hx⟩; obtain ⟨k', a', m', s', g4, g5, g6, g7, n4, n5, n6, n7, c4, c5, c6, c7, rfl⟩ := isE_eight E7; have HE7 : Hid (isE _ _ _ _) := ⟨E7⟩; have HX7 : Hid (Rt (pExp d) o6 x) := ⟨hx⟩; have O7 := O3.call F7 R7; have s7 := F7.size; have u5 : w7.cell? ⟨w1.heap.size + 1, 5, none⟩ = some (.int .i64 0) := O7.x.cell 5; have q5 := O7.x.z 5; have u6 : w7.cell? ⟨w1.heap.size + 1, 6, none⟩ = some (.int .i64 0) := O7.x.cell 6; have q6 := O7.x.z 6; have u7 : w7.cell? ⟨w1.heap.size + 1, 7, none⟩ = some (.string ⟨#[]⟩) := O7.x.cell 7; have q7 := O7.x.z 7; have u8 : w7.cell? ⟨w1.heap.size + 1, 8, none⟩ = some (.int .i64 0) := O7.x.cell 8; have q8 := O7.x.z 8; have u9 : w7.cell? ⟨w1.heap.size + 1, 9, none⟩ = some (nil3) := O7.x.cell 9; have q9 := O7.x.z 9; have u10 : w7.cell? ⟨w1.heap.size + 1, 10, none⟩ = some (nil3) := O7.x.cell 10; have q10 := O7.x.z 10; have u11 : w7.cell? ⟨w1.heap.size + 1, 11, none⟩ = some (nil3) := O7.x.cell 11; have q11 := O7.x.z 11; have u12 : w7.cell? ⟨w1.heap.size + 1, 12, none⟩ = some (nil3) := O7.x.cell 12; have q12 := O7.x.z 12; clear E7 hx F7 R7 XP O3)
    | (go_at_call_of 25 (Value.string { data := #[59] }); have O8 := O7.store13 (.int .i64 k') (.int .i64 a') (.string s') (.int .i64 m') (.slice g4 n4 c4) (.slice g5 n5 c5) (.slice g6 n6 c6) (.slice g7 n7 c7); refine (want_any O8.rd [59]).mono ?_; rintro e w9 ⟨rfl, F9, R9⟩; have O9 := O8.call F9 R9; have HF9 : Hid (Fr b _ w9) := ⟨F9⟩; clear F9 R9)
    | (refine wpList_load_row rfl 92 _ rfl (w1.heap.size + 1) rfl 92 _ (0, 0) _ O9.x Tryd.underlying92 rfl size102 ?_)
    | (refine wpList_store_row rfl 92 _ _ rfl w.heap.size _ rfl rfl 92 _ O9.m size102 rfl (by simp [Value.oneCell']) ?_))
  have oo := O9.out #[.int .i64 0, .int .i64 tp, .string ⟨#[]⟩, .int .i64 0, nil3, .int .i64 k', .int .i64 a', .string s', .int .i64 m', .slice g4 n4 c4, .slice g5 n5 c5, .slice g6 n6 c6, .slice g7 n7 c7]
  refine bodyPost_ret (results_cell_row Tryd.results64 _ _ w.heap.size 92 #[.int .i64 0, .int .i64 tp, .string ⟨#[]⟩, .int .i64 0, nil3, .int .i64 k', .int .i64 a', .string s', .int .i64 m', .slice g4 n4 c4, .slice g5 n5 c5, .slice g6 n6 c6, .slice g7 n7 c7] (0, 0) _ rfl O9.m.set Tryd.underlying92 rfl size102) rfl ⟨oo.1, _, _, _, oo.2, rfl, ?_, HQ.out x HX7.out⟩
  have A := ((Abv.refl w3.heap.size w7).set8 hX 5 (.int .i64 k') (.int .i64 a') (.string s') (.int .i64 m') (.slice g4 n4 c4) (.slice g5 n5 c5) (.slice g6 n6 c6) (.slice g7 n7 c7)).fr HF9.out (by omega)
  have K := fun cs => (A.setRow (X := w.heap.size) (by omega) cs).keeps (wv := w3) (w0 := w) (Nat.le_refl _) (by omega)
  refine ⟨[.int .i64 0, .int .i64 tp, .string ⟨#[]⟩, .int .i64 0, nil3] ++ [.int .i64 k', .int .i64 a', .string s', .int .i64 m', .slice g4 n4 c4, .slice g5 n5 c5, .slice g6 n6 c6, .slice g7 n7 c7], rfl, ?_⟩
  simp only [isA]
  exact ⟨_, _, rfl, isRow_nil _ _ _, isE_keeps (K _) x _ HE7.out⟩
set_option maxRecDepth 100000 in
set_option maxHeartbeats 8000000 in
theorem z_alt_int {d : Nat} (hE : ExpR d) {k : Int} (hk : k = 61 - d) {t : Tok} {r : List Tok} (R : RdR w b (some (t :: r)) n) (hk9 : t.kind = 4) :
    Calls Tryd.prog 64 #[ptr b, .int .i64 k] w fun e w' => Fr b w w' ∧ RdR w' b (runO (pAlt (pExp d)) (some (t :: r))) n ∧ ∃ x v, e = .returned v ∧ isAV w' (new w w') x v ∧ Rt (pAlt (pExp d)) (some (t :: r)) x := by
  have lt := R.lt
  have T := token_any (R.alloc (.cells zero102 92))
  have M0 := Blk.fresh w zero102 92
  have HR : Hid (RdR _ _ _ _) := ⟨R⟩
  have HEX : Hid (ExpR d ∧ k = 61 - d) := ⟨hE, hk⟩
  simp only [hdO] at T
  rw [hk9] at T
  obtain ⟨eh, hh⟩ := head_four (r := r) hk9
  obtain ⟨o6, e6⟩ : ∃ o6, o6 = runO (pWant [45, 62]) (some r) := ⟨_, rfl⟩
  obtain ⟨Q, hQ⟩ : ∃ Q : Option (List Tok) → A → Prop, ∀ q x, Q q x ↔ (runO (pAlt (pExp d)) (some (t :: r)) = q ∧ Rt (pAlt (pExp d)) (some (t :: r)) x) := ⟨_, fun _ _ => Iff.rfl⟩
  have HQ : Hid (∀ (x : E), Rt (pExp d) o6 x → Q (runO (pWant [59]) (runO (pExp d) o6)) (.mk 2 t.at' [] t.num [] x)) := ⟨fun x h7 => (hQ _ _).2 (alt_rt hh eh e6 h7)⟩
  suffices Calls Tryd.prog 64 #[ptr b, .int .i64 k] w fun e w' => Fr b w w' ∧ ∃ q x v, RdR w' b q n ∧ e = .returned v ∧ isAV w' (new w w') x v ∧ Q q x by
    refine this.mono ?_
    rintro e w' ⟨h1, q, x, v, h2, h3, h4, h5⟩
    obtain ⟨h5, h6⟩ := (hQ _ _).1 h5
    rw [h5]
    exact ⟨h1, h2, x, v, h3, h4, h6⟩
  have HE6 : Hid (o6 = runO (pWant [45, 62]) (some r)) := ⟨e6⟩
  clear hk hE R e6 hQ  hk9 eh hh
  go_enter Tryd.func64, Tryd.ntmps64
  go_wp2_with (first
    | (go_at_call 39; refine T.mono ?_; rintro e w1 ⟨rfl, B1⟩; have M1 : Blk w1 w.heap.size zero102 92 := (B1.block _ M0.lt).trans M0; have lt1 := M1.lt; have O1 : Ob w ((w1.alloc (.cells #[.int .i64 4, .string (str t.text), .int .i64 t.num, .int .i64 t.at'] 70)).alloc (.cells #[.int .i64 0, .int .i64 t.at', .string ⟨#[]⟩, .int .i64 0, nil3, .int .i64 0, .int .i64 0, .string ⟨#[]⟩, .int .i64 0, nil3, nil3, nil3, nil3] 92)) b w.heap.size (w1.heap.size + 1) n (some (t :: r)) zero102 92 #[.int .i64 0, .int .i64 t.at', .string ⟨#[]⟩, .int .i64 0, nil3, .int .i64 0, .int .i64 0, .string ⟨#[]⟩, .int .i64 0, nil3, nil3, nil3, nil3] 92 := ⟨(((HR.out.alloc _).below B1).alloc _).alloc _, (((Fr.refl b w).alloc _).trans (Fr.of_below B1)).alloc _ |>.alloc _, (M1.alloc _).alloc _, (by have := Blk.fresh (w1.alloc (.cells #[.int .i64 4, .string (str t.text), .int .i64 t.num, .int .i64 t.at'] 70)) #[.int .i64 0, .int .i64 t.at', .string ⟨#[]⟩, .int .i64 0, nil3, .int .i64 0, .int .i64 0, .string ⟨#[]⟩, .int .i64 0, nil3, nil3, nil3, nil3] 92; simpa using this), ⟨lt, Nat.le_refl _, by omega⟩⟩; have L1 := (Blk.fresh w1 #[.int .i64 4, .string (str t.text), .int .i64 t.num, .int .i64 t.at'] 70).alloc (.cells #[.int .i64 0, .int .i64 t.at', .string ⟨#[]⟩, .int .i64 0, nil3, .int .i64 0, .int .i64 0, .string ⟨#[]⟩, .int .i64 0, nil3, nil3, nil3, nil3] 92); clear B1 M1 T M0)
    | (go_at_call 23; refine (on_any O1.rd (fun l e z => by cases e; cases z)).mono ?_; rintro e w2 ⟨rfl, F2, R2⟩; simp only [Option.map_some, List.tail_cons] at R2; have O2 := O1.call F2 R2; have L2 := L1.kept F2 (fun q => by cases q; omega); have y1 : w2.cell? ⟨w1.heap.size, 1, none⟩ = some (.string (str t.text)) := L2.cell 1; have y2 : w2.cell? ⟨w1.heap.size, 2, none⟩ = some (.int .i64 t.num) := L2.cell 2; have x0 : w2.cell? ⟨w1.heap.size + 1, 0, none⟩ = some (.int .i64 0) := O2.x.cell 0; have z0 := O2.x.z 0; have x2 : w2.cell? ⟨w1.heap.size + 1, 2, none⟩ = some (.string ⟨#[]⟩) := O2.x.cell 2; have z2 := O2.x.z 2; have x3 : w2.cell? ⟨w1.heap.size + 1, 3, none⟩ = some (.int .i64 0) := O2.x.cell 3; have z3 := O2.x.z 3; have x4 : w2.cell? ⟨w1.heap.size + 1, 4, none⟩ = some (nil3) := O2.x.cell 4; have z4 := O2.x.z 4; have ltX := O2.lts.2.2; clear F2 R2 O1 L1)
    | (go_at_call_of 25 (Value.string { data := #[45, 62] }); have O5 := (O2.store 0 (.int .i64 2)).store 3 (.int .i64 t.num); have WB := want_any O5.rd [45, 62]; rw [← HE6.out, show str [45, 62] = ⟨#[45, 62]⟩ from rfl] at WB; refine WB.mono ?_; rintro e w3 ⟨rfl, F3, R3⟩; have s3 := F3.size; (try simp only [World.size_setCell] at s3); have O3 := O5.call F3 R3; have XP := HEX.out.1 k HEX.out.2 _ b o6 n O3.rd; have hX : w1.heap.size + 1 < w3.heap.size := O3.lts.2.2; clear F3 R3 O5 WB x0 x2 x3 x4 z0 z2 z3 z4 y1 y2 L2 O2)
    | (go_at_call 42; refine XP.mono ?_; rintro e w7 ⟨F7, R7, x, v7, rfl, ⟨c, rfl, E7⟩, hx⟩; obtain ⟨k', a', m', s', g4, g5, g6, g7, n4, n5, n6, n7, c4, c5, c6, c7, rfl⟩ := isE_eight E7; have HE7 : Hid (isE _ _ _ _) := ⟨E7⟩; have HX7 : Hid (Rt (pExp d) o6 x) := ⟨hx⟩; have O7 := O3.call F7 R7; have s7 := F7.size; have u5 : w7.cell? ⟨w1.heap.size + 1, 5, none⟩ = some (.int .i64 0) := O7.x.cell 5; have q5 := O7.x.z 5; have u6 : w7.cell? ⟨w1.heap.size + 1, 6, none⟩ = some (.int .i64 0) := O7.x.cell 6; have q6 := O7.x.z 6; have u7 : w7.cell? ⟨w1.heap.size + 1, 7, none⟩ = some (.string ⟨#[]⟩) := O7.x.cell 7; have q7 := O7.x.z 7; have u8 : w7.cell? ⟨w1.heap.size + 1, 8, none⟩ = some (.int .i64 0) := O7.x.cell 8; have q8 := O7.x.z 8; have u9 : w7.cell? ⟨w1.heap.size + 1, 9, none⟩ = some (nil3) := O7.x.cell 9; have q9 := O7.x.z 9; have u10 : w7.cell? ⟨w1.heap.size + 1, 10, none⟩ = some (nil3) := O7.x.cell 10; have q10 := O7.x.z 10; have u11 : w7.cell? ⟨w1.heap.size + 1, 11, none⟩ = some (nil3) := O7.x.cell 11; have q11 := O7.x.z 11; have u12 : w7.cell? ⟨w1.heap.size + 1, 12, none⟩ = some (nil3) := O7.x.cell 12; have q12 := O7.x.z 12; clear E7 hx F7 R7 XP O3)
    | (go_at_call_of 25 (Value.string { data := #[59] }); have O8 := O7.store13 (.int .i64 k') (.int .i64 a') (.string s') (.int .i64 m') (.slice g4 n4 c4) (.slice g5 n5 c5) (.slice g6 n6 c6) (.slice g7 n7 c7); refine (want_any O8.rd [59]).mono ?_; rintro e w9 ⟨rfl, F9, R9⟩; have O9 := O8.call F9 R9; have HF9 : Hid (Fr b _ w9) := ⟨F9⟩; clear F9 R9)
    | (refine wpList_load_row rfl 92 _ rfl (w1.heap.size + 1) rfl 92 _ (0, 0) _ O9.x Tryd.underlying92 rfl size102 ?_)
    | (refine wpList_store_row rfl 92 _ _ rfl w.heap.size _ rfl rfl 92 _ O9.m size102 rfl (by simp [Value.oneCell']) ?_))
  have oo := O9.out #[.int .i64 2, .int .i64 t.at', .string ⟨#[]⟩, .int .i64 t.num, nil3, .int .i64 k', .int .i64 a', .string s', .int .i64 m', .slice g4 n4 c4, .slice g5 n5 c5, .slice g6 n6 c6, .slice g7 n7 c7]
  refine bodyPost_ret (results_cell_row Tryd.results64 _ _ w.heap.size 92 #[.int .i64 2, .int .i64 t.at', .string ⟨#[]⟩, .int .i64 t.num, nil3, .int .i64 k', .int .i64 a', .string s', .int .i64 m', .slice g4 n4 c4, .slice g5 n5 c5, .slice g6 n6 c6, .slice g7 n7 c7] (0, 0) _ rfl O9.m.set Tryd.underlying92 rfl size102) rfl ⟨oo.1, _, _, _, oo.2, rfl, ?_, HQ.out x HX7.out⟩
  have A := ((Abv.refl w3.heap.size w7).set8 hX 5 (.int .i64 k') (.int .i64 a') (.string s') (.int .i64 m') (.slice g4 n4 c4) (.slice g5 n5 c5) (.slice g6 n6 c6) (.slice g7 n7 c7)).fr HF9.out (by omega)
  have K := fun cs => (A.setRow (X := w.heap.size) (by omega) cs).keeps (wv := w3) (w0 := w) (Nat.le_refl _) (by omega)
  refine ⟨[.int .i64 2, .int .i64 t.at', .string ⟨#[]⟩, .int .i64 t.num, nil3] ++ [.int .i64 k', .int .i64 a', .string s', .int .i64 m', .slice g4 n4 c4, .slice g5 n5 c5, .slice g6 n6 c6, .slice g7 n7 c7], rfl, ?_⟩
  simp only [isA]
  exact ⟨_, _, rfl, isRow_nil _ _ _, isE_keeps (K _) x _ HE7.out⟩
set_option maxRecDepth 100000 in
set_option maxHeartbeats 8000000 in
theorem z_alt_all {d : Nat} (hE : ExpR d) {k : Int} (hk : k = 61 - d) {t : Tok} {r : List Tok} (R : RdR w b (some (t :: r)) n) (hk9 : t.kind = 1) :
    Calls Tryd.prog 64 #[ptr b, .int .i64 k] w fun e w' => Fr b w w' ∧ RdR w' b (runO (pAlt (pExp d)) (some (t :: r))) n ∧ ∃ x v, e = .returned v ∧ isAV w' (new w w') x v ∧ Rt (pAlt (pExp d)) (some (t :: r)) x := by
  have lt := R.lt
  have T := token_any (R.alloc (.cells zero102 92))
  have M0 := Blk.fresh w zero102 92
  have HR : Hid (RdR _ _ _ _) := ⟨R⟩
  have HEX : Hid (ExpR d ∧ k = 61 - d) := ⟨hE, hk⟩
  simp only [hdO] at T
  rw [hk9] at T
  obtain ⟨eh, hh⟩ := head_one (r := r) hk9
  obtain ⟨o6, e6⟩ : ∃ o6, o6 = runO (pWant [45, 62]) (some r) := ⟨_, rfl⟩
  obtain ⟨Q, hQ⟩ : ∃ Q : Option (List Tok) → A → Prop, ∀ q x, Q q x ↔ (runO (pAlt (pExp d)) (some (t :: r)) = q ∧ Rt (pAlt (pExp d)) (some (t :: r)) x) := ⟨_, fun _ _ => Iff.rfl⟩
  have HQ : Hid (∀ (x : E), Rt (pExp d) o6 x → Q (runO (pWant [59]) (runO (pExp d) o6)) (.mk 3 t.at' t.text 0 [] x)) := ⟨fun x h7 => (hQ _ _).2 (alt_rt hh eh e6 h7)⟩
  suffices Calls Tryd.prog 64 #[ptr b, .int .i64 k] w fun e w' => Fr b w w' ∧ ∃ q x v, RdR w' b q n ∧ e = .returned v ∧ isAV w' (new w w') x v ∧ Q q x by
    refine this.mono ?_
    rintro e w' ⟨h1, q, x, v, h2, h3, h4, h5⟩
    obtain ⟨h5, h6⟩ := (hQ _ _).1 h5
    rw [h5]
    exact ⟨h1, h2, x, v, h3, h4, h6⟩
  have HE6 : Hid (o6 = runO (pWant [45, 62]) (some r)) := ⟨e6⟩
  clear hk hE R e6 hQ  hk9 eh hh
  go_enter Tryd.func64, Tryd.ntmps64
  go_wp2_with (first
    | (go_at_call 39; refine T.mono ?_; rintro e w1 ⟨rfl, B1⟩; have M1 : Blk w1 w.heap.size zero102 92 := (B1.block _ M0.lt).trans M0; have lt1 := M1.lt; have O1 : Ob w ((w1.alloc (.cells #[.int .i64 1, .string (str t.text), .int .i64 t.num, .int .i64 t.at'] 70)).alloc (.cells #[.int .i64 0, .int .i64 t.at', .string ⟨#[]⟩, .int .i64 0, nil3, .int .i64 0, .int .i64 0, .string ⟨#[]⟩, .int .i64 0, nil3, nil3, nil3, nil3] 92)) b w.heap.size (w1.heap.size + 1) n (some (t :: r)) zero102 92 #[.int .i64 0, .int .i64 t.at', .string ⟨#[]⟩, .int .i64 0, nil3, .int .i64 0, .int .i64 0, .string ⟨#[]⟩, .int .i64 0, nil3, nil3, nil3, nil3] 92 := ⟨(((HR.out.alloc _).below B1).alloc _).alloc _, (((Fr.refl b w).alloc _).trans (Fr.of_below B1)).alloc _ |>.alloc _, (M1.alloc _).alloc _, (by have := Blk.fresh (w1.alloc (.cells #[.int .i64 1, .string (str t.text), .int .i64 t.num, .int .i64 t.at'] 70)) #[.int .i64 0, .int .i64 t.at', .string ⟨#[]⟩, .int .i64 0, nil3, .int .i64 0, .int .i64 0, .string ⟨#[]⟩, .int .i64 0, nil3, nil3, nil3, nil3] 92; simpa using this), ⟨lt, Nat.le_refl _, by omega⟩⟩; have L1 := (Blk.fresh w1 #[.int .i64 1, .string (str t.text), .int .i64 t.num, .int .i64 t.at'] 70).alloc (.cells #[.int .i64 0, .int .i64 t.at', .string ⟨#[]⟩, .int .i64 0, nil3, .int .i64 0, .int .i64 0, .string ⟨#[]⟩, .int .i64 0, nil3, nil3, nil3, nil3] 92); clear B1 M1 T M0)
    | (go_at_call 23; refine (on_any O1.rd (fun l e z => by cases e; cases z)).mono ?_; rintro e w2 ⟨rfl, F2, R2⟩; simp only [Option.map_some, List.tail_cons] at R2; have O2 := O1.call F2 R2; have L2 := L1.kept F2 (fun q => by cases q; omega); have y1 : w2.cell? ⟨w1.heap.size, 1, none⟩ = some (.string (str t.text)) := L2.cell 1; have y2 : w2.cell? ⟨w1.heap.size, 2, none⟩ = some (.int .i64 t.num) := L2.cell 2; have x0 : w2.cell? ⟨w1.heap.size + 1, 0, none⟩ = some (.int .i64 0) := O2.x.cell 0; have z0 := O2.x.z 0; have x2 : w2.cell? ⟨w1.heap.size + 1, 2, none⟩ = some (.string ⟨#[]⟩) := O2.x.cell 2; have z2 := O2.x.z 2; have x3 : w2.cell? ⟨w1.heap.size + 1, 3, none⟩ = some (.int .i64 0) := O2.x.cell 3; have z3 := O2.x.z 3; have x4 : w2.cell? ⟨w1.heap.size + 1, 4, none⟩ = some (nil3) := O2.x.cell 4; have z4 := O2.x.z 4; have ltX := O2.lts.2.2; clear F2 R2 O1 L1)
    | (go_at_call_of 25 (Value.string { data := #[45, 62] }); have O5 := (O2.store 0 (.int .i64 3)).store 2 (.string (str t.text)); have WB := want_any O5.rd [45, 62]; rw [← HE6.out, show str [45, 62] = ⟨#[45, 62]⟩ from rfl] at WB; refine WB.mono ?_; rintro e w3 ⟨rfl, F3, R3⟩; have s3 := F3.size; (try simp only [World.size_setCell] at s3); have O3 := O5.call F3 R3; have XP := HEX.out.1 k HEX.out.2 _ b o6 n O3.rd; have hX : w1.heap.size + 1 < w3.heap.size := O3.lts.2.2; clear F3 R3 O5 WB x0 x2 x3 x4 z0 z2 z3 z4 y1 y2 L2 O2)
    | (go_at_call 42; refine XP.mono ?_; rintro e w7 ⟨F7, R7, x, v7, rfl, ⟨c, rfl, E7⟩, hx⟩; obtain ⟨k', a', m', s', g4, g5, g6, g7, n4, n5, n6, n7, c4, c5, c6, c7, rfl⟩ := isE_eight E7; have HE7 : Hid (isE _ _ _ _) := ⟨E7⟩; have HX7 : Hid (Rt (pExp d) o6 x) := ⟨hx⟩; have O7 := O3.call F7 R7; have s7 := F7.size; have u5 : w7.cell? ⟨w1.heap.size + 1, 5, none⟩ = some (.int .i64 0) := O7.x.cell 5; have q5 := O7.x.z 5; have u6 : w7.cell? ⟨w1.heap.size + 1, 6, none⟩ = some (.int .i64 0) := O7.x.cell 6; have q6 := O7.x.z 6; have u7 : w7.cell? ⟨w1.heap.size + 1, 7, none⟩ = some (.string ⟨#[]⟩) := O7.x.cell 7; have q7 := O7.x.z 7; have u8 : w7.cell? ⟨w1.heap.size + 1, 8, none⟩ = some (.int .i64 0) := O7.x.cell 8; have q8 := O7.x.z 8; have u9 : w7.cell? ⟨w1.heap.size + 1, 9, none⟩ = some (nil3) := O7.x.cell 9; have q9 := O7.x.z 9; have u10 : w7.cell? ⟨w1.heap.size + 1, 10, none⟩ = some (nil3) := O7.x.cell 10; have q10 := O7.x.z 10; have u11 : w7.cell? ⟨w1.heap.size + 1, 11, none⟩ = some (nil3) := O7.x.cell 11; have q11 := O7.x.z 11; have u12 : w7.cell? ⟨w1.heap.size + 1, 12, none⟩ = some (nil3) := O7.x.cell 12; have q12 := O7.x.z 12; clear E7 hx F7 R7 XP O3)
    | (go_at_call_of 25 (Value.string { data := #[59] }); have O8 := O7.store13 (.int .i64 k') (.int .i64 a') (.string s') (.int .i64 m') (.slice g4 n4 c4) (.slice g5 n5 c5) (.slice g6 n6 c6) (.slice g7 n7 c7); refine (want_any O8.rd [59]).mono ?_; rintro e w9 ⟨rfl, F9, R9⟩; have O9 := O8.call F9 R9; have HF9 : Hid (Fr b _ w9) := ⟨F9⟩; clear F9 R9)
    | (refine wpList_load_row rfl 92 _ rfl (w1.heap.size + 1) rfl 92 _ (0, 0) _ O9.x Tryd.underlying92 rfl size102 ?_)
    | (refine wpList_store_row rfl 92 _ _ rfl w.heap.size _ rfl rfl 92 _ O9.m size102 rfl (by simp [Value.oneCell']) ?_))
  have oo := O9.out #[.int .i64 3, .int .i64 t.at', .string (str t.text), .int .i64 0, nil3, .int .i64 k', .int .i64 a', .string s', .int .i64 m', .slice g4 n4 c4, .slice g5 n5 c5, .slice g6 n6 c6, .slice g7 n7 c7]
  refine bodyPost_ret (results_cell_row Tryd.results64 _ _ w.heap.size 92 #[.int .i64 3, .int .i64 t.at', .string (str t.text), .int .i64 0, nil3, .int .i64 k', .int .i64 a', .string s', .int .i64 m', .slice g4 n4 c4, .slice g5 n5 c5, .slice g6 n6 c6, .slice g7 n7 c7] (0, 0) _ rfl O9.m.set Tryd.underlying92 rfl size102) rfl ⟨oo.1, _, _, _, oo.2, rfl, ?_, HQ.out x HX7.out⟩
  have A := ((Abv.refl w3.heap.size w7).set8 hX 5 (.int .i64 k') (.int .i64 a') (.string s') (.int .i64 m') (.slice g4 n4 c4) (.slice g5 n5 c5) (.slice g6 n6 c6) (.slice g7 n7 c7)).fr HF9.out (by omega)
  have K := fun cs => (A.setRow (X := w.heap.size) (by omega) cs).keeps (wv := w3) (w0 := w) (Nat.le_refl _) (by omega)
  refine ⟨[.int .i64 3, .int .i64 t.at', .string (str t.text), .int .i64 0, nil3] ++ [.int .i64 k', .int .i64 a', .string s', .int .i64 m', .slice g4 n4 c4, .slice g5 n5 c5, .slice g6 n6 c6, .slice g7 n7 c7], rfl, ?_⟩
  simp only [isA]
  exact ⟨_, _, rfl, isRow_nil _ _ _, isE_keeps (K _) x _ HE7.out⟩
set_option maxRecDepth 100000 in
set_option maxHeartbeats 8000000 in
theorem z_alt_con {d : Nat} (hE : ExpR d) {k : Int} (hk : k = 61 - d) {t : Tok} {r : List Tok} (R : RdR w b (some (t :: r)) n) (hk9 : t.kind = 2) :
    Calls Tryd.prog 64 #[ptr b, .int .i64 k] w fun e w' => Fr b w w' ∧ RdR w' b (runO (pAlt (pExp d)) (some (t :: r))) n ∧ ∃ x v, e = .returned v ∧ isAV w' (new w w') x v ∧ Rt (pAlt (pExp d)) (some (t :: r)) x := by
  have lt := R.lt
  have T := token_any (R.alloc (.cells zero102 92))
  have M0 := Blk.fresh w zero102 92
  have HR : Hid (RdR _ _ _ _) := ⟨R⟩
  have HEX : Hid (ExpR d ∧ k = 61 - d) := ⟨hE, hk⟩
  simp only [hdO] at T
  rw [hk9] at T
  obtain ⟨eh, hh⟩ := head_two (r := r) hk9
  obtain ⟨N, eN⟩ : ∃ N, N = namesO (some r) := ⟨_, rfl⟩
  rw [← eN] at eh hh
  obtain ⟨o6, e6⟩ : ∃ o6, o6 = runO (pWant [45, 62]) N.2 := ⟨_, rfl⟩
  obtain ⟨Q, hQ⟩ : ∃ Q : Option (List Tok) → A → Prop, ∀ q x, Q q x ↔ (runO (pAlt (pExp d)) (some (t :: r)) = q ∧ Rt (pAlt (pExp d)) (some (t :: r)) x) := ⟨_, fun _ _ => Iff.rfl⟩
  have HQ : Hid (∀ (x : E), Rt (pExp d) o6 x → Q (runO (pWant [59]) (runO (pExp d) o6)) (.mk 1 t.at' t.text 0 N.1 x)) := ⟨fun x h7 => (hQ _ _).2 (alt_rt hh eh e6 h7)⟩
  suffices Calls Tryd.prog 64 #[ptr b, .int .i64 k] w fun e w' => Fr b w w' ∧ ∃ q x v, RdR w' b q n ∧ e = .returned v ∧ isAV w' (new w w') x v ∧ Q q x by
    refine this.mono ?_
    rintro e w' ⟨h1, q, x, v, h2, h3, h4, h5⟩
    obtain ⟨h5, h6⟩ := (hQ _ _).1 h5
    rw [h5]
    exact ⟨h1, h2, x, v, h3, h4, h6⟩
  have HE6 : Hid (o6 = runO (pWant [45, 62]) N.2) := ⟨e6⟩
  have HN : Hid (N = namesO (some r)) := ⟨eN⟩
  clear hk hE R e6 hQ eN hk9 eh hh
  go_enter Tryd.func64, Tryd.ntmps64
  go_wp2_with (first
    | (go_at_call 39; refine T.mono ?_; rintro e w1 ⟨rfl, B1⟩; have M1 : Blk w1 w.heap.size zero102 92 := (B1.block _ M0.lt).trans M0; have lt1 := M1.lt; have O1 : Ob w ((w1.alloc (.cells #[.int .i64 2, .string (str t.text), .int .i64 t.num, .int .i64 t.at'] 70)).alloc (.cells #[.int .i64 0, .int .i64 t.at', .string ⟨#[]⟩, .int .i64 0, nil3, .int .i64 0, .int .i64 0, .string ⟨#[]⟩, .int .i64 0, nil3, nil3, nil3, nil3] 92)) b w.heap.size (w1.heap.size + 1) n (some (t :: r)) zero102 92 #[.int .i64 0, .int .i64 t.at', .string ⟨#[]⟩, .int .i64 0, nil3, .int .i64 0, .int .i64 0, .string ⟨#[]⟩, .int .i64 0, nil3, nil3, nil3, nil3] 92 := ⟨(((HR.out.alloc _).below B1).alloc _).alloc _, (((Fr.refl b w).alloc _).trans (Fr.of_below B1)).alloc _ |>.alloc _, (M1.alloc _).alloc _, (by have := Blk.fresh (w1.alloc (.cells #[.int .i64 2, .string (str t.text), .int .i64 t.num, .int .i64 t.at'] 70)) #[.int .i64 0, .int .i64 t.at', .string ⟨#[]⟩, .int .i64 0, nil3, .int .i64 0, .int .i64 0, .string ⟨#[]⟩, .int .i64 0, nil3, nil3, nil3, nil3] 92; simpa using this), ⟨lt, Nat.le_refl _, by omega⟩⟩; have L1 := (Blk.fresh w1 #[.int .i64 2, .string (str t.text), .int .i64 t.num, .int .i64 t.at'] 70).alloc (.cells #[.int .i64 0, .int .i64 t.at', .string ⟨#[]⟩, .int .i64 0, nil3, .int .i64 0, .int .i64 0, .string ⟨#[]⟩, .int .i64 0, nil3, nil3, nil3, nil3] 92); clear B1 M1 T M0)
    | (go_at_call 23; refine (on_any O1.rd (fun l e z => by cases e; cases z)).mono ?_; rintro e w2 ⟨rfl, F2, R2⟩; simp only [Option.map_some, List.tail_cons] at R2; have O2 := O1.call F2 R2; have L2 := L1.kept F2 (fun q => by cases q; omega); have y1 : w2.cell? ⟨w1.heap.size, 1, none⟩ = some (.string (str t.text)) := L2.cell 1; have y2 : w2.cell? ⟨w1.heap.size, 2, none⟩ = some (.int .i64 t.num) := L2.cell 2; have x0 : w2.cell? ⟨w1.heap.size + 1, 0, none⟩ = some (.int .i64 0) := O2.x.cell 0; have z0 := O2.x.z 0; have x2 : w2.cell? ⟨w1.heap.size + 1, 2, none⟩ = some (.string ⟨#[]⟩) := O2.x.cell 2; have z2 := O2.x.z 2; have x3 : w2.cell? ⟨w1.heap.size + 1, 3, none⟩ = some (.int .i64 0) := O2.x.cell 3; have z3 := O2.x.z 3; have x4 : w2.cell? ⟨w1.heap.size + 1, 4, none⟩ = some (nil3) := O2.x.cell 4; have z4 := O2.x.z 4; have ltX := O2.lts.2.2; clear F2 R2 O1 L1)
    | (go_at_call 41; have O4 := (O2.store 0 (.int .i64 1)).store 2 (.string (str t.text)); have NM := rnames_any O4.rd; rw [← HN.out] at NM; refine NM.mono ?_; rintro e w5 ⟨v5, rfl, F5, R5, NR5, nl5⟩; obtain ⟨gv, cv, rfl⟩ := own_form NR5; have s5 := F5.size; simp only [World.size_setCell] at s5 NR5; have O5' := O4.call F5 R5; have x4' : w5.cell? ⟨w1.heap.size + 1, 4, none⟩ = some nil3 := O5'.x.cell 4; have z4' := O5'.x.z 4; clear F5 R5 O4 O2 NM x0 x2 x3 x4 z0 z2 z3 z4 y1 y2 L2)
    | (go_at_call_of 25 (Value.string { data := #[45, 62] }); have O5 := O5'.store 4 (.slice gv N.1.length cv); have NR := own_fr NR5 (z_grown_set w5 (w1.heap.size + 1) 4 (.slice gv N.1.length cv)) (by omega); have WB := want_any O5.rd [45, 62]; rw [← HE6.out, show str [45, 62] = ⟨#[45, 62]⟩ from rfl] at WB; refine WB.mono ?_; rintro e w3 ⟨rfl, F3, R3⟩; have s3 := F3.size; (try simp only [World.size_setCell] at s3); have O3 := O5.call F3 R3; have NR3 := own_fr NR F3 (by omega); have XP := HEX.out.1 k HEX.out.2 _ b o6 n O3.rd; have hX : w1.heap.size + 1 < w3.heap.size := O3.lts.2.2; clear F3 R3 O5 O5' NR NR5 x4' z4' WB)
    | (go_at_call 42; refine XP.mono ?_; rintro e w7 ⟨F7, R7, x, v7, rfl, ⟨c, rfl, E7⟩, hx⟩; obtain ⟨k', a', m', s', g4, g5, g6, g7, n4, n5, n6, n7, c4, c5, c6, c7, rfl⟩ := isE_eight E7; have HE7 : Hid (isE _ _ _ _) := ⟨E7⟩; have HX7 : Hid (Rt (pExp d) o6 x) := ⟨hx⟩; have O7 := O3.call F7 R7; have NR7 := own_fr NR3 F7 (by omega); have s7 := F7.size; have u5 : w7.cell? ⟨w1.heap.size + 1, 5, none⟩ = some (.int .i64 0) := O7.x.cell 5; have q5 := O7.x.z 5; have u6 : w7.cell? ⟨w1.heap.size + 1, 6, none⟩ = some (.int .i64 0) := O7.x.cell 6; have q6 := O7.x.z 6; have u7 : w7.cell? ⟨w1.heap.size + 1, 7, none⟩ = some (.string ⟨#[]⟩) := O7.x.cell 7; have q7 := O7.x.z 7; have u8 : w7.cell? ⟨w1.heap.size + 1, 8, none⟩ = some (.int .i64 0) := O7.x.cell 8; have q8 := O7.x.z 8; have u9 : w7.cell? ⟨w1.heap.size + 1, 9, none⟩ = some (nil3) := O7.x.cell 9; have q9 := O7.x.z 9; have u10 : w7.cell? ⟨w1.heap.size + 1, 10, none⟩ = some (nil3) := O7.x.cell 10; have q10 := O7.x.z 10; have u11 : w7.cell? ⟨w1.heap.size + 1, 11, none⟩ = some (nil3) := O7.x.cell 11; have q11 := O7.x.z 11; have u12 : w7.cell? ⟨w1.heap.size + 1, 12, none⟩ = some (nil3) := O7.x.cell 12; have q12 := O7.x.z 12; clear E7 hx F7 R7 XP O3)
    | (go_at_call_of 25 (Value.string { data := #[59] }); have O8 := O7.store13 (.int .i64 k') (.int .i64 a') (.string s') (.int .i64 m') (.slice g4 n4 c4) (.slice g5 n5 c5) (.slice g6 n6 c6) (.slice g7 n7 c7); refine (want_any O8.rd [59]).mono ?_; rintro e w9 ⟨rfl, F9, R9⟩; have O9 := O8.call F9 R9; have HF9 : Hid (Fr b _ w9) := ⟨F9⟩; have hXb : w1.heap.size + 1 < w2.heap.size := ltX; have NR8 := own_fr (own_fr (own_fr (own_fr (own_fr (own_fr (own_fr (own_fr (own_fr NR7 (z_grown_set _ (w1.heap.size + 1) 5 (.int .i64 k')) hXb) (z_grown_set _ (w1.heap.size + 1) 6 (.int .i64 a')) hXb) (z_grown_set _ (w1.heap.size + 1) 7 (.string s')) hXb) (z_grown_set _ (w1.heap.size + 1) 8 (.int .i64 m')) hXb) (z_grown_set _ (w1.heap.size + 1) 9 (.slice g4 n4 c4)) hXb) (z_grown_set _ (w1.heap.size + 1) 10 (.slice g5 n5 c5)) hXb) (z_grown_set _ (w1.heap.size + 1) 11 (.slice g6 n6 c6)) hXb) (z_grown_set _ (w1.heap.size + 1) 12 (.slice g7 n7 c7)) hXb) F9 (by omega); clear F9 R9)
    | (refine wpList_load_row rfl 92 _ rfl (w1.heap.size + 1) rfl 92 _ (0, 0) _ O9.x Tryd.underlying92 rfl size102 ?_)
    | (refine wpList_store_row rfl 92 _ _ rfl w.heap.size _ rfl rfl 92 _ O9.m size102 rfl (by simp [Value.oneCell']) ?_))
  have oo := O9.out #[.int .i64 1, .int .i64 t.at', .string (str t.text), .int .i64 0, (.slice gv N.1.length cv), .int .i64 k', .int .i64 a', .string s', .int .i64 m', .slice g4 n4 c4, .slice g5 n5 c5, .slice g6 n6 c6, .slice g7 n7 c7]
  refine bodyPost_ret (results_cell_row Tryd.results64 _ _ w.heap.size 92 #[.int .i64 1, .int .i64 t.at', .string (str t.text), .int .i64 0, (.slice gv N.1.length cv), .int .i64 k', .int .i64 a', .string s', .int .i64 m', .slice g4 n4 c4, .slice g5 n5 c5, .slice g6 n6 c6, .slice g7 n7 c7] (0, 0) _ rfl O9.m.set Tryd.underlying92 rfl size102) rfl ⟨oo.1, _, _, _, oo.2, rfl, ?_, HQ.out x HX7.out⟩
  have A := ((Abv.refl w3.heap.size w7).set8 hX 5 (.int .i64 k') (.int .i64 a') (.string s') (.int .i64 m') (.slice g4 n4 c4) (.slice g5 n5 c5) (.slice g6 n6 c6) (.slice g7 n7 c7)).fr HF9.out (by omega)
  have K := fun cs => (A.setRow (X := w.heap.size) (by omega) cs).keeps (wv := w3) (w0 := w) (Nat.le_refl _) (by omega)
  refine ⟨[.int .i64 1, .int .i64 t.at', .string (str t.text), .int .i64 0, (.slice gv N.1.length cv)] ++ [.int .i64 k', .int .i64 a', .string s', .int .i64 m', .slice g4 n4 c4, .slice g5 n5 c5, .slice g6 n6 c6, .slice g7 n7 c7], rfl, ?_⟩
  simp only [isA]
  refine ⟨_, _, rfl, ?_, isE_keeps (K _) x _ HE7.out⟩
  have NF := own_fr NR8 (grown_setRow w9 w.heap.size #[.int .i64 1, .int .i64 t.at', .string (str t.text), .int .i64 0, (.slice gv N.1.length cv), .int .i64 k', .int .i64 a', .string s', .int .i64 m', .slice g4 n4 c4, .slice g5 n5 c5, .slice g6 n6 c6, .slice g7 n7 c7]) (by omega)
  exact row_of_owns NF (fun g hg => ⟨by have := (NF.lt g hg).1; omega, (NF.lt g hg).2⟩) (by omega)
theorem ralt_any {d : Nat} (hE : ExpR d) {k : Int} (hk : k = 61 - d) {o : Option (List Tok)} (R : RdR w b o n) :
    Calls Tryd.prog 64 #[ptr b, .int .i64 k] w fun e w' => Fr b w w' ∧ RdR w' b (runO (pAlt (pExp d)) o) n ∧ ∃ x v, e = .returned v ∧ isAV w' (new w w') x v ∧ Rt (pAlt (pExp d)) o x := by
  by_cases hm : ∃ t r, o = some (t :: r) ∧ (t.kind = 2 ∨ t.kind = 4 ∨ t.kind = 1)
  · obtain ⟨t, r, rfl, h | h | h⟩ := hm
    · exact z_alt_con hE hk R h
    · exact z_alt_int hE hk R h
    · exact z_alt_all hE hk R h
  · exact alt_bad hE hk R hm
end

end Go.Proofs.YtcbdolflgpmaoaaDoor

