/- Package tree's parser: expressions: by induction on how deep they may go. -/
import Derived.Test.YtoedeedoecdajaaDoorCases
namespace Go.Proofs.YtoedeedoecdajaaDoor
open Go.RowKit
set_option linter.unusedVariables false
set_option linter.unusedSimpArgs false

/-- at the text's end -/
theorem exp_end_pure (d : Nat) : pExp d [] = .error (23, []) := by cases d <;> rfl
set_option maxRecDepth 100000 in
set_option maxHeartbeats 8000000 in
theorem exp_end {d : Nat} {k : Int} {w : World} {b : Nat} {n : Int} (R : Rd w b [] n 0) : Calls Tryd.prog 77 #[ptr b, .int .i64 k] w (Ans b n w isEV (pExp d [])) := by
  have lt := R.lt
  rw [exp_end_pure]
  obtain ⟨ga, cap, c0, _⟩ := R.c0
  have lt1 : b < w.heap.size + 1 := by omega
  have lt2 : b < w.heap.size + 1 + 1 := by omega
  have L := fun o => look_any (R.alloc o)
  simp only [hdV] at L
  have PA := fun o o' o2 => pass_any (((R.alloc o).alloc o').alloc o2) (s := [40]) (by decide) (by decide)
  have e0 : pWant [40] [] = .error (23, []) := rfl
  simp only [e0] at PA
  rw [show str [40] = ⟨#[40]⟩ from rfl] at PA
  clear R
  by_cases hk : 60 < k
  · go_enter Tryd.func77, Tryd.ntmps77
    go_wp2_with (first
      | (go_at_call 22; refine (L _).mono ?_; rintro e w1 ⟨rfl, o, rfl⟩)
      | (go_at_call 68; refine (PA _ _ _).mono ?_; rintro e w2 ⟨F2, rfl, R2⟩))
    exact ⟨rfl, Ans.err (((((Fr.refl b w).alloc _).alloc _).alloc _).trans F2) R2⟩
  · go_enter Tryd.func77, Tryd.ntmps77
    go_wp2_with (first
      | (go_at_call 22; refine (L _).mono ?_; rintro e w1 ⟨rfl, o, rfl⟩)
      | (go_at_call 68; refine (PA _ _ _).mono ?_; rintro e w2 ⟨F2, rfl, R2⟩))
    exact ⟨rfl, Ans.err (((((Fr.refl b w).alloc _).alloc _).alloc _).trans F2) R2⟩
set_option maxRecDepth 100000 in
set_option maxHeartbeats 8000000 in
theorem exp_zero : ExpOK 0 := by
  intro k hk w b l n R
  cases l with
  | nil => exact exp_end R
  | cons t r =>
    have lt := R.lt
    obtain ⟨g, off, cap, c0, _, _, hg, _⟩ := R.next
    have lt1 : b < w.heap.size + 1 := by omega
    have lt2 : b < w.heap.size + 1 + 1 := by omega
    have L := fun o => look_any (R.alloc o)
    simp only [hdV] at L
    have U := fun o o' o2 => giveUp_any (((R.alloc o).alloc o').alloc o2) 24
    have hk1 : 60 < k := by omega
    have zl : (0 : Int) < r.length + 1 := by omega
    clear hk
    rw [show pExp 0 (t :: r) = .error (24, t :: r) from rfl]
    go_enter Tryd.func77, Tryd.ntmps77
    go_wp2_with (first
      | (go_at_call 22; refine (L _).mono ?_; rintro e w1 ⟨rfl, o, rfl⟩)
      | (go_at_call 76; refine (U _ _ _).mono ?_; rintro e w2 ⟨rfl, rfl⟩))
    exact ⟨rfl, Ans.err (((((Fr.refl b w).set 2 _).alloc _).alloc _).alloc _) ((((R.wrong 24).alloc _).alloc _).alloc _)⟩
set_option maxRecDepth 100000 in
set_option maxHeartbeats 2000000 in
theorem exp_call {d : Nat} {k : Int} (hk1 : ¬ 60 < k) {w : World} {b : Nat} {t : Tok} {r : List Tok} {n : Int} (R : Rd w b (t :: r) n 0) (kk : t.kind = 1 ∨ t.kind = 2 ∨ t.kind = 3) :
    Calls Tryd.prog 77 #[ptr b, .int .i64 k] w (Ans b n w isEV (pExp (d + 1) (t :: r))) := by
  have lt := R.lt
  have L := fun o => look_any (R.alloc o)
  simp only [hdV] at L
  have SB := fun o => call_any (((R.alloc (.cells #[.int .i64 0, .int .i64 0, .string ⟨#[]⟩, .int .i64 0, nil3, nil3, nil3, nil3] 46)).alloc o).alloc (.cells #[.int .i64 t.kind, .string (str t.text), .int .i64 t.num, .int .i64 t.at'] 39)) kk
  have k4 : ¬ t.kind = 4 := by omega
  have HP : Hid (pExp (d + 1) (t :: r) = .ok (.mk t.kind t.at' t.text 0 (pAtoms r).1 [] [] [], (pAtoms r).2)) := ⟨by simp only [pExp]; rw [if_neg k4, if_pos kk]⟩
  clear k4 R
  obtain ⟨kind, text, num, at'⟩ := t
  dsimp only at L SB kk HP ⊢
  rcases kk with kk | kk | kk
  all_goals
    subst kk
    go_enter Tryd.func77, Tryd.ntmps77
    go_wp2_with (first
      | (go_at_call 22; refine (L _).mono ?_; rintro e w1 ⟨rfl, o, rfl⟩)
      | (go_at_call 85; refine (SB o).mono ?_; rintro e w2 ⟨F2, v2, rfl, ⟨c, rfl, I2⟩, R2⟩; obtain ⟨k0, a0, m0, s0, g4, g5, g6, g7, n4, n5, n6, n7, c4, c5, c6, c7, rfl⟩ := isE_eight I2; have M2 := (((Blk.fresh w #[.int .i64 0, .int .i64 0, .string ⟨#[]⟩, .int .i64 0, nil3, nil3, nil3, nil3] 46).alloc o).alloc _).kept F2 (fun e => by cases e; omega); have HE : Hid (isE _ _ _ _) := ⟨I2⟩; clear I2)
      | (refine wpList_store_row rfl 46 _ _ rfl w.heap.size _ rfl rfl 46 _ M2 size46 rfl (by simp [Value.oneCell']) ?_))
    rw [HP.out]
    refine bodyPost_ret (results_cell_row Tryd.results77 _ _ w.heap.size 46 _ (0, 0) _ rfl M2.set Tryd.underlying46 rfl size46) rfl (Ans.ok ((((((Fr.refl b w).alloc _).alloc _).alloc _).trans F2).setRow (Nat.le_refl _) _) (R2.setRow lt _) ?_)
    exact ⟨_, rfl, isE_keeps (keeps_set (by simp; omega) (by simp; omega)) _ _ HE.out⟩
set_option maxRecDepth 100000 in
set_option maxHeartbeats 2000000 in
theorem exp_let {d : Nat} (hE : ExpOK d) {k : Int} (hk : k = 60 - d) (h0 : 0 ≤ k) {w : World} {b : Nat} {t : Tok} {r : List Tok} {n : Int} (R : Rd w b (t :: r) n 0) (kk : ¬ (t.kind = 1 ∨ t.kind = 2 ∨ t.kind = 3)) (k4 : ¬ t.kind = 4) (hs : isS [108, 101, 116] (t :: r) = true) :
    Calls Tryd.prog 77 #[ptr b, .int .i64 k] w (Ans b n w isEV (pExp (d + 1) (t :: r))) := by
  have lt := R.lt
  have L := fun o => look_any (R.alloc o)
  simp only [hdV] at L
  have hk1 : ¬ 60 < k := by omega
  have E1 : (str t.text).toList = t.text := by rw [ByteArray.toList_eq, str_list]
  have e1 : (t.kind == 1) = false := by simp; omega
  have e2 : (t.kind == 2) = false := by simp; omega
  have e3 : (t.kind == 3) = false := by simp; omega
  have e4 : (t.kind == 4) = false := by simp; omega
  
  
  have sc := R.g.stands (s := [108, 101, 116]) (by decide)
  have tc : ((str t.text).toList == [108, 101, 116]) = true := by rw [E1]; rw [hs] at sc; simpa using sc.symm
  have SB := fun o => let_any hE hk h0 (((R.alloc (.cells #[.int .i64 0, .int .i64 0, .string ⟨#[]⟩, .int .i64 0, nil3, nil3, nil3, nil3] 46)).alloc o).alloc (.cells #[.int .i64 t.kind, .string (str t.text), .int .i64 t.num, .int .i64 t.at'] 39)) hs
  have HP : Hid (pExp (d + 1) (t :: r) = pLet d t r) := ⟨by simp only [pExp]; rw [if_neg k4, if_neg kk, if_pos hs]; rfl⟩
  clear R hE hk h0 kk k4 hs E1 sc 
  go_enter Tryd.func77, Tryd.ntmps77
  go_wp2_with (first
    | (go_at_call 22; refine (L _).mono ?_; rintro e w1 ⟨rfl, o, rfl⟩)
    | (go_at_call 86; refine (SB o).mono ?_; intro e w2 h2; rcases h2.cases with ⟨x2, r2, v2, hp2, rfl, F2, ⟨c, rfl, I2⟩, R2⟩ | ⟨c2, r2, hp2, rfl, F2, R2⟩; obtain ⟨k0, a0, m0, s0, g4, g5, g6, g7, n4, n5, n6, n7, c4, c5, c6, c7, rfl⟩ := isE_eight I2; have M2 := (((Blk.fresh w #[.int .i64 0, .int .i64 0, .string ⟨#[]⟩, .int .i64 0, nil3, nil3, nil3, nil3] 46).alloc o).alloc _).kept F2 (fun e => by cases e; omega); have HE : Hid (isE _ _ _ _) := ⟨I2⟩; clear I2)
    | (refine wpList_store_row rfl 46 _ _ rfl w.heap.size _ rfl rfl 46 _ M2 size46 rfl (by simp [Value.oneCell']) ?_))
  · rw [HP.out, hp2]
    refine bodyPost_ret (results_cell_row Tryd.results77 _ _ w.heap.size 46 _ (0, 0) _ rfl M2.set Tryd.underlying46 rfl size46) rfl (Ans.ok ((((((Fr.refl b w).alloc _).alloc _).alloc _).trans F2).setRow (Nat.le_refl _) _) (R2.setRow lt _) ?_)
    exact ⟨_, rfl, isE_keeps (keeps_set (by simp; omega) (by simp; omega)) x2 _ HE.out⟩
  · exact ⟨rfl, Ans.of_err (((((Fr.refl b w).alloc _).alloc _).alloc _).trans F2) R2 (by rw [HP.out, hp2])⟩
set_option maxRecDepth 100000 in
set_option maxHeartbeats 2000000 in
theorem exp_case {d : Nat} (hE : ExpOK d) {k : Int} (hk : k = 60 - d) (h0 : 0 ≤ k) {w : World} {b : Nat} {t : Tok} {r : List Tok} {n : Int} (R : Rd w b (t :: r) n 0) (kk : ¬ (t.kind = 1 ∨ t.kind = 2 ∨ t.kind = 3)) (k4 : ¬ t.kind = 4) (hl : isS [108, 101, 116] (t :: r) = false) (hs : isS [99, 97, 115, 101] (t :: r) = true) :
    Calls Tryd.prog 77 #[ptr b, .int .i64 k] w (Ans b n w isEV (pExp (d + 1) (t :: r))) := by
  have lt := R.lt
  have L := fun o => look_any (R.alloc o)
  simp only [hdV] at L
  have hk1 : ¬ 60 < k := by omega
  have E1 : (str t.text).toList = t.text := by rw [ByteArray.toList_eq, str_list]
  have e1 : (t.kind == 1) = false := by simp; omega
  have e2 : (t.kind == 2) = false := by simp; omega
  have e3 : (t.kind == 3) = false := by simp; omega
  have e4 : (t.kind == 4) = false := by simp; omega
  have sl := R.g.stands (s := [108, 101, 116]) (by decide)
  have tn : ((str t.text).toList == [108, 101, 116]) = false := by rw [E1]; rw [hl] at sl; simpa using sl.symm
  have sc := R.g.stands (s := [99, 97, 115, 101]) (by decide)
  have tc : ((str t.text).toList == [99, 97, 115, 101]) = true := by rw [E1]; rw [hs] at sc; simpa using sc.symm
  have SB := fun o => case_any hE hk h0 (((R.alloc (.cells #[.int .i64 0, .int .i64 0, .string ⟨#[]⟩, .int .i64 0, nil3, nil3, nil3, nil3] 46)).alloc o).alloc (.cells #[.int .i64 t.kind, .string (str t.text), .int .i64 t.num, .int .i64 t.at'] 39)) hs
  have HP : Hid (pExp (d + 1) (t :: r) = pCase d t r) := ⟨by simp only [pExp]; rw [if_neg k4, if_neg kk, hl, if_neg (by simp), if_pos hs]; rfl⟩
  clear R hE hk h0 kk k4 hs E1 sc sl hl
  go_enter Tryd.func77, Tryd.ntmps77
  go_wp2_with (first
    | (go_at_call 22; refine (L _).mono ?_; rintro e w1 ⟨rfl, o, rfl⟩)
    | (go_at_call 87; refine (SB o).mono ?_; intro e w2 h2; rcases h2.cases with ⟨x2, r2, v2, hp2, rfl, F2, ⟨c, rfl, I2⟩, R2⟩ | ⟨c2, r2, hp2, rfl, F2, R2⟩; obtain ⟨k0, a0, m0, s0, g4, g5, g6, g7, n4, n5, n6, n7, c4, c5, c6, c7, rfl⟩ := isE_eight I2; have M2 := (((Blk.fresh w #[.int .i64 0, .int .i64 0, .string ⟨#[]⟩, .int .i64 0, nil3, nil3, nil3, nil3] 46).alloc o).alloc _).kept F2 (fun e => by cases e; omega); have HE : Hid (isE _ _ _ _) := ⟨I2⟩; clear I2)
    | (refine wpList_store_row rfl 46 _ _ rfl w.heap.size _ rfl rfl 46 _ M2 size46 rfl (by simp [Value.oneCell']) ?_))
  · rw [HP.out, hp2]
    refine bodyPost_ret (results_cell_row Tryd.results77 _ _ w.heap.size 46 _ (0, 0) _ rfl M2.set Tryd.underlying46 rfl size46) rfl (Ans.ok ((((((Fr.refl b w).alloc _).alloc _).alloc _).trans F2).setRow (Nat.le_refl _) _) (R2.setRow lt _) ?_)
    exact ⟨_, rfl, isE_keeps (keeps_set (by simp; omega) (by simp; omega)) x2 _ HE.out⟩
  · exact ⟨rfl, Ans.of_err (((((Fr.refl b w).alloc _).alloc _).alloc _).trans F2) R2 (by rw [HP.out, hp2])⟩

end Go.Proofs.YtoedeedoecdajaaDoor
