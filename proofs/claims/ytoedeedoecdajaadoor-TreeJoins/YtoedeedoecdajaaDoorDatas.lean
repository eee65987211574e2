/- Package tree's parser: datas. -/
import Derived.Test.YtoedeedoecdajaaDoorForms
namespace Go.Proofs.YtoedeedoecdajaaDoor
open Go.RowKit
set_option linter.unusedVariables false
set_option linter.unusedSimpArgs false

def isDV (w : World) (ok : Nat → Prop) (x : D) (v : Value) : Prop := v = .agg #[.string (str x.name), .int .i64 x.arity, .int .i64 x.at']
theorem size55 : (Tryd.prog.info? 55).map (·.size) = some 3 := by kernel_rfl

set_option maxRecDepth 100000 in
set_option maxHeartbeats 8000000 in
theorem data_any {w : World} {b : Nat} {t : Tok} {r : List Tok} {n : Int} (R : Rd w b (t :: r) n 0) (hs : isS [100, 97, 116, 97] (t :: r) = true) :
    Calls Tryd.prog 36 #[ptr b] w (Ans b n w isDV (pData r)) := by
  have lt := R.lt
  have P0 := fun o => pass_any (R.alloc o) (s := [100, 97, 116, 97]) (by decide) (by decide)
  have e0 : pWant [100, 97, 116, 97] (t :: r) = .ok ((), r) := by simp [pWant, hs]
  simp only [e0] at P0
  rw [show str [100, 97, 116, 97] = ⟨#[100, 97, 116, 97]⟩ from rfl] at P0
  unfold pData
  clear R hs e0
  rcases pKind_cases 2 r with ⟨c, q, rfl, ck, h1⟩ | h1
  · rw [h1]
    clear ck
    simp only [andT]
    rcases pKind_cases 4 q with ⟨u, q2, rfl, uk, h2⟩ | h2
    · rw [h2]
      clear uk
      simp only
      rcases h3 : pWant [59] q2 with ⟨c3, q3⟩ | ⟨_, q3⟩
      · simp only
        go_enter Tryd.func36, Tryd.ntmps36
        go_wp2_with (first
      | (go_at_call_of 68 (Value.string { data := #[100, 97, 116, 97] }); refine (P0 _).mono ?_; rintro e w1 ⟨F1, v1, rfl, rfl, R1⟩; have M1 := (Blk.fresh w #[.string ⟨#[]⟩, .int .i64 0, .int .i64 0] 55).kept F1 (fun e => by cases e; omega); have F1' := ((Fr.refl b w).alloc _).trans F1; have TA := take_any R1 2 (by decide); rw [h1] at TA; clear F1)
      | (go_at_call_of 69 (Value.int .i64 2); refine TA.mono ?_; rintro e w2 ⟨F2, v2, rfl, rfl, R2⟩; unfold hdV; have M2 := (M1.kept F2 (fun e => by cases e; omega)).alloc (.cells #[.int .i64 c.kind, .string (str c.text), .int .i64 c.num, .int .i64 c.at'] 39); have B2 := Blk.fresh w2 #[.int .i64 c.kind, .string (str c.text), .int .i64 c.num, .int .i64 c.at'] 39; have F2' := (F1'.trans F2).alloc (.cells #[.int .i64 c.kind, .string (str c.text), .int .i64 c.num, .int .i64 c.at'] 39); have TB := take_any (R2.alloc (.cells #[.int .i64 c.kind, .string (str c.text), .int .i64 c.num, .int .i64 c.at'] 39)) 4 (by decide); rw [h2] at TB; have r2 := R2.lt; clear F2 TA)
      | (go_at_call_of 69 (Value.int .i64 4); refine TB.mono ?_; rintro e w3 ⟨F3, v3, rfl, rfl, R3⟩; unfold hdV; have M3 := (M2.kept F3 (fun e => by cases e; omega)).alloc (.cells #[.int .i64 u.kind, .string (str u.text), .int .i64 u.num, .int .i64 u.at'] 39); have B3 := (B2.kept F3 (fun e => by cases e; omega)).alloc (.cells #[.int .i64 u.kind, .string (str u.text), .int .i64 u.num, .int .i64 u.at'] 39); have D3 := Blk.fresh w3 #[.int .i64 u.kind, .string (str u.text), .int .i64 u.num, .int .i64 u.at'] 39; have F3' := (F2'.trans F3).alloc (.cells #[.int .i64 u.kind, .string (str u.text), .int .i64 u.num, .int .i64 u.at'] 39); have PW := pass_any (R3.alloc (.cells #[.int .i64 u.kind, .string (str u.text), .int .i64 u.num, .int .i64 u.at'] 39)) (s := [59]) (by decide) (by decide); rw [h3, show str [59] = ⟨#[59]⟩ from rfl] at PW; have r3 := R3.lt; clear F3 TB)
      | (go_at_call_of 68 (Value.string { data := #[59] }); refine PW.mono ?_; rintro e w4 ⟨F4, rfl, R4⟩))
        exact ⟨rfl, Ans.err (F3'.trans F4) R4⟩
      · simp only
        go_enter Tryd.func36, Tryd.ntmps36
        go_wp2_with (first
      | (go_at_call_of 68 (Value.string { data := #[100, 97, 116, 97] }); refine (P0 _).mono ?_; rintro e w1 ⟨F1, v1, rfl, rfl, R1⟩; have M1 := (Blk.fresh w #[.string ⟨#[]⟩, .int .i64 0, .int .i64 0] 55).kept F1 (fun e => by cases e; omega); have F1' := ((Fr.refl b w).alloc _).trans F1; have TA := take_any R1 2 (by decide); rw [h1] at TA; clear F1)
      | (go_at_call_of 69 (Value.int .i64 2); refine TA.mono ?_; rintro e w2 ⟨F2, v2, rfl, rfl, R2⟩; unfold hdV; have M2 := (M1.kept F2 (fun e => by cases e; omega)).alloc (.cells #[.int .i64 c.kind, .string (str c.text), .int .i64 c.num, .int .i64 c.at'] 39); have B2 := Blk.fresh w2 #[.int .i64 c.kind, .string (str c.text), .int .i64 c.num, .int .i64 c.at'] 39; have F2' := (F1'.trans F2).alloc (.cells #[.int .i64 c.kind, .string (str c.text), .int .i64 c.num, .int .i64 c.at'] 39); have TB := take_any (R2.alloc (.cells #[.int .i64 c.kind, .string (str c.text), .int .i64 c.num, .int .i64 c.at'] 39)) 4 (by decide); rw [h2] at TB; have r2 := R2.lt; clear F2 TA)
      | (go_at_call_of 69 (Value.int .i64 4); refine TB.mono ?_; rintro e w3 ⟨F3, v3, rfl, rfl, R3⟩; unfold hdV; have M3 := (M2.kept F3 (fun e => by cases e; omega)).alloc (.cells #[.int .i64 u.kind, .string (str u.text), .int .i64 u.num, .int .i64 u.at'] 39); have B3 := (B2.kept F3 (fun e => by cases e; omega)).alloc (.cells #[.int .i64 u.kind, .string (str u.text), .int .i64 u.num, .int .i64 u.at'] 39); have D3 := Blk.fresh w3 #[.int .i64 u.kind, .string (str u.text), .int .i64 u.num, .int .i64 u.at'] 39; have F3' := (F2'.trans F3).alloc (.cells #[.int .i64 u.kind, .string (str u.text), .int .i64 u.num, .int .i64 u.at'] 39); have PW := pass_any (R3.alloc (.cells #[.int .i64 u.kind, .string (str u.text), .int .i64 u.num, .int .i64 u.at'] 39)) (s := [59]) (by decide) (by decide); rw [h3, show str [59] = ⟨#[59]⟩ from rfl] at PW; have r3 := R3.lt; clear F3 TB)
      | (go_at_call_of 68 (Value.string { data := #[59] }); refine PW.mono ?_; rintro e w4 ⟨F4, v4, rfl, rfl, R4⟩; have M4 := M3.kept F4 (fun e => by cases e; omega); have B4 := B3.kept F4 (fun e => by cases e; omega); have D4 := D3.kept F4 (fun e => by cases e; omega); have F4' := F3'.trans F4; have y1 : w4.cell? ⟨w2.heap.size, 1, none⟩ = some (.string (str c.text)) := B4.cell 1; have y3 : w4.cell? ⟨w2.heap.size, 3, none⟩ = some (.int .i64 c.at') := B4.cell 3; have y2 : w4.cell? ⟨w3.heap.size, 2, none⟩ = some (.int .i64 u.num) := D4.cell 2; clear F4 PW)
      | (refine wpList_store_row rfl 55 _ _ rfl w.heap.size _ rfl rfl 55 _ M4 size55 rfl (by simp [Value.oneCell']) ?_))
        exact bodyPost_ret (results_cell_row Tryd.results36 _ _ w.heap.size 55 _ (0, 0) _ rfl M4.set Tryd.underlying55 rfl size55) rfl (Ans.ok (F4'.setRow (Nat.le_refl _) _) (R4.setRow lt _) rfl)
    · rw [h2]
      simp only
      go_enter Tryd.func36, Tryd.ntmps36
      go_wp2_with (first
      | (go_at_call_of 68 (Value.string { data := #[100, 97, 116, 97] }); refine (P0 _).mono ?_; rintro e w1 ⟨F1, v1, rfl, rfl, R1⟩; have M1 := (Blk.fresh w #[.string ⟨#[]⟩, .int .i64 0, .int .i64 0] 55).kept F1 (fun e => by cases e; omega); have F1' := ((Fr.refl b w).alloc _).trans F1; have TA := take_any R1 2 (by decide); rw [h1] at TA; clear F1)
      | (go_at_call_of 69 (Value.int .i64 2); refine TA.mono ?_; rintro e w2 ⟨F2, v2, rfl, rfl, R2⟩; unfold hdV; have M2 := (M1.kept F2 (fun e => by cases e; omega)).alloc (.cells #[.int .i64 c.kind, .string (str c.text), .int .i64 c.num, .int .i64 c.at'] 39); have B2 := Blk.fresh w2 #[.int .i64 c.kind, .string (str c.text), .int .i64 c.num, .int .i64 c.at'] 39; have F2' := (F1'.trans F2).alloc (.cells #[.int .i64 c.kind, .string (str c.text), .int .i64 c.num, .int .i64 c.at'] 39); have TB := take_any (R2.alloc (.cells #[.int .i64 c.kind, .string (str c.text), .int .i64 c.num, .int .i64 c.at'] 39)) 4 (by decide); rw [h2] at TB; have r2 := R2.lt; clear F2 TA)
      | (go_at_call_of 69 (Value.int .i64 4); refine TB.mono ?_; rintro e w3 ⟨F3, rfl, R3⟩))
      exact ⟨rfl, Ans.err (F2'.trans F3) R3⟩
  · rw [h1]
    simp only [andT]
    go_enter Tryd.func36, Tryd.ntmps36
    go_wp2_with (first
      | (go_at_call_of 68 (Value.string { data := #[100, 97, 116, 97] }); refine (P0 _).mono ?_; rintro e w1 ⟨F1, v1, rfl, rfl, R1⟩; have M1 := (Blk.fresh w #[.string ⟨#[]⟩, .int .i64 0, .int .i64 0] 55).kept F1 (fun e => by cases e; omega); have F1' := ((Fr.refl b w).alloc _).trans F1; have TA := take_any R1 2 (by decide); rw [h1] at TA; clear F1)
      | (go_at_call_of 69 (Value.int .i64 2); refine TA.mono ?_; rintro e w2 ⟨F2, rfl, R2⟩))
    exact ⟨rfl, Ans.err (F1'.trans F2) R2⟩

end Go.Proofs.YtoedeedoecdajaaDoor
