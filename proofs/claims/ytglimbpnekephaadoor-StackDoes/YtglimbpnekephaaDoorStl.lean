/- What must come at any rate does come: the statements' own helpers. -/
import Derived.Test.YtglimbpnekephaaDoorStk
namespace Go.Proofs.YtglimbpnekephaaDoor
open Go.RowKit
set_option linter.unusedVariables false
set_option linter.unusedSimpArgs false

theorem Ss.fresh {w : World} {p a b F N : Nat} {ws : List Int} (h : Stk w p a b ws F N 0 0 0) : Ss w p a b ws F N 0 [] := ⟨h, fun f hf => (by cases hf), fun i hi => (by simp [wd] at hi)⟩
/-- a stack that was made for the law: all its blocks are new -/
structure Mk (w w' : World) (p a b : Nat) (ws : List Int) (n k : Nat) (rs : List Fr) : Prop where
  s : Ss w' p a b ws 5 n k rs
  l : ws.length = n + 10
  bel : Below w.heap.size w w'
  hp : w.heap.size ≤ p
  ha : w.heap.size ≤ a
  hb : w.heap.size ≤ b
set_option maxHeartbeats 1000000 in
theorem made_ok (n : Nat) (w : World) (h1 : 1 ≤ n) (h2 : n ≤ 2000) :
    Calls Tryd.prog 9 #[.int .i64 n] w fun e w' => ∃ p a b ws, e = .returned (.tuple #[.pointer (some ⟨p, 0, none⟩), .pointer (some ⟨a, 0, none⟩)]) ∧ Mk w w' p a b ws n 0 [] := by
  have NA := new_ok (n + 10) w (by omega) (by omega)
  rw [show (((n + 10 : Nat)) : Int) = (n : Int) + 10 by omega] at NA
  have SN := fun (W : World) (h : Has W (w.heap.size + 1) w.heap.size (List.replicate (n + 10) 0)) => snew_ok h 5 n h1 (by omega) (by simp; omega)
  rw [show ((5 : Nat) : Int) = 5 from rfl] at SN
  go_enter Tryd.func9, Tryd.ntmps9
  go_wp2_with (first
    | (go_at_call 15; refine NA.mono ?_; rintro e w1 ⟨rfl, H1, B1⟩)
    | (go_at_call 16; refine (SN w1 H1).mono ?_; rintro e w2 ⟨rfl, S2, B2⟩))
  go_ret2
  exact ⟨_, _, _, _, rfl, ⟨Ss.fresh S2, by simp, belowOn B1 B2, B1.size, by omega, Nat.le_refl _⟩⟩
theorem ps_lit2 (w : World) (x y : Int) : PS (w.alloc (.cells #[.int .i64 x, .int .i64 y] 3)) (some ⟨w.heap.size, 0, none⟩) 2 [x, y] := by
  have h := heap_alloc_new w (.cells #[.int .i64 x, .int .i64 y] 3)
  refine ⟨by simp, by simp [maxLen], fun _ => ⟨w.heap.size, 0, rfl, fun i hi => ?_⟩⟩
  rw [Joins.cell_of_block h]
  have c : i = 0 ∨ i = 1 := by simp at hi; omega
  rcases c with rfl | rfl <;> rfl
theorem ps_lit1 (w : World) (x : Int) : PS (w.alloc (.cells #[.int .i64 x] 3)) (some ⟨w.heap.size, 0, none⟩) 1 [x] := by
  have h := heap_alloc_new w (.cells #[.int .i64 x] 3)
  refine ⟨by simp, by simp [maxLen], fun _ => ⟨w.heap.size, 0, rfl, fun i hi => ?_⟩⟩
  rw [Joins.cell_of_block h]
  obtain rfl : i = 0 := by simp at hi; omega
  rfl
theorem off_new {w : World} {p : Nat} (h : p < w.heap.size) : Off (some ⟨w.heap.size, 0, none⟩) p := fun ad e => by cases e; simp only; omega
theorem Kp.table {p b : Nat} {w w' : World} (T : Table w) (k : Kp p b w w') (hp : 0 < p) (hb : 0 < b) : Table w' := T.block (k.block 0 T.lt (by omega) (by omega))
def fA : Fr := ⟨3, 0, 0, [5, 6]⟩
def fB : Fr := ⟨2, 0, 0, [7]⟩
theorem aw_push1 {w : World} {p a b : Nat} {ws : List Int} (S : Ss w p a b ws 5 4 0 []) (T : Table w) (hp : 0 < p) (hb : 0 < b) :
    Calls Tryd.prog 18 #[.pointer (some ⟨p, 0, none⟩), .agg #[.int .i64 3, .int .i64 0, .int .i64 0, .slice (some ⟨w.heap.size, 0, none⟩) 2 2]] (w.alloc (.cells #[.int .i64 5, .int .i64 6] 3)) fun e w' => e = .returned (.int .i64 0) ∧ (∃ ws', Ss w' p a b ws' 5 4 0 [fA]) ∧ Table w' ∧ Kp p b w w' := by
  have l := S.lt
  have P := push_any (S.later (show Below w.heap.size w (w.alloc (.cells #[.int .i64 5, .int .i64 6] 3)) by go_grown)) fA (some ⟨w.heap.size, 0, none⟩) 2 (T.later (by go_grown)) (ps_lit2 w 5 6) (fun _ => off_new l.1) (fun _ => off_new l.2.2)
  rw [show pushE 4 (wd []).length fA = 0 by decide] at P
  refine Calls.mono P ?_
  rintro e w' ⟨rfl, ⟨ws', S', _⟩, K⟩
  exact ⟨rfl, ⟨ws', S'⟩, Kp.table (T.later (by go_grown)) K hp hb, (Kp.of (by go_grown)).trans K⟩
theorem aw_push2 {w : World} {p a b : Nat} {ws : List Int} (S : Ss w p a b ws 5 4 0 [fA]) (T : Table w) :
    Calls Tryd.prog 18 #[.pointer (some ⟨p, 0, none⟩), .agg #[.int .i64 2, .int .i64 0, .int .i64 0, .slice (some ⟨w.heap.size, 0, none⟩) 1 1]] (w.alloc (.cells #[.int .i64 7] 3)) fun e w' => e = .returned (.int .i64 5) ∧ (∃ ws', Ss w' p a b ws' 5 4 0 [fA]) ∧ Kp p b w w' := by
  have l := S.lt
  have P := push_any (S.later (show Below w.heap.size w (w.alloc (.cells #[.int .i64 7] 3)) by go_grown)) fB (some ⟨w.heap.size, 0, none⟩) 1 (T.later (by go_grown)) (ps_lit1 w 7) (fun _ => off_new l.1) (fun _ => off_new l.2.2)
  rw [show pushE 4 (wd [fA]).length fB = 5 by decide] at P
  refine Calls.mono P ?_
  rintro e w' ⟨rfl, ⟨ws', S', _⟩, K⟩
  exact ⟨rfl, ⟨ws', S'⟩, (Kp.of (by go_grown)).trans K⟩
theorem aw_pop {w : World} {p a b : Nat} {ws : List Int} (S : Ss w p a b ws 5 4 0 [fA]) :
    Calls Tryd.prog 19 #[.pointer (some ⟨p, 0, none⟩)] w fun e w' => ∃ g off cp, e = .returned (.tuple #[.agg #[.int .i64 3, .int .i64 0, .int .i64 0, .slice (some ⟨g, off, none⟩) 2 cp], .int .i64 0]) ∧ 2 ≤ cp ∧ w'.cell? ⟨g, off + 1, none⟩ = some (.int .i64 6) ∧ Kp p b w w' := by
  refine Calls.mono (pop_go S (by omega)) ?_
  rintro e w' ⟨⟨h, _⟩ | ⟨f, r, o, cp, h, rfl, P, _, _⟩, K⟩
  · cases h
  · cases h
    obtain ⟨g, off, rfl, hx⟩ := P.num (by decide)
    exact ⟨g, off, cp, rfl, P.cap, hx 1 (by decide), K⟩
set_option maxRecDepth 100000 in
set_option maxHeartbeats 2000000 in
theorem awake_any (w : World) (T : Table w) : Calls Tryd.prog 10 #[] w fun e w' => e = .returned (.bool true) ∧ Below w.heap.size w w' := by
  have MK := made_ok 4 w (by omega) (by omega)
  have tl := T.lt
  rw [show ((4 : Nat) : Int) = 4 from rfl] at MK
  go_enter Tryd.func10, Tryd.ntmps10
  go_wp2_with (first
    | (go_at_call 9; refine MK.mono ?_; clear MK; rintro e w1 ⟨p, a, b, ws, rfl, M1⟩; have P1 := aw_push1 M1.s (T.later M1.bel) (by have := M1.hp; omega) (by have := M1.hb; omega); have HM := Hid.mk M1; clear M1)
    | (go_at_call 18; refine P1.mono ?_; clear P1; rintro e w3 ⟨rfl, ⟨ws3, S3⟩, T3, K3⟩; have U3 := used_any S3.stk; rw [show (((wd [fA]).length : Nat) : Int) = 3 by decide] at U3; have P2 := aw_push2 S3 T3; have HK3 := Hid.mk K3; clear K3 S3 T3)
    | (go_at_call 23; refine U3.mono ?_; rintro e w' ⟨rfl, rfl⟩)
    | (go_at_call 18; refine P2.mono ?_; clear P2; rintro e w4 ⟨rfl, ⟨ws4, S4⟩, K4⟩; have P3 := aw_pop S4; have HK4 := Hid.mk K4; clear K4 S4)
    | (go_at_call 19; refine P3.mono ?_; clear P3; rintro e w5 ⟨g, off, cp, rfl, hcp, cx, K5⟩; have cy : (w5.alloc (Obj.cells #[Value.int IntKind.i64 3, Value.int IntKind.i64 0, Value.int IntKind.i64 0, Value.slice (some ⟨g, off, none⟩) 2 cp] 36)).cell? ⟨g, off + 1, none⟩ = some (.int .i64 6) := Lib.cell?_alloc_some _ cx))
  go_ret
  refine ⟨rfl, ?_⟩
  have M := HM.out
  have l1 := M.s.lt
  have B3 := Kp.below M.bel HK3.out M.bel.size M.hp M.hb
  have B4 := Kp.below B3 HK4.out B3.size M.hp M.hb
  have B5 := Kp.below B4 K5 B4.size M.hp M.hb
  exact belowOn B5 (by go_grown)
end Go.Proofs.YtglimbpnekephaaDoor
