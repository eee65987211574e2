/- The headers of right code are right, by the document's layer 4. -/
import Derived.Test.YtidplckoolmaiaaDoorCdp
namespace Go.Proofs.YtidplckoolmaiaaDoor
open Go.RowKit
set_option linter.unusedVariables false
set_option linter.unusedSimpArgs false

theorem between_yes (n a b : Int) (h1 : a ≤ n) (h2 : n ≤ b) (w : World) : Calls Tryd.prog 17 #[.int .i64 n, .int .i64 a, .int .i64 b] w fun e w' => e = .returned (.bool true) ∧ w' = w := by
  go_enter Tryd.func17, Tryd.ntmps17
  go_wp2
  go_ret
  exact ⟨retBool (by simp [*]), rfl⟩
theorem cellNew' (w : World) (cs : Array Value) (t : TypeId) (o : Nat) (u : Value) (h : cs[o]? = some u) : (w.alloc (.cells cs t)).cell? ⟨w.heap.size, o, none⟩ = some u := by
  simp only [World.cell?, heap_alloc_new]
  exact h
theorem cellLater' {w w' : World} (h : Below w.heap.size w w') {p o : Nat} {u : Value} (e : w.cell? ⟨p, o, none⟩ = some u) : w'.cell? ⟨p, o, none⟩ = some u :=
  (h.cell (p := ⟨p, o, none⟩) (World.block_lt_of_cell? _ _ e)).trans e
set_option maxHeartbeats 1000000 in
theorem right_1 (i : Int) (p : Int) (p1 : 0 ≤ p) (p2 : p ≤ 8) (h1 : 0 ≤ i) (h2 : i ≤ 1048575) (w : World) : Calls Tryd.prog 9 #[.agg #[.int .i64 1, .int .i64 i, .int .i64 p, .int .i64 0]] w fun e w' => e = .returned (.int .i64 0) ∧ Below w.heap.size w w' := by
  have P : ∀ W, Calls Tryd.prog 18 #[.agg #[.int .i64 1, .int .i64 i, .int .i64 p, .int .i64 0]] W fun e w' => e = .returned (.bool true) ∧ Below W.heap.size W w' := fun W => by
    go_enter Tryd.func18, Tryd.ntmps18
    go_wp2_with (go_at_call 17; refine (between_yes _ _ _ (by omega) (by omega) _).mono ?_; rintro e w' ⟨rfl, rfl⟩)
    go_ret
    exact ⟨rfl, by go_grown⟩
  go_enter Tryd.func9, Tryd.ntmps9
  go_wp2_with (first | (go_at_call 18; refine (P _).mono ?_; rintro e w3 ⟨rfl, B3⟩; have z1 : w3.cell? ⟨w.heap.size, 1, none⟩ = some (.int .i64 i) := (cellLater' B3 (cellNew' w _ 32 1 _ rfl)); have z0 : w3.cell? ⟨w.heap.size, 0, none⟩ = some (.int .i64 1) := (cellLater' B3 (cellNew' w _ 32 0 _ rfl)); have HB := Hid.mk B3; clear B3) | (go_at_call 17; refine (between_yes _ _ _ (by omega) (by omega) _).mono ?_; rintro e w' ⟨rfl, rfl⟩))
  go_ret
  exact ⟨rfl, belowOn (by go_grown) HB.out⟩
set_option maxHeartbeats 1000000 in
theorem right_3 (i : Int) (p : Int) (p1 : 0 ≤ p) (p2 : p ≤ 255) (h1 : 0 ≤ i) (h2 : i ≤ 1048575) (w : World) : Calls Tryd.prog 9 #[.agg #[.int .i64 3, .int .i64 i, .int .i64 p, .int .i64 0]] w fun e w' => e = .returned (.int .i64 0) ∧ Below w.heap.size w w' := by
  have P : ∀ W, Calls Tryd.prog 18 #[.agg #[.int .i64 3, .int .i64 i, .int .i64 p, .int .i64 0]] W fun e w' => e = .returned (.bool true) ∧ Below W.heap.size W w' := fun W => by
    go_enter Tryd.func18, Tryd.ntmps18
    go_wp2_with (go_at_call 17; refine (between_yes _ _ _ (by omega) (by omega) _).mono ?_; rintro e w' ⟨rfl, rfl⟩)
    go_ret
    exact ⟨rfl, by go_grown⟩
  go_enter Tryd.func9, Tryd.ntmps9
  go_wp2_with (first | (go_at_call 18; refine (P _).mono ?_; rintro e w3 ⟨rfl, B3⟩; have z1 : w3.cell? ⟨w.heap.size, 1, none⟩ = some (.int .i64 i) := (cellLater' B3 (cellNew' w _ 32 1 _ rfl)); have z0 : w3.cell? ⟨w.heap.size, 0, none⟩ = some (.int .i64 3) := (cellLater' B3 (cellNew' w _ 32 0 _ rfl)); have HB := Hid.mk B3; clear B3) | (go_at_call 17; refine (between_yes _ _ _ (by omega) (by omega) _).mono ?_; rintro e w' ⟨rfl, rfl⟩))
  go_ret
  exact ⟨rfl, belowOn (by go_grown) HB.out⟩
set_option maxHeartbeats 1000000 in
theorem right_6 (i : Int) (p : Int) (p1 : 1 ≤ p) (p2 : p ≤ 255) (h1 : 0 ≤ i) (h2 : i ≤ 1048575) (w : World) : Calls Tryd.prog 9 #[.agg #[.int .i64 6, .int .i64 i, .int .i64 p, .int .i64 0]] w fun e w' => e = .returned (.int .i64 0) ∧ Below w.heap.size w w' := by
  have P : ∀ W, Calls Tryd.prog 18 #[.agg #[.int .i64 6, .int .i64 i, .int .i64 p, .int .i64 0]] W fun e w' => e = .returned (.bool true) ∧ Below W.heap.size W w' := fun W => by
    go_enter Tryd.func18, Tryd.ntmps18
    go_wp2_with (go_at_call 17; refine (between_yes _ _ _ (by omega) (by omega) _).mono ?_; rintro e w' ⟨rfl, rfl⟩)
    go_ret
    exact ⟨rfl, by go_grown⟩
  go_enter Tryd.func9, Tryd.ntmps9
  go_wp2_with (first | (go_at_call 18; refine (P _).mono ?_; rintro e w3 ⟨rfl, B3⟩; have z1 : w3.cell? ⟨w.heap.size, 1, none⟩ = some (.int .i64 i) := (cellLater' B3 (cellNew' w _ 32 1 _ rfl)); have z0 : w3.cell? ⟨w.heap.size, 0, none⟩ = some (.int .i64 6) := (cellLater' B3 (cellNew' w _ 32 0 _ rfl)); have HB := Hid.mk B3; clear B3) | (go_at_call 17; refine (between_yes _ _ _ (by omega) (by omega) _).mono ?_; rintro e w' ⟨rfl, rfl⟩))
  go_ret
  exact ⟨rfl, belowOn (by go_grown) HB.out⟩
theorem between_no (n a b : Int) (h1 : n < a) (w : World) : Calls Tryd.prog 17 #[.int .i64 n, .int .i64 a, .int .i64 b] w fun e w' => e = .returned (.bool false) ∧ w' = w := by
  have h : ¬ a ≤ n := by omega
  go_enter Tryd.func17, Tryd.ntmps17
  go_wp2
  go_ret
  exact ⟨retBool (by first | (simp; done) | (simp; omega)), rfl⟩
set_option maxHeartbeats 1000000 in
theorem right_60 (i : Int)  (h1 : 0 ≤ i) (h2 : i ≤ 1048575) (w : World) : Calls Tryd.prog 9 #[.agg #[.int .i64 6, .int .i64 i, .int .i64 0, .int .i64 1]] w fun e w' => e = .returned (.int .i64 0) ∧ Below w.heap.size w w' := by
  have P : ∀ W, Calls Tryd.prog 18 #[.agg #[.int .i64 6, .int .i64 i, .int .i64 0, .int .i64 1]] W fun e w' => e = .returned (.bool true) ∧ Below W.heap.size W w' := fun W => by
    go_enter Tryd.func18, Tryd.ntmps18
    go_wp2_with (go_at_call 17; refine (between_no _ _ _ (by omega) _).mono ?_; rintro e w' ⟨rfl, rfl⟩)
    go_ret
    exact ⟨rfl, by go_grown⟩
  go_enter Tryd.func9, Tryd.ntmps9
  go_wp2_with (first | (go_at_call 18; refine (P _).mono ?_; rintro e w3 ⟨rfl, B3⟩; have z1 : w3.cell? ⟨w.heap.size, 1, none⟩ = some (.int .i64 i) := (cellLater' B3 (cellNew' w _ 32 1 _ rfl)); have z0 : w3.cell? ⟨w.heap.size, 0, none⟩ = some (.int .i64 6) := (cellLater' B3 (cellNew' w _ 32 0 _ rfl)); have HB := Hid.mk B3; clear B3) | (go_at_call 17; refine (between_yes _ _ _ (by omega) (by omega) _).mono ?_; rintro e w' ⟨rfl, rfl⟩))
  go_ret
  exact ⟨rfl, belowOn (by go_grown) HB.out⟩
set_option maxHeartbeats 1000000 in
theorem right_7 (i : Int)  (h1 : 0 ≤ i) (h2 : i ≤ 1048575) (w : World) : Calls Tryd.prog 9 #[.agg #[.int .i64 7, .int .i64 i, .int .i64 1, .int .i64 1]] w fun e w' => e = .returned (.int .i64 0) ∧ Below w.heap.size w w' := by
  have P : ∀ W, Calls Tryd.prog 18 #[.agg #[.int .i64 7, .int .i64 i, .int .i64 1, .int .i64 1]] W fun e w' => e = .returned (.bool true) ∧ Below W.heap.size W w' := fun W => by
    go_enter Tryd.func18, Tryd.ntmps18
    go_wp2_with (go_at_call 17; refine (between_yes _ _ _ (by omega) (by omega) _).mono ?_; rintro e w' ⟨rfl, rfl⟩)
    go_ret
    exact ⟨rfl, by go_grown⟩
  go_enter Tryd.func9, Tryd.ntmps9
  go_wp2_with (first | (go_at_call 18; refine (P _).mono ?_; rintro e w3 ⟨rfl, B3⟩; have z1 : w3.cell? ⟨w.heap.size, 1, none⟩ = some (.int .i64 i) := (cellLater' B3 (cellNew' w _ 32 1 _ rfl)); have z0 : w3.cell? ⟨w.heap.size, 0, none⟩ = some (.int .i64 7) := (cellLater' B3 (cellNew' w _ 32 0 _ rfl)); have HB := Hid.mk B3; clear B3) | (go_at_call 17; refine (between_yes _ _ _ (by omega) (by omega) _).mono ?_; rintro e w' ⟨rfl, rfl⟩))
  go_ret
  exact ⟨rfl, belowOn (by go_grown) HB.out⟩
set_option maxHeartbeats 1000000 in
theorem right_2 (w : World) : Calls Tryd.prog 9 #[.agg #[.int .i64 2, .int .i64 0, .int .i64 0, .int .i64 1]] w fun e w' => e = .returned (.int .i64 0) ∧ Below w.heap.size w w' := by
  have P : ∀ W, Calls Tryd.prog 18 #[.agg #[.int .i64 2, .int .i64 0, .int .i64 0, .int .i64 1]] W fun e w' => e = .returned (.bool true) ∧ Below W.heap.size W w' := fun W => by
    go_enter Tryd.func18, Tryd.ntmps18
    go_wp2_with (go_at_call 17; refine (between_yes _ _ _ (by omega) (by omega) _).mono ?_; rintro e w' ⟨rfl, rfl⟩)
    go_ret
    exact ⟨rfl, by go_grown⟩
  go_enter Tryd.func9, Tryd.ntmps9
  go_wp2_with (first | (go_at_call 18; refine (P _).mono ?_; rintro e w3 ⟨rfl, B3⟩; have z1 : w3.cell? ⟨w.heap.size, 1, none⟩ = some (.int .i64 0) := (cellLater' B3 (cellNew' w _ 32 1 _ rfl)); have z0 : w3.cell? ⟨w.heap.size, 0, none⟩ = some (.int .i64 2) := (cellLater' B3 (cellNew' w _ 32 0 _ rfl)); have HB := Hid.mk B3; clear B3) | (go_at_call 17; refine (between_yes _ _ _ (by omega) (by omega) _).mono ?_; rintro e w' ⟨rfl, rfl⟩))
  go_ret
  exact ⟨rfl, belowOn (by go_grown) HB.out⟩
end Go.Proofs.YtidplckoolmaiaaDoor
