/- The document's own Text. -/
import Derived.Test.YtadmibdcdpggpaaDoorDigits
import Derived.Test.YtadmibdcdpggpaaDoorRefScan
import Derived.Deep.RegionHeld3
namespace Go.Proofs.YtadmibdcdpggpaaDoor
open Go.RowKit
set_option linter.unusedVariables false

set_option maxRecDepth 100000 in
set_option maxHeartbeats 2000000 in
theorem text_1 (x : List UInt8) (n a : Int) (hx : x.length ≤ 140737488351232) (w : World) :
    Calls Tryd.prog 18 #[.agg #[.int .i64 1, .string (str x), .int .i64 n, .int .i64 a]] w fun e w' => e = .returned (.tuple #[.string (str x), .bool (wordB x 1)]) ∧ Below w.heap.size w w' := by
  have G := Tk4.fresh w 1 (str x) n a
  have Q := fun w => rword_any (str x) (by rw [str_size]; omega) 1 w
  rw [str_list] at Q
  generalize wordB x 1 = b at Q
  have B0 := Joins.below_alloc1 w (Obj.cells #[Value.int .i64 1, .string (str x), .int .i64 n, .int .i64 a] 38)
  go_enter Tryd.func18, Tryd.ntmps18
  go_wp2_with fail
  generalize w.alloc (Obj.cells #[Value.int .i64 1, .string (str x), .int .i64 n, .int .i64 a] 38) = W at *
  obtain ⟨y0, y1, _, _⟩ := G.at
  go_region_held3 (fun w' => w'.cell? ⟨w.heap.size, 0, none⟩ = some (.int .i64 1) ∧ w'.cell? ⟨w.heap.size, 1, none⟩ = some (.string (str x))) (go_keep) (first
    | (go_at_call 14; refine (Q _).mono ?_; rintro e w7 ⟨rfl, B7⟩; have B8 : Below W.heap.size W w7 := (Below.drew (Below.refl _ W)).trans B7; obtain ⟨q0, q1, _, _⟩ := (G.later B8).at))
  all_goals go_wp2
  all_goals go_ret2
  all_goals exact ⟨rfl, B0.trans (Joins.below_le B8 B0.size)⟩

set_option maxRecDepth 100000 in
set_option maxHeartbeats 2000000 in
theorem text_2 (x : List UInt8) (n a : Int) (hx : x.length ≤ 140737488351232) (w : World) :
    Calls Tryd.prog 18 #[.agg #[.int .i64 2, .string (str x), .int .i64 n, .int .i64 a]] w fun e w' => e = .returned (.tuple #[.string (str x), .bool (wordB x 2)]) ∧ Below w.heap.size w w' := by
  have G := Tk4.fresh w 2 (str x) n a
  have Q := fun w => rword_any (str x) (by rw [str_size]; omega) 2 w
  rw [str_list] at Q
  generalize wordB x 2 = b at Q
  have B0 := Joins.below_alloc1 w (Obj.cells #[Value.int .i64 2, .string (str x), .int .i64 n, .int .i64 a] 38)
  go_enter Tryd.func18, Tryd.ntmps18
  go_wp2_with fail
  generalize w.alloc (Obj.cells #[Value.int .i64 2, .string (str x), .int .i64 n, .int .i64 a] 38) = W at *
  obtain ⟨y0, y1, _, _⟩ := G.at
  go_region_held3 (fun w' => w'.cell? ⟨w.heap.size, 0, none⟩ = some (.int .i64 2) ∧ w'.cell? ⟨w.heap.size, 1, none⟩ = some (.string (str x))) (go_keep) (first
    | (go_at_call 14; refine (Q _).mono ?_; rintro e w7 ⟨rfl, B7⟩; have B8 : Below W.heap.size W w7 := (Below.drew (Below.refl _ W)).trans B7; obtain ⟨q0, q1, _, _⟩ := (G.later B8).at))
  all_goals go_wp2
  all_goals go_ret2
  all_goals exact ⟨rfl, B0.trans (Joins.below_le B8 B0.size)⟩

set_option maxRecDepth 100000 in
set_option maxHeartbeats 2000000 in
theorem text_3 (x : List UInt8) (n a : Int) (hx : x.length ≤ 140737488351232) (w : World) :
    Calls Tryd.prog 18 #[.agg #[.int .i64 3, .string (str x), .int .i64 n, .int .i64 a]] w fun e w' => e = .returned (.tuple #[.string (str x), .bool (wordB x 3)]) ∧ Below w.heap.size w w' := by
  have G := Tk4.fresh w 3 (str x) n a
  have Q := fun w => rword_any (str x) (by rw [str_size]; omega) 3 w
  rw [str_list] at Q
  generalize wordB x 3 = b at Q
  have B0 := Joins.below_alloc1 w (Obj.cells #[Value.int .i64 3, .string (str x), .int .i64 n, .int .i64 a] 38)
  go_enter Tryd.func18, Tryd.ntmps18
  go_wp2_with fail
  generalize w.alloc (Obj.cells #[Value.int .i64 3, .string (str x), .int .i64 n, .int .i64 a] 38) = W at *
  obtain ⟨y0, y1, _, _⟩ := G.at
  go_region_held3 (fun w' => w'.cell? ⟨w.heap.size, 0, none⟩ = some (.int .i64 3) ∧ w'.cell? ⟨w.heap.size, 1, none⟩ = some (.string (str x))) (go_keep) (first
    | (go_at_call 14; refine (Q _).mono ?_; rintro e w7 ⟨rfl, B7⟩; have B8 : Below W.heap.size W w7 := (Below.drew (Below.refl _ W)).trans B7; obtain ⟨q0, q1, _, _⟩ := (G.later B8).at))
  all_goals go_wp2
  all_goals go_ret2
  all_goals exact ⟨rfl, B0.trans (Joins.below_le B8 B0.size)⟩

set_option maxRecDepth 100000 in
set_option maxHeartbeats 2000000 in
theorem text_6 (x : List UInt8) (n a : Int) (w : World) :
    Calls Tryd.prog 18 #[.agg #[.int .i64 6, .string (str x), .int .i64 n, .int .i64 a]] w fun e w' => e = .returned (.tuple #[.string (str x), .bool (resv x)]) ∧ Below w.heap.size w w' := by
  have G := Tk4.fresh w 6 (str x) n a
  have Q := fun w => reserved_any (str x) w
  rw [str_list] at Q
  generalize resv x = b at Q
  have B0 := Joins.below_alloc1 w (Obj.cells #[Value.int .i64 6, .string (str x), .int .i64 n, .int .i64 a] 38)
  go_enter Tryd.func18, Tryd.ntmps18
  go_wp2_with fail
  generalize w.alloc (Obj.cells #[Value.int .i64 6, .string (str x), .int .i64 n, .int .i64 a] 38) = W at *
  obtain ⟨y0, y1, _, _⟩ := G.at
  go_region_held3 (fun w' => w'.cell? ⟨w.heap.size, 0, none⟩ = some (.int .i64 6) ∧ w'.cell? ⟨w.heap.size, 1, none⟩ = some (.string (str x))) (go_keep) (first
    | (go_at_call 31; refine (Q _).mono ?_; rintro e w7 ⟨rfl, hw⟩; subst w7))
  all_goals go_wp2
  all_goals go_ret2
  all_goals exact ⟨rfl, by first | exact B0.drew | exact B0⟩

set_option maxRecDepth 100000 in
set_option maxHeartbeats 2000000 in
theorem text_5 (x : List UInt8) (n a : Int) (w : World) :
    Calls Tryd.prog 18 #[.agg #[.int .i64 5, .string (str x), .int .i64 n, .int .i64 a]] w fun e w' => e = .returned (.tuple #[.string (str x), .bool (signB x)]) ∧ Below w.heap.size w w' := by
  have G := Tk4.fresh w 5 (str x) n a
  have Q := fun w => sign_any (str x) w
  rw [str_list] at Q
  generalize signB x = b at Q
  have B0 := Joins.below_alloc1 w (Obj.cells #[Value.int .i64 5, .string (str x), .int .i64 n, .int .i64 a] 38)
  go_enter Tryd.func18, Tryd.ntmps18
  go_wp2_with fail
  generalize w.alloc (Obj.cells #[Value.int .i64 5, .string (str x), .int .i64 n, .int .i64 a] 38) = W at *
  obtain ⟨y0, y1, _, _⟩ := G.at
  go_region_held3 (fun w' => w'.cell? ⟨w.heap.size, 0, none⟩ = some (.int .i64 5) ∧ w'.cell? ⟨w.heap.size, 1, none⟩ = some (.string (str x))) (go_keep) (first
    | (go_at_call 32; refine (Q _).mono ?_; rintro e w7 ⟨rfl, hw⟩; subst w7))
  all_goals go_wp2
  all_goals go_ret2
  all_goals exact ⟨rfl, by first | exact B0.drew | exact B0⟩

set_option maxRecDepth 100000 in
theorem text_4 (x : List UInt8) (n a : Int) (hn : In64 n) (w : World) :
    Calls Tryd.prog 18 #[.agg #[.int .i64 4, .string (str x), .int .i64 n, .int .i64 a]] w fun e w' => e = .returned (.tuple #[.string (str (Lib.itoa n)), .bool true]) ∧ Below w.heap.size w w' := by
  have Q := fun w => digits_any n hn.1 hn.2 w
  go_enter Tryd.func18, Tryd.ntmps18
  go_wp2_with (go_at_call 33; refine (Q _).mono ?_; rintro e w1 ⟨rfl, B1⟩)
  go_ret2
  exact ⟨rfl, far1 B1⟩
set_option maxRecDepth 100000 in
theorem text_none (k : Int) (x : List UInt8) (n a : Int) (hk : ¬ (k = 1 ∨ k = 2 ∨ k = 3 ∨ k = 4 ∨ k = 5 ∨ k = 6)) (w : World) :
    Calls Tryd.prog 18 #[.agg #[.int .i64 k, .string (str x), .int .i64 n, .int .i64 a]] w fun e w' => e = .returned (.tuple #[.string ⟨#[]⟩, .bool false]) ∧ Below w.heap.size w w' := by
  have k1 : (k == 1) = false := by simp; omega
  have k2 : (k == 2) = false := by simp; omega
  have k3 : (k == 3) = false := by simp; omega
  have k4 : (k == 4) = false := by simp; omega
  have k5 : (k == 5) = false := by simp; omega
  have k6 : (k == 6) = false := by simp; omega
  clear hk
  go_enter Tryd.func18, Tryd.ntmps18
  go_wp2
  go_ret2
  exact ⟨rfl, Joins.below_alloc1 _ _⟩
/-- What the document's Text tells: what a token is written as, if it is one. -/
theorem text_any (t : ATok) (ht : Fit t) : ∃ s : ByteArray, Hid (okT t = true → s = str (writ t)) ∧ ∀ w, Calls Tryd.prog 18 #[atokV t] w fun e w' => e = .returned (.tuple #[.string s, .bool (okT t)]) ∧ Below w.heap.size w w' := by
  obtain ⟨k, x, n, a⟩ := t
  obtain ⟨_, hn, hx⟩ := ht
  simp only at hn hx
  unfold atokV
  simp only
  by_cases hk : k = 1 ∨ k = 2 ∨ k = 3 ∨ k = 4 ∨ k = 5 ∨ k = 6
  · rcases hk with rfl | rfl | rfl | rfl | rfl | rfl
    · exact ⟨str x, ⟨fun _ => rfl⟩, fun w => text_1 x n a hx w⟩
    · exact ⟨str x, ⟨fun _ => rfl⟩, fun w => text_2 x n a hx w⟩
    · exact ⟨str x, ⟨fun _ => rfl⟩, fun w => text_3 x n a hx w⟩
    · exact ⟨str (Lib.itoa n), ⟨fun _ => rfl⟩, fun w => text_4 x n a hn w⟩
    · refine ⟨str x, ⟨fun _ => rfl⟩, fun w => ?_⟩
      rw [show okT ⟨5, x, n, a⟩ = signB x by rw [← just_sign]; rfl]
      exact text_5 x n a w
    · refine ⟨str x, ⟨fun _ => rfl⟩, fun w => ?_⟩
      rw [show okT ⟨6, x, n, a⟩ = resv x by rw [← just_resv]; rfl]
      exact text_6 x n a w
  · have he : okT ⟨k, x, n, a⟩ = false := by simp only [not_or] at hk; simp [okT, hk]
    rw [he]
    exact ⟨⟨#[]⟩, ⟨fun q => by cases q⟩, fun w => text_none k x n a hk w⟩

end Go.Proofs.YtadmibdcdpggpaaDoor
