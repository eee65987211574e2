/- VarsClass, of a form in memory. -/
import Derived.Test.YtmlegdnenklkhaaVbf
namespace Go.Proofs.Ytmlegdnenklkhaa
open Go.RowKit
set_option linter.unusedVariables false
set_option linter.unusedSimpArgs false

theorem join3 {w1 X w' : World} (b1 : Below X.heap.size X w') (b : Below w1.heap.size w1 X) : Below w1.heap.size w1 w' := b.trans (Joins.below_le b1 b.size)
section
variable {w : World} (ga : Option Addr) (la ca : Nat) (k a xm : Int) (s : ByteArray) (g4 g5 g6 g7 : Option Addr) (n4 n5 n6 n7 c4 c5 c6 c7 : Nat) (kk : Int) (ks : ByteArray) (kl : Nat) (ak : Int) (an : ByteArray) (vs : List Nm) (bk : Int) (bs : Nm) (bl : Nat)
set_option maxRecDepth 100000 in
set_option maxHeartbeats 16000000 in
theorem vclass_any (HK : 0 < n6 → KidAt w g6 kk ks kl) (HA : 0 < n7 → AltAt w g7 ak an vs bk (str bs) bl) (h6 : n6 ≤ c6) (h7 : n7 ≤ c7) :
    Calls Try.prog 3 #[.agg (frm9 ga la ca k a xm s g4 g5 g6 g7 n4 n5 n6 n7 c4 c5 c6 c7)] w fun e w' => e = .returned (.bool true) ∧ Below w.heap.size w w' := by
  have K1 : Below w.heap.size w (w.alloc (.cells (frm9 ga la ca k a xm s g4 g5 g6 g7 n4 n5 n6 n7 c4 c5 c6 c7) 30)) := Joins.below_alloc1 w _
  have X1 : Bx (w.alloc (.cells (frm9 ga la ca k a xm s g4 g5 g6 g7 n4 n5 n6 n7 c4 c5 c6 c7) 30)) w.heap.size (frm9 ga la ca k a xm s g4 g5 g6 g7 n4 n5 n6 n7 c4 c5 c6 c7) 30 := heap_alloc_new w _
  have HLI := Hid.mk (fun (W : World) (b : Below (w.alloc (.cells (frm9 ga la ca k a xm s g4 g5 g6 g7 n4 n5 n6 n7 c4 c5 c6 c7) 30)).heap.size (w.alloc (.cells (frm9 ga la ca k a xm s g4 g5 g6 g7 n4 n5 n6 n7 c4 c5 c6 c7) 30)) W) => show Below w.heap.size w W from K1.trans (Joins.below_le b K1.size))
  have HBX := Hid.mk (fun (W : World) (b : Below (w.alloc (.cells (frm9 ga la ca k a xm s g4 g5 g6 g7 n4 n5 n6 n7 c4 c5 c6 c7) 30)).heap.size (w.alloc (.cells (frm9 ga la ca k a xm s g4 g5 g6 g7 n4 n5 n6 n7 c4 c5 c6 c7) 30)) W) => X1.later b)
  have HAW := Hid.mk (fun (W : World) => awake_any W)
  have C6 := field_any (w := (w.alloc (.cells (frm9 ga la ca k a xm s g4 g5 g6 g7 n4 n5 n6 n7 c4 c5 c6 c7) 30))) ga la ca k a xm s g4 g5 g6 g7 n4 n5 n6 n7 c4 c5 c6 c7 kk ks kl ak an vs bk bs bl (fun h => (HK h).later K1) (fun h => (HA h).later K1) h6 h7
  have HC7 := Hid.mk (fun (W : World) (b : Below (w.alloc (.cells (frm9 ga la ca k a xm s g4 g5 g6 g7 n4 n5 n6 n7 c4 c5 c6 c7) 30)).heap.size (w.alloc (.cells (frm9 ga la ca k a xm s g4 g5 g6 g7 n4 n5 n6 n7 c4 c5 c6 c7) 30)) W) => rfield_any (w := W) ga la ca k a xm s g4 g5 g6 g7 n4 n5 n6 n7 c4 c5 c6 c7 kk ks kl ak an vs bk bs bl (fun h => (HK h).later (K1.trans (Joins.below_le b K1.size))) (fun h => (HA h).later (K1.trans (Joins.below_le b K1.size))) h6 h7)
  have HC9 := Hid.mk (fun (W : World) (b : Below (w.alloc (.cells (frm9 ga la ca k a xm s g4 g5 g6 g7 n4 n5 n6 n7 c4 c5 c6 c7) 30)).heap.size (w.alloc (.cells (frm9 ga la ca k a xm s g4 g5 g6 g7 n4 n5 n6 n7 c4 c5 c6 c7) 30)) W) => class_any (w := W) ga la ca k a xm s g4 g5 g6 g7 n4 n5 n6 n7 c4 c5 c6 c7 kk ks kl ak an vs bk bs bl (fun h => (HK h).later (K1.trans (Joins.below_le b K1.size))) (fun h => (HA h).later (K1.trans (Joins.below_le b K1.size))) h6 h7)
  have HC10 := Hid.mk (fun (W : World) (b : Below (w.alloc (.cells (frm9 ga la ca k a xm s g4 g5 g6 g7 n4 n5 n6 n7 c4 c5 c6 c7) 30)).heap.size (w.alloc (.cells (frm9 ga la ca k a xm s g4 g5 g6 g7 n4 n5 n6 n7 c4 c5 c6 c7) 30)) W) => rclass_any (w := W) ga la ca k a xm s g4 g5 g6 g7 n4 n5 n6 n7 c4 c5 c6 c7 kk ks kl ak an vs bk bs bl (fun h => (HK h).later (K1.trans (Joins.below_le b K1.size))) (fun h => (HA h).later (K1.trans (Joins.below_le b K1.size))) h6 h7)
  have y0 := X1.cell 0
  have y1 := X1.cell 1
  have y2 := X1.cell 2
  have y3 := X1.cell 3
  have y4 := X1.cell 4
  have y5 := X1.cell 5
  have y6 := X1.cell 6
  have y7 := X1.cell 7
  have y8 := X1.cell 8
  generalize lastI bs vs = li at *
  cases pk : picks la k n6 n7 kk kl ak vs bk bs bl
  · skip
    rw [pk] at C6 HC7 HC9 HC10
    simp only [fldV, fldZ, if_neg (show ¬ (false = true) by simp)] at C6 HC7
    clear HK HA K1 X1 pk h6 h7
    generalize classI la k _ = ci at *
    go_enter Try.func3, Try.ntmps3
    go_wp2_with (first
      | (go_at_call 7; refine (HC7.out _ B6.out).mono ?_; rintro e w7 ⟨rfl, b7⟩; have B7 := Hid.mk (B6.out.trans (Joins.below_le b7 B6.out.size)); have q0 := (HBX.out w7 B7.out).cell 0; have q1 := (HBX.out w7 B7.out).cell 1; have q2 := (HBX.out w7 B7.out).cell 2; have q3 := (HBX.out w7 B7.out).cell 3; have q4 := (HBX.out w7 B7.out).cell 4; have q5 := (HBX.out w7 B7.out).cell 5; have q6 := (HBX.out w7 B7.out).cell 6; have q7 := (HBX.out w7 B7.out).cell 7; have q8 := (HBX.out w7 B7.out).cell 8; clear b7)
      | (go_at_call 6; refine C6.mono ?_; rintro e w6 ⟨rfl, b6⟩; have B6 := Hid.mk b6; have z0 := (HBX.out w6 b6).cell 0; have z1 := (HBX.out w6 b6).cell 1; have z2 := (HBX.out w6 b6).cell 2; have z3 := (HBX.out w6 b6).cell 3; have z4 := (HBX.out w6 b6).cell 4; have z5 := (HBX.out w6 b6).cell 5; have z6 := (HBX.out w6 b6).cell 6; have z7 := (HBX.out w6 b6).cell 7; have z8 := (HBX.out w6 b6).cell 8; clear b6))
    go_region_held3 (fun w' => w'.cell? ⟨w.heap.size, 0, none⟩ = some (.slice ga la ca) ∧ w'.cell? ⟨w.heap.size, 1, none⟩ = some (.int .i64 k) ∧ w'.cell? ⟨w.heap.size, 2, none⟩ = some (.int .i64 a) ∧ w'.cell? ⟨w.heap.size, 3, none⟩ = some (.string s) ∧ w'.cell? ⟨w.heap.size, 4, none⟩ = some (.int .i64 xm) ∧ w'.cell? ⟨w.heap.size, 5, none⟩ = some (.slice g4 n4 c4) ∧ w'.cell? ⟨w.heap.size, 6, none⟩ = some (.slice g5 n5 c5) ∧ w'.cell? ⟨w.heap.size, 7, none⟩ = some (.slice g6 n6 c6) ∧ w'.cell? ⟨w.heap.size, 8, none⟩ = some (.slice g7 n7 c7)) (go_keep) (first
      | (go_at_call 10; refine (HC10.out _ (by first | exact B10.out | exact B11.out | exact B8.out)).mono ?_; rintro e w11 ⟨rfl, b11⟩; have B11 := Hid.mk (join3 b11 (by first | exact B10.out | exact B11.out | exact B8.out)); have v0 := (HBX.out w11 B11.out).cell 0; have v1 := (HBX.out w11 B11.out).cell 1; have v2 := (HBX.out w11 B11.out).cell 2; have v3 := (HBX.out w11 B11.out).cell 3; have v4 := (HBX.out w11 B11.out).cell 4; have v5 := (HBX.out w11 B11.out).cell 5; have v6 := (HBX.out w11 B11.out).cell 6; have v7 := (HBX.out w11 B11.out).cell 7; have v8 := (HBX.out w11 B11.out).cell 8; clear b11)
      | (go_at_call 9; refine (HC9.out _ (by first | exact B10.out | exact B11.out | exact B8.out)).mono ?_; rintro e w10 ⟨rfl, b10⟩; have B10 := Hid.mk (join3 b10 (by first | exact B10.out | exact B11.out | exact B8.out)); have m0 := (HBX.out w10 B10.out).cell 0; have m1 := (HBX.out w10 B10.out).cell 1; have m2 := (HBX.out w10 B10.out).cell 2; have m3 := (HBX.out w10 B10.out).cell 3; have m4 := (HBX.out w10 B10.out).cell 4; have m5 := (HBX.out w10 B10.out).cell 5; have m6 := (HBX.out w10 B10.out).cell 6; have m7 := (HBX.out w10 B10.out).cell 7; have m8 := (HBX.out w10 B10.out).cell 8; clear b10)
      | (go_at_call 8; refine (HAW.out _).mono ?_; rintro e w8 ⟨rfl, b8⟩; have B8 := Hid.mk (join3 b8 B7.out.drew); have n0 := (HBX.out w8 B8.out).cell 0; have n1 := (HBX.out w8 B8.out).cell 1; have n2 := (HBX.out w8 B8.out).cell 2; have n3 := (HBX.out w8 B8.out).cell 3; have n4 := (HBX.out w8 B8.out).cell 4; have n5 := (HBX.out w8 B8.out).cell 5; have n6 := (HBX.out w8 B8.out).cell 6; have n7 := (HBX.out w8 B8.out).cell 7; have n8 := (HBX.out w8 B8.out).cell 8; clear b8))
    all_goals go_wp2
    all_goals go_ret
    all_goals exact ⟨rfl, by first | exact HLI.out _ B11.out | exact HLI.out _ (join3 (Below.refl _ _) B10.out)⟩
  · skip
    rw [pk] at C6 HC7 HC9 HC10
    simp only [fldV, fldT, if_true] at C6 HC7
    clear HK HA K1 X1 pk h6 h7
    generalize classI la k _ = ci at *
    go_enter Try.func3, Try.ntmps3
    go_wp2_with (first
      | (go_at_call 7; refine (HC7.out _ B6.out).mono ?_; rintro e w7 ⟨rfl, b7⟩; have B7 := Hid.mk (B6.out.trans (Joins.below_le b7 B6.out.size)); have q0 := (HBX.out w7 B7.out).cell 0; have q1 := (HBX.out w7 B7.out).cell 1; have q2 := (HBX.out w7 B7.out).cell 2; have q3 := (HBX.out w7 B7.out).cell 3; have q4 := (HBX.out w7 B7.out).cell 4; have q5 := (HBX.out w7 B7.out).cell 5; have q6 := (HBX.out w7 B7.out).cell 6; have q7 := (HBX.out w7 B7.out).cell 7; have q8 := (HBX.out w7 B7.out).cell 8; clear b7)
      | (go_at_call 6; refine C6.mono ?_; rintro e w6 ⟨rfl, b6⟩; have B6 := Hid.mk b6; have z0 := (HBX.out w6 b6).cell 0; have z1 := (HBX.out w6 b6).cell 1; have z2 := (HBX.out w6 b6).cell 2; have z3 := (HBX.out w6 b6).cell 3; have z4 := (HBX.out w6 b6).cell 4; have z5 := (HBX.out w6 b6).cell 5; have z6 := (HBX.out w6 b6).cell 6; have z7 := (HBX.out w6 b6).cell 7; have z8 := (HBX.out w6 b6).cell 8; clear b6))
    go_region_held3 (fun w' => w'.cell? ⟨w.heap.size, 0, none⟩ = some (.slice ga la ca) ∧ w'.cell? ⟨w.heap.size, 1, none⟩ = some (.int .i64 k) ∧ w'.cell? ⟨w.heap.size, 2, none⟩ = some (.int .i64 a) ∧ w'.cell? ⟨w.heap.size, 3, none⟩ = some (.string s) ∧ w'.cell? ⟨w.heap.size, 4, none⟩ = some (.int .i64 xm) ∧ w'.cell? ⟨w.heap.size, 5, none⟩ = some (.slice g4 n4 c4) ∧ w'.cell? ⟨w.heap.size, 6, none⟩ = some (.slice g5 n5 c5) ∧ w'.cell? ⟨w.heap.size, 7, none⟩ = some (.slice g6 n6 c6) ∧ w'.cell? ⟨w.heap.size, 8, none⟩ = some (.slice g7 n7 c7)) (go_keep) (first
      | (go_at_call 10; refine (HC10.out _ (by first | exact B10.out | exact B11.out | exact B8.out)).mono ?_; rintro e w11 ⟨rfl, b11⟩; have B11 := Hid.mk (join3 b11 (by first | exact B10.out | exact B11.out | exact B8.out)); have v0 := (HBX.out w11 B11.out).cell 0; have v1 := (HBX.out w11 B11.out).cell 1; have v2 := (HBX.out w11 B11.out).cell 2; have v3 := (HBX.out w11 B11.out).cell 3; have v4 := (HBX.out w11 B11.out).cell 4; have v5 := (HBX.out w11 B11.out).cell 5; have v6 := (HBX.out w11 B11.out).cell 6; have v7 := (HBX.out w11 B11.out).cell 7; have v8 := (HBX.out w11 B11.out).cell 8; clear b11)
      | (go_at_call 9; refine (HC9.out _ (by first | exact B10.out | exact B11.out | exact B8.out)).mono ?_; rintro e w10 ⟨rfl, b10⟩; have B10 := Hid.mk (join3 b10 (by first | exact B10.out | exact B11.out | exact B8.out)); have m0 := (HBX.out w10 B10.out).cell 0; have m1 := (HBX.out w10 B10.out).cell 1; have m2 := (HBX.out w10 B10.out).cell 2; have m3 := (HBX.out w10 B10.out).cell 3; have m4 := (HBX.out w10 B10.out).cell 4; have m5 := (HBX.out w10 B10.out).cell 5; have m6 := (HBX.out w10 B10.out).cell 6; have m7 := (HBX.out w10 B10.out).cell 7; have m8 := (HBX.out w10 B10.out).cell 8; clear b10)
      | (go_at_call 8; refine (HAW.out _).mono ?_; rintro e w8 ⟨rfl, b8⟩; have B8 := Hid.mk (join3 b8 B7.out.drew); have n0 := (HBX.out w8 B8.out).cell 0; have n1 := (HBX.out w8 B8.out).cell 1; have n2 := (HBX.out w8 B8.out).cell 2; have n3 := (HBX.out w8 B8.out).cell 3; have n4 := (HBX.out w8 B8.out).cell 4; have n5 := (HBX.out w8 B8.out).cell 5; have n6 := (HBX.out w8 B8.out).cell 6; have n7 := (HBX.out w8 B8.out).cell 7; have n8 := (HBX.out w8 B8.out).cell 8; clear b8))
    all_goals go_wp2
    all_goals go_ret
    all_goals exact ⟨rfl, by first | exact HLI.out _ B11.out | exact HLI.out _ (join3 (Below.refl _ _) B10.out)⟩
end
end Go.Proofs.Ytmlegdnenklkhaa
