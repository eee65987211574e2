/- The checker: what is wrong with an instruction, in order. -/
import Derived.Test.YtidplckoolmaiaaDoorCdi
import Derived.Test.YtidplckoolmaiaaDoorCdj
namespace Go.Proofs.YtidplckoolmaiaaDoor
open Go.RowKit
set_option linter.unusedVariables false
set_option linter.unusedSimpArgs false

set_option maxRecDepth 100000 in
set_option maxHeartbeats 2000000 in
theorem wrong_f0 {w : World} {b : Nat} {Pw : World → Value → Prop} (C46 : ∀ W, Below w.heap.size w W → Calls Tryd.prog 46 #[ptr b] W fun e w' => e = .returned (.bool false) ∧ Below W.heap.size W w') :
    Calls Tryd.prog 38 #[ptr b] w fun e w' => e = .returned (.int .i64 6) ∧ Below w.heap.size w w' := by
  go_enter Tryd.func38, Tryd.ntmps38
  go_wp2_with (first
    | (go_at_call 46; refine (C46 _ (Below.refl _ _)).mono ?_; rintro e w1 ⟨rfl, G1⟩; have B1 := belowOn (Below.refl _ _) G1))
  go_ret
  exact ⟨rfl, B1⟩
set_option maxRecDepth 100000 in
set_option maxHeartbeats 2000000 in
theorem wrong_f1 {w : World} {b : Nat} {Pw : World → Value → Prop} (C46 : ∀ W, Below w.heap.size w W → Calls Tryd.prog 46 #[ptr b] W fun e w' => e = .returned (.bool true) ∧ Below W.heap.size W w') (C47 : ∀ W, Below w.heap.size w W → Calls Tryd.prog 47 #[ptr b] W fun e w' => e = .returned (.bool false) ∧ Below W.heap.size W w') :
    Calls Tryd.prog 38 #[ptr b] w fun e w' => e = .returned (.int .i64 7) ∧ Below w.heap.size w w' := by
  go_enter Tryd.func38, Tryd.ntmps38
  go_wp2_with (first
    | (go_at_call 47; refine (C47 _ B1).mono ?_; rintro e w2 ⟨rfl, G2⟩; have B2 := belowOn B1 G2)
    | (go_at_call 46; refine (C46 _ (Below.refl _ _)).mono ?_; rintro e w1 ⟨rfl, G1⟩; have B1 := belowOn (Below.refl _ _) G1))
  go_ret
  exact ⟨rfl, B2⟩
set_option maxRecDepth 100000 in
set_option maxHeartbeats 2000000 in
theorem wrong_f2 {w : World} {b : Nat} {Pw : World → Value → Prop} (C46 : ∀ W, Below w.heap.size w W → Calls Tryd.prog 46 #[ptr b] W fun e w' => e = .returned (.bool true) ∧ Below W.heap.size W w') (C47 : ∀ W, Below w.heap.size w W → Calls Tryd.prog 47 #[ptr b] W fun e w' => e = .returned (.bool true) ∧ Below W.heap.size W w') (C48 : ∀ W, Below w.heap.size w W → Calls Tryd.prog 48 #[ptr b] W fun e w' => e = .returned (.bool false) ∧ Below W.heap.size W w') :
    Calls Tryd.prog 38 #[ptr b] w fun e w' => e = .returned (.int .i64 33) ∧ Below w.heap.size w w' := by
  go_enter Tryd.func38, Tryd.ntmps38
  go_wp2_with (first
    | (go_at_call 48; refine (C48 _ B2).mono ?_; rintro e w3 ⟨rfl, G3⟩; have B3 := belowOn B2 G3)
    | (go_at_call 47; refine (C47 _ B1).mono ?_; rintro e w2 ⟨rfl, G2⟩; have B2 := belowOn B1 G2)
    | (go_at_call 46; refine (C46 _ (Below.refl _ _)).mono ?_; rintro e w1 ⟨rfl, G1⟩; have B1 := belowOn (Below.refl _ _) G1))
  go_ret
  exact ⟨rfl, B3⟩
set_option maxRecDepth 100000 in
set_option maxHeartbeats 2000000 in
theorem wrong_f3 {w : World} {b : Nat} {Pw : World → Value → Prop} (C46 : ∀ W, Below w.heap.size w W → Calls Tryd.prog 46 #[ptr b] W fun e w' => e = .returned (.bool true) ∧ Below W.heap.size W w') (C47 : ∀ W, Below w.heap.size w W → Calls Tryd.prog 47 #[ptr b] W fun e w' => e = .returned (.bool true) ∧ Below W.heap.size W w') (C48 : ∀ W, Below w.heap.size w W → Calls Tryd.prog 48 #[ptr b] W fun e w' => e = .returned (.bool true) ∧ Below W.heap.size W w') (C49 : ∀ W, Below w.heap.size w W → Calls Tryd.prog 49 #[ptr b] W fun e w' => e = .returned (.bool false) ∧ Below W.heap.size W w') :
    Calls Tryd.prog 38 #[ptr b] w fun e w' => e = .returned (.int .i64 32) ∧ Below w.heap.size w w' := by
  go_enter Tryd.func38, Tryd.ntmps38
  go_wp2_with (first
    | (go_at_call 49; refine (C49 _ B3).mono ?_; rintro e w4 ⟨rfl, G4⟩; have B4 := belowOn B3 G4)
    | (go_at_call 48; refine (C48 _ B2).mono ?_; rintro e w3 ⟨rfl, G3⟩; have B3 := belowOn B2 G3)
    | (go_at_call 47; refine (C47 _ B1).mono ?_; rintro e w2 ⟨rfl, G2⟩; have B2 := belowOn B1 G2)
    | (go_at_call 46; refine (C46 _ (Below.refl _ _)).mono ?_; rintro e w1 ⟨rfl, G1⟩; have B1 := belowOn (Below.refl _ _) G1))
  go_ret
  exact ⟨rfl, B4⟩
set_option maxRecDepth 100000 in
set_option maxHeartbeats 2000000 in
theorem wrong_f4 {w : World} {b : Nat} {Pw : World → Value → Prop} (C46 : ∀ W, Below w.heap.size w W → Calls Tryd.prog 46 #[ptr b] W fun e w' => e = .returned (.bool true) ∧ Below W.heap.size W w') (C47 : ∀ W, Below w.heap.size w W → Calls Tryd.prog 47 #[ptr b] W fun e w' => e = .returned (.bool true) ∧ Below W.heap.size W w') (C48 : ∀ W, Below w.heap.size w W → Calls Tryd.prog 48 #[ptr b] W fun e w' => e = .returned (.bool true) ∧ Below W.heap.size W w') (C49 : ∀ W, Below w.heap.size w W → Calls Tryd.prog 49 #[ptr b] W fun e w' => e = .returned (.bool true) ∧ Below W.heap.size W w') (C50 : ∀ W, Below w.heap.size w W → Calls Tryd.prog 50 #[ptr b] W fun e w' => e = .returned (.bool false) ∧ Below W.heap.size W w') :
    Calls Tryd.prog 38 #[ptr b] w fun e w' => e = .returned (.int .i64 34) ∧ Below w.heap.size w w' := by
  go_enter Tryd.func38, Tryd.ntmps38
  go_wp2_with (first
    | (go_at_call 50; refine (C50 _ B4).mono ?_; rintro e w5 ⟨rfl, G5⟩; have B5 := belowOn B4 G5)
    | (go_at_call 49; refine (C49 _ B3).mono ?_; rintro e w4 ⟨rfl, G4⟩; have B4 := belowOn B3 G4)
    | (go_at_call 48; refine (C48 _ B2).mono ?_; rintro e w3 ⟨rfl, G3⟩; have B3 := belowOn B2 G3)
    | (go_at_call 47; refine (C47 _ B1).mono ?_; rintro e w2 ⟨rfl, G2⟩; have B2 := belowOn B1 G2)
    | (go_at_call 46; refine (C46 _ (Below.refl _ _)).mono ?_; rintro e w1 ⟨rfl, G1⟩; have B1 := belowOn (Below.refl _ _) G1))
  go_ret
  exact ⟨rfl, B5⟩
set_option maxRecDepth 100000 in
set_option maxHeartbeats 2000000 in
theorem wrong_f5 {w : World} {b : Nat} {Pw : World → Value → Prop} (C46 : ∀ W, Below w.heap.size w W → Calls Tryd.prog 46 #[ptr b] W fun e w' => e = .returned (.bool true) ∧ Below W.heap.size W w') (C47 : ∀ W, Below w.heap.size w W → Calls Tryd.prog 47 #[ptr b] W fun e w' => e = .returned (.bool true) ∧ Below W.heap.size W w') (C48 : ∀ W, Below w.heap.size w W → Calls Tryd.prog 48 #[ptr b] W fun e w' => e = .returned (.bool true) ∧ Below W.heap.size W w') (C49 : ∀ W, Below w.heap.size w W → Calls Tryd.prog 49 #[ptr b] W fun e w' => e = .returned (.bool true) ∧ Below W.heap.size W w') (C50 : ∀ W, Below w.heap.size w W → Calls Tryd.prog 50 #[ptr b] W fun e w' => e = .returned (.bool true) ∧ Below W.heap.size W w') (C51 : ∀ W, Below w.heap.size w W → Calls Tryd.prog 51 #[ptr b] W fun e w' => e = .returned (.bool false) ∧ Below W.heap.size W w') :
    Calls Tryd.prog 38 #[ptr b] w fun e w' => e = .returned (.int .i64 4) ∧ Below w.heap.size w w' := by
  go_enter Tryd.func38, Tryd.ntmps38
  go_wp2_with (first
    | (go_at_call 51; refine (C51 _ B5).mono ?_; rintro e w6 ⟨rfl, G6⟩; have B6 := belowOn B5 G6)
    | (go_at_call 50; refine (C50 _ B4).mono ?_; rintro e w5 ⟨rfl, G5⟩; have B5 := belowOn B4 G5)
    | (go_at_call 49; refine (C49 _ B3).mono ?_; rintro e w4 ⟨rfl, G4⟩; have B4 := belowOn B3 G4)
    | (go_at_call 48; refine (C48 _ B2).mono ?_; rintro e w3 ⟨rfl, G3⟩; have B3 := belowOn B2 G3)
    | (go_at_call 47; refine (C47 _ B1).mono ?_; rintro e w2 ⟨rfl, G2⟩; have B2 := belowOn B1 G2)
    | (go_at_call 46; refine (C46 _ (Below.refl _ _)).mono ?_; rintro e w1 ⟨rfl, G1⟩; have B1 := belowOn (Below.refl _ _) G1))
  go_ret
  exact ⟨rfl, B6⟩
set_option maxRecDepth 100000 in
set_option maxHeartbeats 2000000 in
theorem wrong_f6 {w : World} {b : Nat} {Pw : World → Value → Prop} (C46 : ∀ W, Below w.heap.size w W → Calls Tryd.prog 46 #[ptr b] W fun e w' => e = .returned (.bool true) ∧ Below W.heap.size W w') (C47 : ∀ W, Below w.heap.size w W → Calls Tryd.prog 47 #[ptr b] W fun e w' => e = .returned (.bool true) ∧ Below W.heap.size W w') (C48 : ∀ W, Below w.heap.size w W → Calls Tryd.prog 48 #[ptr b] W fun e w' => e = .returned (.bool true) ∧ Below W.heap.size W w') (C49 : ∀ W, Below w.heap.size w W → Calls Tryd.prog 49 #[ptr b] W fun e w' => e = .returned (.bool true) ∧ Below W.heap.size W w') (C50 : ∀ W, Below w.heap.size w W → Calls Tryd.prog 50 #[ptr b] W fun e w' => e = .returned (.bool true) ∧ Below W.heap.size W w') (C51 : ∀ W, Below w.heap.size w W → Calls Tryd.prog 51 #[ptr b] W fun e w' => e = .returned (.bool true) ∧ Below W.heap.size W w') (D54 : ∀ W v, Below w.heap.size w W → Pw W v → Calls Tryd.prog 52 #[v, .func (.func 54) #[ptr b] #[]] W fun e w' => e = .returned (.bool false) ∧ Below W.heap.size W w') (C53 : ∀ W, Below w.heap.size w W → Calls Tryd.prog 53 #[ptr b] W fun e w' => ∃ v, e = .returned v ∧ Pw w' v ∧ Below W.heap.size W w') :
    Calls Tryd.prog 38 #[ptr b] w fun e w' => e = .returned (.int .i64 4) ∧ Below w.heap.size w w' := by
  go_enter Tryd.func38, Tryd.ntmps38
  go_wp2_with (first
    | (go_at_call 52; have zz := Q54; refine (D54 _ _ B7 Q54).mono ?_; rintro e w8 ⟨rfl, G8⟩; have B8 := belowOn B7 G8)
    | (go_at_call 53; have zz := B6; refine (C53 _ B6).mono ?_; rintro e w7 ⟨v54, rfl, Q54, G7⟩; have B7 := belowOn B6 G7)
    | (go_at_call 51; refine (C51 _ B5).mono ?_; rintro e w6 ⟨rfl, G6⟩; have B6 := belowOn B5 G6)
    | (go_at_call 50; refine (C50 _ B4).mono ?_; rintro e w5 ⟨rfl, G5⟩; have B5 := belowOn B4 G5)
    | (go_at_call 49; refine (C49 _ B3).mono ?_; rintro e w4 ⟨rfl, G4⟩; have B4 := belowOn B3 G4)
    | (go_at_call 48; refine (C48 _ B2).mono ?_; rintro e w3 ⟨rfl, G3⟩; have B3 := belowOn B2 G3)
    | (go_at_call 47; refine (C47 _ B1).mono ?_; rintro e w2 ⟨rfl, G2⟩; have B2 := belowOn B1 G2)
    | (go_at_call 46; refine (C46 _ (Below.refl _ _)).mono ?_; rintro e w1 ⟨rfl, G1⟩; have B1 := belowOn (Below.refl _ _) G1))
  go_ret
  exact ⟨rfl, B8⟩
set_option maxRecDepth 100000 in
set_option maxHeartbeats 2000000 in
theorem wrong_f7 {w : World} {b : Nat} {Pw : World → Value → Prop} (C46 : ∀ W, Below w.heap.size w W → Calls Tryd.prog 46 #[ptr b] W fun e w' => e = .returned (.bool true) ∧ Below W.heap.size W w') (C47 : ∀ W, Below w.heap.size w W → Calls Tryd.prog 47 #[ptr b] W fun e w' => e = .returned (.bool true) ∧ Below W.heap.size W w') (C48 : ∀ W, Below w.heap.size w W → Calls Tryd.prog 48 #[ptr b] W fun e w' => e = .returned (.bool true) ∧ Below W.heap.size W w') (C49 : ∀ W, Below w.heap.size w W → Calls Tryd.prog 49 #[ptr b] W fun e w' => e = .returned (.bool true) ∧ Below W.heap.size W w') (C50 : ∀ W, Below w.heap.size w W → Calls Tryd.prog 50 #[ptr b] W fun e w' => e = .returned (.bool true) ∧ Below W.heap.size W w') (C51 : ∀ W, Below w.heap.size w W → Calls Tryd.prog 51 #[ptr b] W fun e w' => e = .returned (.bool true) ∧ Below W.heap.size W w') (D54 : ∀ W v, Below w.heap.size w W → Pw W v → Calls Tryd.prog 52 #[v, .func (.func 54) #[ptr b] #[]] W fun e w' => e = .returned (.bool true) ∧ Below W.heap.size W w') (C55 : ∀ W, Below w.heap.size w W → Calls Tryd.prog 55 #[ptr b] W fun e w' => e = .returned (.bool false) ∧ Below W.heap.size W w') (C53 : ∀ W, Below w.heap.size w W → Calls Tryd.prog 53 #[ptr b] W fun e w' => ∃ v, e = .returned v ∧ Pw w' v ∧ Below W.heap.size W w') :
    Calls Tryd.prog 38 #[ptr b] w fun e w' => e = .returned (.int .i64 6) ∧ Below w.heap.size w w' := by
  go_enter Tryd.func38, Tryd.ntmps38
  go_wp2_with (first
    | (go_at_call 55; refine (C55 _ B8).mono ?_; rintro e w9 ⟨rfl, G9⟩; have B9 := belowOn B8 G9)
    | (go_at_call 52; have zz := Q54; refine (D54 _ _ B7 Q54).mono ?_; rintro e w8 ⟨rfl, G8⟩; have B8 := belowOn B7 G8)
    | (go_at_call 53; have zz := B6; refine (C53 _ B6).mono ?_; rintro e w7 ⟨v54, rfl, Q54, G7⟩; have B7 := belowOn B6 G7)
    | (go_at_call 51; refine (C51 _ B5).mono ?_; rintro e w6 ⟨rfl, G6⟩; have B6 := belowOn B5 G6)
    | (go_at_call 50; refine (C50 _ B4).mono ?_; rintro e w5 ⟨rfl, G5⟩; have B5 := belowOn B4 G5)
    | (go_at_call 49; refine (C49 _ B3).mono ?_; rintro e w4 ⟨rfl, G4⟩; have B4 := belowOn B3 G4)
    | (go_at_call 48; refine (C48 _ B2).mono ?_; rintro e w3 ⟨rfl, G3⟩; have B3 := belowOn B2 G3)
    | (go_at_call 47; refine (C47 _ B1).mono ?_; rintro e w2 ⟨rfl, G2⟩; have B2 := belowOn B1 G2)
    | (go_at_call 46; refine (C46 _ (Below.refl _ _)).mono ?_; rintro e w1 ⟨rfl, G1⟩; have B1 := belowOn (Below.refl _ _) G1))
  go_ret
  exact ⟨rfl, B9⟩
set_option maxRecDepth 100000 in
set_option maxHeartbeats 2000000 in
theorem wrong_f8 {w : World} {b : Nat} {Pw : World → Value → Prop} (C46 : ∀ W, Below w.heap.size w W → Calls Tryd.prog 46 #[ptr b] W fun e w' => e = .returned (.bool true) ∧ Below W.heap.size W w') (C47 : ∀ W, Below w.heap.size w W → Calls Tryd.prog 47 #[ptr b] W fun e w' => e = .returned (.bool true) ∧ Below W.heap.size W w') (C48 : ∀ W, Below w.heap.size w W → Calls Tryd.prog 48 #[ptr b] W fun e w' => e = .returned (.bool true) ∧ Below W.heap.size W w') (C49 : ∀ W, Below w.heap.size w W → Calls Tryd.prog 49 #[ptr b] W fun e w' => e = .returned (.bool true) ∧ Below W.heap.size W w') (C50 : ∀ W, Below w.heap.size w W → Calls Tryd.prog 50 #[ptr b] W fun e w' => e = .returned (.bool true) ∧ Below W.heap.size W w') (C51 : ∀ W, Below w.heap.size w W → Calls Tryd.prog 51 #[ptr b] W fun e w' => e = .returned (.bool true) ∧ Below W.heap.size W w') (D54 : ∀ W v, Below w.heap.size w W → Pw W v → Calls Tryd.prog 52 #[v, .func (.func 54) #[ptr b] #[]] W fun e w' => e = .returned (.bool true) ∧ Below W.heap.size W w') (C55 : ∀ W, Below w.heap.size w W → Calls Tryd.prog 55 #[ptr b] W fun e w' => e = .returned (.bool true) ∧ Below W.heap.size W w') (D56 : ∀ W v, Below w.heap.size w W → Pw W v → Calls Tryd.prog 52 #[v, .func (.func 56) #[ptr b] #[]] W fun e w' => e = .returned (.bool false) ∧ Below W.heap.size W w') (C53 : ∀ W, Below w.heap.size w W → Calls Tryd.prog 53 #[ptr b] W fun e w' => ∃ v, e = .returned v ∧ Pw w' v ∧ Below W.heap.size W w') :
    Calls Tryd.prog 38 #[ptr b] w fun e w' => e = .returned (.int .i64 7) ∧ Below w.heap.size w w' := by
  go_enter Tryd.func38, Tryd.ntmps38
  go_wp2_with (first
    | (go_at_call 52; have zz := Q56; refine (D56 _ _ B10 Q56).mono ?_; rintro e w11 ⟨rfl, G11⟩; have B11 := belowOn B10 G11)
    | (go_at_call 53; have zz := B9; refine (C53 _ B9).mono ?_; rintro e w10 ⟨v56, rfl, Q56, G10⟩; have B10 := belowOn B9 G10)
    | (go_at_call 55; refine (C55 _ B8).mono ?_; rintro e w9 ⟨rfl, G9⟩; have B9 := belowOn B8 G9)
    | (go_at_call 52; have zz := Q54; refine (D54 _ _ B7 Q54).mono ?_; rintro e w8 ⟨rfl, G8⟩; have B8 := belowOn B7 G8)
    | (go_at_call 53; have zz := B6; refine (C53 _ B6).mono ?_; rintro e w7 ⟨v54, rfl, Q54, G7⟩; have B7 := belowOn B6 G7)
    | (go_at_call 51; refine (C51 _ B5).mono ?_; rintro e w6 ⟨rfl, G6⟩; have B6 := belowOn B5 G6)
    | (go_at_call 50; refine (C50 _ B4).mono ?_; rintro e w5 ⟨rfl, G5⟩; have B5 := belowOn B4 G5)
    | (go_at_call 49; refine (C49 _ B3).mono ?_; rintro e w4 ⟨rfl, G4⟩; have B4 := belowOn B3 G4)
    | (go_at_call 48; refine (C48 _ B2).mono ?_; rintro e w3 ⟨rfl, G3⟩; have B3 := belowOn B2 G3)
    | (go_at_call 47; refine (C47 _ B1).mono ?_; rintro e w2 ⟨rfl, G2⟩; have B2 := belowOn B1 G2)
    | (go_at_call 46; refine (C46 _ (Below.refl _ _)).mono ?_; rintro e w1 ⟨rfl, G1⟩; have B1 := belowOn (Below.refl _ _) G1))
  go_ret
  exact ⟨rfl, B11⟩
set_option maxRecDepth 100000 in
set_option maxHeartbeats 2000000 in
theorem wrong_ok {w : World} {b : Nat} {Pw : World → Value → Prop} (C46 : ∀ W, Below w.heap.size w W → Calls Tryd.prog 46 #[ptr b] W fun e w' => e = .returned (.bool true) ∧ Below W.heap.size W w') (C47 : ∀ W, Below w.heap.size w W → Calls Tryd.prog 47 #[ptr b] W fun e w' => e = .returned (.bool true) ∧ Below W.heap.size W w') (C48 : ∀ W, Below w.heap.size w W → Calls Tryd.prog 48 #[ptr b] W fun e w' => e = .returned (.bool true) ∧ Below W.heap.size W w') (C49 : ∀ W, Below w.heap.size w W → Calls Tryd.prog 49 #[ptr b] W fun e w' => e = .returned (.bool true) ∧ Below W.heap.size W w') (C50 : ∀ W, Below w.heap.size w W → Calls Tryd.prog 50 #[ptr b] W fun e w' => e = .returned (.bool true) ∧ Below W.heap.size W w') (C51 : ∀ W, Below w.heap.size w W → Calls Tryd.prog 51 #[ptr b] W fun e w' => e = .returned (.bool true) ∧ Below W.heap.size W w') (D54 : ∀ W v, Below w.heap.size w W → Pw W v → Calls Tryd.prog 52 #[v, .func (.func 54) #[ptr b] #[]] W fun e w' => e = .returned (.bool true) ∧ Below W.heap.size W w') (C55 : ∀ W, Below w.heap.size w W → Calls Tryd.prog 55 #[ptr b] W fun e w' => e = .returned (.bool true) ∧ Below W.heap.size W w') (D56 : ∀ W v, Below w.heap.size w W → Pw W v → Calls Tryd.prog 52 #[v, .func (.func 56) #[ptr b] #[]] W fun e w' => e = .returned (.bool true) ∧ Below W.heap.size W w') (C53 : ∀ W, Below w.heap.size w W → Calls Tryd.prog 53 #[ptr b] W fun e w' => ∃ v, e = .returned v ∧ Pw w' v ∧ Below W.heap.size W w') :
    Calls Tryd.prog 38 #[ptr b] w fun e w' => e = .returned (.int .i64 0) ∧ Below w.heap.size w w' := by
  go_enter Tryd.func38, Tryd.ntmps38
  go_wp2_with (first
    | (go_at_call 52; have zz := Q56; refine (D56 _ _ B10 Q56).mono ?_; rintro e w11 ⟨rfl, G11⟩; have B11 := belowOn B10 G11)
    | (go_at_call 53; have zz := B9; refine (C53 _ B9).mono ?_; rintro e w10 ⟨v56, rfl, Q56, G10⟩; have B10 := belowOn B9 G10)
    | (go_at_call 55; refine (C55 _ B8).mono ?_; rintro e w9 ⟨rfl, G9⟩; have B9 := belowOn B8 G9)
    | (go_at_call 52; have zz := Q54; refine (D54 _ _ B7 Q54).mono ?_; rintro e w8 ⟨rfl, G8⟩; have B8 := belowOn B7 G8)
    | (go_at_call 53; have zz := B6; refine (C53 _ B6).mono ?_; rintro e w7 ⟨v54, rfl, Q54, G7⟩; have B7 := belowOn B6 G7)
    | (go_at_call 51; refine (C51 _ B5).mono ?_; rintro e w6 ⟨rfl, G6⟩; have B6 := belowOn B5 G6)
    | (go_at_call 50; refine (C50 _ B4).mono ?_; rintro e w5 ⟨rfl, G5⟩; have B5 := belowOn B4 G5)
    | (go_at_call 49; refine (C49 _ B3).mono ?_; rintro e w4 ⟨rfl, G4⟩; have B4 := belowOn B3 G4)
    | (go_at_call 48; refine (C48 _ B2).mono ?_; rintro e w3 ⟨rfl, G3⟩; have B3 := belowOn B2 G3)
    | (go_at_call 47; refine (C47 _ B1).mono ?_; rintro e w2 ⟨rfl, G2⟩; have B2 := belowOn B1 G2)
    | (go_at_call 46; refine (C46 _ (Below.refl _ _)).mono ?_; rintro e w1 ⟨rfl, G1⟩; have B1 := belowOn (Below.refl _ _) G1))
  go_ret
  exact ⟨rfl, B11⟩
end Go.Proofs.YtidplckoolmaiaaDoor
