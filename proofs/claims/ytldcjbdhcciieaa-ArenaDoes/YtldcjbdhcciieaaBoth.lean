/- The program's arena and the document's side by side: every call of both is answered alike, and both hold the same words behind it. -/
import Derived.Test.YtldcjbdhcciieaaRef
import Derived.Deep.RegionHeld3
namespace Go.Proofs.Ytldcjbdhcciieaa
open Go.RowKit
set_option linter.unusedVariables false

/-- Both hold the words xs, in four blocks of their own. -/
structure Pair (w : World) (p b q c : Nat) (xs : List Int) : Prop where
  a : Has 52 w p b xs
  x : Has 38 w q c xs
  pos : 0 < xs.length
  pc : p ≠ c
  qb : q ≠ b
  cb : c ≠ b
theorem Pair.later {w w' : World} {p b q c : Nat} {xs : List Int} (h : Pair w p b q c xs) (hb : Below w.heap.size w w') : Pair w' p b q c xs := ⟨h.a.later hb, h.x.later hb, h.pos, h.pc, h.qb, h.cb⟩
theorem Pair.drew {w : World} {p b q c : Nat} {xs : List Int} (h : Pair w p b q c xs) : Pair w.drew p b q c xs := ⟨h.a.drew, h.x.drew, h.pos, h.pc, h.qb, h.cb⟩

/-- A call's record in the five cells of block g. -/
structure ActAt (w : World) (g : Nat) (k0 k1 k2 k3 k4 : Int) : Prop where
  c0 : w.cell? ⟨g, 0, none⟩ = some (.int .i64 k0)
  c1 : w.cell? ⟨g, 1, none⟩ = some (.int .i64 k1)
  c2 : w.cell? ⟨g, 2, none⟩ = some (.int .i64 k2)
  c3 : w.cell? ⟨g, 3, none⟩ = some (.int .i64 k3)
  c4 : w.cell? ⟨g, 4, none⟩ = some (.int .u64 k4)
theorem ActAt.fresh (w : World) (k0 k1 k2 k3 k4 : Int) : ActAt (w.alloc (Obj.cells #[Value.int IntKind.i64 k0, Value.int IntKind.i64 k1, Value.int IntKind.i64 k2, Value.int IntKind.i64 k3, Value.int IntKind.u64 k4] 34)) w.heap.size k0 k1 k2 k3 k4 :=
  ⟨by simp [go_sem], by simp [go_sem], by simp [go_sem], by simp [go_sem], by simp [go_sem]⟩
theorem ActAt.kept {w w' : World} {g b : Nat} {k0 k1 k2 k3 k4 : Int} (h : ActAt w g k0 k1 k2 k3 k4) (hg : w.grownBy w' (some b)) (hne : g ≠ b) : ActAt w' g k0 k1 k2 k3 k4 :=
  ⟨hg.cell h.c0 (by simpa using hne), hg.cell h.c1 (by simpa using hne), hg.cell h.c2 (by simpa using hne), hg.cell h.c3 (by simpa using hne), hg.cell h.c4 (by simpa using hne)⟩
theorem ActAt.drew {w : World} {g : Nat} {k0 k1 k2 k3 k4 : Int} (h : ActAt w g k0 k1 k2 k3 k4) : ActAt w.drew g k0 k1 k2 k3 k4 := ⟨h.c0, h.c1, h.c2, h.c3, h.c4⟩

/-- What a call of both leaves. -/
def Left2 (w : World) (p b q c : Nat) (xs : List Int) (w' : World) : Prop :=
  ∃ ys, ys.length = xs.length ∧ Pair w' p b q c ys ∧ ∀ B, B ≤ b → B ≤ c → B ≤ w.heap.size → Below B w w'

theorem below_grown2 {B : Nat} {w w1 w2 : World} {g : Nat} (h : Below B w w1) (hg : w1.grownBy w2 (some g)) (hB : B ≤ g) (hw : B ≤ w.heap.size) : Below B w w2 :=
  h.grown hg (Nat.le_trans hw h.size) (fun k hk => by cases hk; exact hB)

theorem left2_of {w wz w1 w2 : World} {p b q c : Nat} {xs ys : List Int} (hb : Below w.heap.size w wz) (hP : Pair wz p b q c xs) (hl : ys.length = xs.length) (H1 : Has 52 w1 p b ys) (G1 : wz.drew.grownBy w1 (some b)) (H2 : Has 38 w2 q c ys) (G2 : w1.grownBy w2 (some c)) : Left2 w p b q c xs w2 := by
  refine ⟨ys, hl, ⟨H1.kept G2 (by simpa using hP.pc) (by simpa using hP.cb.symm), H2, by rw [hl]; exact hP.pos, hP.pc, hP.qb, hP.cb⟩, ?_⟩
  intro B h1 h2 h3
  exact below_grown2 (below_grown2 (hb.mono h3).drew G1 h1 h3) G2 h2 h3
theorem writeL_length (xs : List Int) (i v : Int) : (writeL xs i v).length = xs.length := by unfold writeL; split <;> simp
theorem moveL_length (xs : List Int) (t f k : Int) : (moveL xs t f k).length = xs.length := by
  by_cases h : moveE xs.length t f k = 0
  · have e : moveL xs t f k = splice xs t.toNat ((xs.drop f.toNat).take k.toNat) := by unfold moveL; rw [if_pos h]
    have h0 : ¬ k < 0 := by intro hh; simp [moveE, hh] at h
    have h1 : within xs.length t k = true ∧ within xs.length f k = true := by
      by_cases hw : within xs.length t k = true ∧ within xs.length f k = true
      · exact hw
      · unfold moveE at h; rw [if_neg h0, if_neg hw] at h; cases h
    obtain ⟨b, c, rfl, rfl, hbc⟩ := within_nat (by omega) h1.1
    obtain ⟨a, c', rfl, hc, hac⟩ := within_nat (by omega) h1.2
    obtain rfl : c = c' := by omega
    rw [e, length_splice _ _ _ (by simp only [Int.toNat_natCast]; rw [cut_len _ _ _ hac]; exact hbc)]
  · unfold moveL; rw [if_neg h]
theorem clearL_length (xs : List Int) (f k : Int) : (clearL xs f k).length = xs.length := by
  by_cases h : clearE xs.length f k = 0
  · have e : clearL xs f k = splice xs f.toNat (List.replicate k.toNat 0) := by unfold clearL; rw [if_pos h]
    have h0 : ¬ k < 0 := by intro hh; simp [clearE, hh] at h
    have h1 : within xs.length f k = true := by
      cases hw : within xs.length f k
      · simp [clearE, h0, hw] at h
      · rfl
    obtain ⟨a, c, rfl, rfl, hac⟩ := within_nat (by omega) h1
    rw [e, length_splice _ _ _ (by simpa using hac)]
  · unfold clearL; rw [if_neg h]

set_option maxHeartbeats 4000000 in
theorem do_write {w : World} {p b q c : Nat} {xs : List Int} (h : Pair w p b q c xs) (k1 k2 k3 k4 : Int) (b1 : k1 ≤ 9223372036854775807) (b2 : k2 ≤ 9223372036854775807) :
    Calls Try.prog 11 #[.pointer (some ⟨p, 0, none⟩), .pointer (some ⟨q, 0, none⟩), .agg #[.int .i64 0, .int .i64 k1, .int .i64 k2, .int .i64 k3, .int .u64 k4]] w fun e w' => e = .returned (.bool true) ∧ Left2 w p b q c xs w' := by
  have A0 := ActAt.fresh w 0 k1 k2 k3 k4
  have B0 : Below w.heap.size w (w.alloc (Obj.cells #[Value.int IntKind.i64 0, Value.int IntKind.i64 k1, Value.int IntKind.i64 k2, Value.int IntKind.i64 k3, Value.int IntKind.u64 k4] 34)) := by go_grown
  have P0 := h.later B0
  have gb : w.heap.size ≠ b := by have := h.a.lt.2; omega
  have gc : w.heap.size ≠ c := by have := h.x.lt.2; omega
  go_enter Try.func11, Try.ntmps11
  go_wp2
  generalize w.alloc (Obj.cells #[Value.int IntKind.i64 0, Value.int IntKind.i64 k1, Value.int IntKind.i64 k2, Value.int IntKind.i64 k3, Value.int IntKind.u64 k4] 34) = wz at A0 B0 P0 ⊢
  obtain ⟨g, hg⟩ : ∃ g, w.heap.size = g := ⟨_, rfl⟩
  rw [hg] at A0 gb gc ⊢
  clear hg
  have L : Hid ((writeL xs k1 k4).length = xs.length) := writeL_length _ _ _
  obtain ⟨ac0, ac1, ac2, ac3, ac4⟩ := A0
  have A0 : ActAt wz.drew g 0 k1 k2 k3 k4 := ⟨ac0, ac1, ac2, ac3, ac4⟩
  go_region_held3 (fun w' => w'.cell? ⟨g, 1, none⟩ = some (.int .i64 k1) ∧ w'.cell? ⟨g, 4, none⟩ = some (.int .u64 k4)) (go_keep) (first | (go_at_call 14; refine (write_any P0.a.drew k1 k4).mono ?_; rintro e w1 ⟨rfl, H1, G1⟩; have X1 := P0.x.drew.kept G1 (by simpa using P0.qb) (by simpa using P0.cb); have K1 := A0.kept G1 gb; obtain ⟨bc0, bc1, bc2, bc3, bc4⟩ := K1) | (go_at_call 19; refine (refWrite_any X1 k1 k4).mono ?_; rintro e w2 ⟨rfl, H2, G2⟩; have K1 : ActAt w1 g 0 k1 k2 k3 k4 := ⟨bc0, bc1, bc2, bc3, bc4⟩; have K2 := K1.kept G2 gc; obtain ⟨cc0, cc1, cc2, cc3, cc4⟩ := K2))
  go_wp2
  go_ret
  exact ⟨by simp, left2_of B0 P0 L.out H1 G1 H2 G2⟩
set_option maxHeartbeats 4000000 in
theorem do_move {w : World} {p b q c : Nat} {xs : List Int} (h : Pair w p b q c xs) (k1 k2 k3 k4 : Int) (b1 : k1 ≤ 9223372036854775807) (b2 : k2 ≤ 9223372036854775807) :
    Calls Try.prog 11 #[.pointer (some ⟨p, 0, none⟩), .pointer (some ⟨q, 0, none⟩), .agg #[.int .i64 1, .int .i64 k1, .int .i64 k2, .int .i64 k3, .int .u64 k4]] w fun e w' => e = .returned (.bool true) ∧ Left2 w p b q c xs w' := by
  have A0 := ActAt.fresh w 1 k1 k2 k3 k4
  have B0 : Below w.heap.size w (w.alloc (Obj.cells #[Value.int IntKind.i64 1, Value.int IntKind.i64 k1, Value.int IntKind.i64 k2, Value.int IntKind.i64 k3, Value.int IntKind.u64 k4] 34)) := by go_grown
  have P0 := h.later B0
  have gb : w.heap.size ≠ b := by have := h.a.lt.2; omega
  have gc : w.heap.size ≠ c := by have := h.x.lt.2; omega
  go_enter Try.func11, Try.ntmps11
  go_wp2
  generalize w.alloc (Obj.cells #[Value.int IntKind.i64 1, Value.int IntKind.i64 k1, Value.int IntKind.i64 k2, Value.int IntKind.i64 k3, Value.int IntKind.u64 k4] 34) = wz at A0 B0 P0 ⊢
  obtain ⟨g, hg⟩ : ∃ g, w.heap.size = g := ⟨_, rfl⟩
  rw [hg] at A0 gb gc ⊢
  clear hg
  have L : Hid ((moveL xs k1 k2 k3).length = xs.length) := moveL_length _ _ _ _
  obtain ⟨ac0, ac1, ac2, ac3, ac4⟩ := A0
  have A0 : ActAt wz.drew g 1 k1 k2 k3 k4 := ⟨ac0, ac1, ac2, ac3, ac4⟩
  go_region_held3 (fun w' => w'.cell? ⟨g, 1, none⟩ = some (.int .i64 k1) ∧ w'.cell? ⟨g, 2, none⟩ = some (.int .i64 k2) ∧ w'.cell? ⟨g, 3, none⟩ = some (.int .i64 k3)) (go_keep) (first | (go_at_call 16; refine (move_any P0.a.drew k1 k2 k3 b1 b2).mono ?_; rintro e w1 ⟨rfl, H1, G1⟩; have X1 := P0.x.drew.kept G1 (by simpa using P0.qb) (by simpa using P0.cb); have K1 := A0.kept G1 gb; obtain ⟨bc0, bc1, bc2, bc3, bc4⟩ := K1) | (go_at_call 20; refine (refMove_any X1 P0.pos k1 k2 k3 b1 b2).mono ?_; rintro e w2 ⟨rfl, H2, G2⟩; have K1 : ActAt w1 g 1 k1 k2 k3 k4 := ⟨bc0, bc1, bc2, bc3, bc4⟩; have K2 := K1.kept G2 gc; obtain ⟨cc0, cc1, cc2, cc3, cc4⟩ := K2))
  go_wp2
  go_ret
  exact ⟨by simp, left2_of B0 P0 L.out H1 G1 H2 G2⟩
set_option maxHeartbeats 4000000 in
theorem do_clear {w : World} {p b q c : Nat} {xs : List Int} (h : Pair w p b q c xs) (k1 k2 k3 k4 : Int) (b1 : k1 ≤ 9223372036854775807) (b2 : k2 ≤ 9223372036854775807) :
    Calls Try.prog 11 #[.pointer (some ⟨p, 0, none⟩), .pointer (some ⟨q, 0, none⟩), .agg #[.int .i64 2, .int .i64 k1, .int .i64 k2, .int .i64 k3, .int .u64 k4]] w fun e w' => e = .returned (.bool true) ∧ Left2 w p b q c xs w' := by
  have A0 := ActAt.fresh w 2 k1 k2 k3 k4
  have B0 : Below w.heap.size w (w.alloc (Obj.cells #[Value.int IntKind.i64 2, Value.int IntKind.i64 k1, Value.int IntKind.i64 k2, Value.int IntKind.i64 k3, Value.int IntKind.u64 k4] 34)) := by go_grown
  have P0 := h.later B0
  have gb : w.heap.size ≠ b := by have := h.a.lt.2; omega
  have gc : w.heap.size ≠ c := by have := h.x.lt.2; omega
  go_enter Try.func11, Try.ntmps11
  go_wp2
  generalize w.alloc (Obj.cells #[Value.int IntKind.i64 2, Value.int IntKind.i64 k1, Value.int IntKind.i64 k2, Value.int IntKind.i64 k3, Value.int IntKind.u64 k4] 34) = wz at A0 B0 P0 ⊢
  obtain ⟨g, hg⟩ : ∃ g, w.heap.size = g := ⟨_, rfl⟩
  rw [hg] at A0 gb gc ⊢
  clear hg
  have L : Hid ((clearL xs k2 k3).length = xs.length) := clearL_length _ _ _
  obtain ⟨ac0, ac1, ac2, ac3, ac4⟩ := A0
  have A0 : ActAt wz.drew g 2 k1 k2 k3 k4 := ⟨ac0, ac1, ac2, ac3, ac4⟩
  go_region_held3 (fun w' => w'.cell? ⟨g, 2, none⟩ = some (.int .i64 k2) ∧ w'.cell? ⟨g, 3, none⟩ = some (.int .i64 k3)) (go_keep) (first | (go_at_call 17; refine (clear_any P0.a.drew k2 k3 b2).mono ?_; rintro e w1 ⟨rfl, H1, G1⟩; have X1 := P0.x.drew.kept G1 (by simpa using P0.qb) (by simpa using P0.cb); have K1 := A0.kept G1 gb; obtain ⟨bc0, bc1, bc2, bc3, bc4⟩ := K1) | (go_at_call 21; refine (refClear_any X1 k2 k3 b2).mono ?_; rintro e w2 ⟨rfl, H2, G2⟩; have K1 : ActAt w1 g 2 k1 k2 k3 k4 := ⟨bc0, bc1, bc2, bc3, bc4⟩; have K2 := K1.kept G2 gc; obtain ⟨cc0, cc1, cc2, cc3, cc4⟩ := K2))
  go_wp2
  go_ret
  exact ⟨by simp, left2_of B0 P0 L.out H1 G1 H2 G2⟩

theorem do_read {w : World} {p b q c : Nat} {xs : List Int} (h : Pair w p b q c xs) (k0 k1 k2 k3 k4 : Int) (h0 : k0 ≠ 0) (h1 : k0 ≠ 1) (h2 : k0 ≠ 2) :
    Calls Try.prog 11 #[.pointer (some ⟨p, 0, none⟩), .pointer (some ⟨q, 0, none⟩), .agg #[.int .i64 k0, .int .i64 k1, .int .i64 k2, .int .i64 k3, .int .u64 k4]] w fun e w' => e = .returned (.bool true) ∧ Left2 w p b q c xs w' := by
  have B0 : Below w.heap.size w (w.alloc (Obj.cells #[Value.int IntKind.i64 k0, Value.int IntKind.i64 k1, Value.int IntKind.i64 k2, Value.int IntKind.i64 k3, Value.int IntKind.u64 k4] 34)) := by go_grown
  have P0 := h.later B0
  have t0 : (k0 == 0) = false := by simpa using h0
  have t1 : (k0 == 1) = false := by simpa using h1
  have t2 : (k0 == 2) = false := by simpa using h2
  go_enter Try.func11, Try.ntmps11
  go_wp2_with (first | (go_at_call 15; refine (read_any P0.a k2).mono ?_; rintro e w1 ⟨rfl, hw⟩; rw [hw]; clear hw) | (go_at_call 22; refine (refRead_any P0.x k2).mono ?_; rintro e w1 ⟨rfl, hw⟩; rw [hw]; clear hw))
  go_ret
  exact ⟨by simp, xs, rfl, P0, fun B _ _ hB => B0.mono hB⟩
theorem do_any {w : World} {p b q c : Nat} {xs : List Int} (h : Pair w p b q c xs) (k0 k1 k2 k3 k4 : Int) (b1 : k1 ≤ 9223372036854775807) (b2 : k2 ≤ 9223372036854775807) :
    Calls Try.prog 11 #[.pointer (some ⟨p, 0, none⟩), .pointer (some ⟨q, 0, none⟩), .agg #[.int .i64 k0, .int .i64 k1, .int .i64 k2, .int .i64 k3, .int .u64 k4]] w fun e w' => e = .returned (.bool true) ∧ Left2 w p b q c xs w' := by
  by_cases h0 : k0 = 0
  · subst h0; exact do_write h k1 k2 k3 k4 b1 b2
  · by_cases h1 : k0 = 1
    · subst h1; exact do_move h k1 k2 k3 k4 b1 b2
    · by_cases h2 : k0 = 2
      · subst h2; exact do_clear h k1 k2 k3 k4 b1 b2
      · exact do_read h k0 k1 k2 k3 k4 h0 h1 h2

/-! ### All words the same -/
theorem same_any {w : World} {p b q c : Nat} {xs : List Int} (h : Pair w p b q c xs) :
    Calls Try.prog 12 #[.pointer (some ⟨p, 0, none⟩), .slice (some ⟨c, 0, none⟩) xs.length xs.length] w fun e w' => e = .returned (.bool true) ∧ w' = w := by
  have l := h.a.len
  go_enter Try.func12, Try.ntmps12
  go_wp2
  go_loop [5] (fun i => ∃ k : Nat, k ≤ xs.length ∧ i = .int .i64 k) (fun i => xs.length - (intOf i).toNat)
  case atStart => exact ⟨0, Nat.zero_le _, rfl⟩
  case round =>
    obtain ⟨k, hk, rfl⟩ := hrel
    by_cases hlt : k < xs.length
    · have rd := read_any h.a k
      have e1 : readW xs k = xs.getD k 0 := by unfold readW; rw [if_pos (by omega)]; rfl
      have e2 : atE xs.length k = 0 := by unfold atE; rw [if_pos (by omega)]
      rw [e1, e2] at rd
      have cw := h.x.word k hlt
      obtain ⟨x, hx⟩ : ∃ x, xs.getD k 0 = x := ⟨_, rfl⟩
      rw [hx] at cw rd
      clear hx e1 e2
      go_wp2_with (go_at_call 15; refine rd.mono ?_; rintro e w4 ⟨rfl, hw⟩; rw [hw]; clear hw)
      go_round
      case rel => exact ⟨k + 1, by omega, by go_num⟩
      case measure => simp [intOf]; omega
    · obtain rfl : k = xs.length := by omega
      go_wp2_with (go_at_call 18; refine (len_any h.a).mono ?_; rintro e w4 ⟨rfl, hw⟩; rw [hw]; clear hw)
      go_ret
      exact ⟨by simp, rfl⟩
end Go.Proofs.Ytldcjbdhcciieaa
