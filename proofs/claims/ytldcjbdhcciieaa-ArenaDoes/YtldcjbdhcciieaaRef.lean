/- The contracts of the document's own arena (read, write, move by words, clear by words), for whatever arguments: the same total functions as the program's. -/
import Derived.Test.YtldcjbdhcciieaaTurns
namespace Go.Proofs.Ytldcjbdhcciieaa
open Go.RowKit
set_option linter.unusedVariables false

theorem refRead_any {w : World} {p b : Nat} {xs : List Int} (h : Has 38 w p b xs) (i : Int) :
    Calls Try.prog 22 #[.pointer (some ⟨p, 0, none⟩), .int .i64 i] w fun e w' => e = .returned (.tuple #[.int .u64 (readW xs i), .int .i64 (atE xs.length i)]) ∧ w' = w := by
  have c := h.cell
  have l := h.len
  by_cases hi : 0 ≤ i ∧ i < xs.length
  · obtain ⟨k, rfl⟩ := Int.eq_ofNat_of_zero_le hi.1
    have hk : k < xs.length := by omega
    have cw := h.word k hk
    have e1 : readW xs k = xs.getD k 0 := by unfold readW; rw [if_pos hi]; rfl
    have e2 : atE xs.length k = 0 := by unfold atE; rw [if_pos hi]
    rw [e1, e2]
    obtain ⟨x, hx⟩ : ∃ x, xs.getD k 0 = x := ⟨_, rfl⟩
    rw [hx] at cw ⊢
    have h1 := hi.1
    have h2 := hi.2
    clear hx e1 e2 hi
    go_enter Try.func22, Try.ntmps22
    go_wp2
    go_ret2
    exact ⟨rfl, rfl⟩
  · have e1 : readW xs i = 0 := by unfold readW; rw [if_neg hi]
    have e2 : atE xs.length i = 4 := by unfold atE; rw [if_neg hi]
    rw [e1, e2]
    clear e1 e2
    by_cases h0 : i < 0
    · clear hi
      go_enter Try.func22, Try.ntmps22
      go_wp2
      go_ret2
      exact ⟨rfl, rfl⟩
    · have h1 : (xs.length : Int) ≤ i := by omega
      have h2 : 0 ≤ i := by omega
      clear hi h0
      go_enter Try.func22, Try.ntmps22
      go_wp2
      go_ret2
      exact ⟨rfl, rfl⟩

theorem refWrite_any {w : World} {p b : Nat} {xs : List Int} (h : Has 38 w p b xs) (i v : Int) :
    Calls Try.prog 19 #[.pointer (some ⟨p, 0, none⟩), .int .i64 i, .int .u64 v] w fun e w' => e = .returned (.int .i64 (atE xs.length i)) ∧ Has 38 w' p b (writeL xs i v) ∧ w.grownBy w' (some b) := by
  have c := h.cell
  have l := h.len
  by_cases hi : 0 ≤ i ∧ i < xs.length
  · obtain ⟨k, rfl⟩ := Int.eq_ofNat_of_zero_le hi.1
    have hk : k < xs.length := by omega
    have cw := h.word k hk
    have fz := h.free k
    have e1 : writeL xs k v = xs.set k v := by unfold writeL; rw [if_pos hi]; rfl
    have e2 : atE xs.length k = 0 := by unfold atE; rw [if_pos hi]
    rw [e1, e2]
    have h1 := hi.1
    have h2 := hi.2
    clear e1 e2 hi
    go_enter Try.func19, Try.ntmps19
    go_wp2
    go_ret
    exact ⟨rfl, h.put k v, grown_set _ _ _ _⟩
  · have e1 : writeL xs i v = xs := by unfold writeL; rw [if_neg hi]
    have e2 : atE xs.length i = 4 := by unfold atE; rw [if_neg hi]
    rw [e1, e2]
    clear e1 e2
    by_cases h0 : i < 0
    · clear hi
      go_enter Try.func19, Try.ntmps19
      go_wp2
      go_ret
      exact ⟨rfl, h, grown_refl _ _⟩
    · have h1 : (xs.length : Int) ≤ i := by omega
      have h2 : 0 ≤ i := by omega
      clear hi h0
      go_enter Try.func19, Try.ntmps19
      go_wp2
      go_ret
      exact ⟨rfl, h, grown_refl _ _⟩

theorem row_any {w : World} {p b : Nat} {xs : List Int} (h : Has 38 w p b xs) (i k : Int) (hi : i ≤ 9223372036854775807) (hk : 0 ≤ k) :
    Calls Try.prog 26 #[.pointer (some ⟨p, 0, none⟩), .int .i64 i, .int .i64 k] w fun e w' => e = .returned (.bool (within xs.length i k)) ∧ w' = w := by
  have c := h.cell
  have l := h.len
  by_cases h0 : 0 ≤ i
  · by_cases h1 : i ≤ xs.length
    · have e : within xs.length i k = decide (k ≤ (xs.length : Int) - i) := by simp [within, h0]
      rw [e]
      go_enter Try.func26, Try.ntmps26
      go_wp2
      go_ret
      exact ⟨rfl, rfl⟩
    · have e : within xs.length i k = false := by simp [within, h0]; omega
      rw [e]
      have h2 : (xs.length : Int) < i := by omega
      go_enter Try.func26, Try.ntmps26
      go_wp2
      go_ret
      exact ⟨rfl, rfl⟩
  · have e : within xs.length i k = false := by simp [within, h0]
    rw [e]
    have h1 : i < 0 := by omega
    go_enter Try.func26, Try.ntmps26
    go_wp2
    go_ret
    exact ⟨rfl, rfl⟩

/-! ### Clear, word by word -/
theorem splice_next {α : Type} (xs ys : List α) (o : Nat) (v : α) (h : o + ys.length < xs.length) : (splice xs o ys).set (o + ys.length) v = splice xs o (ys ++ [v]) := by
  have ho : (xs.take o).length = o := by simp; omega
  unfold splice
  rw [List.set_append_right _ _ (by omega), ho, show o + ys.length - o = ys.length by omega, List.set_append_right _ _ (Nat.le_refl _), Nat.sub_self]
  simp
  rw [List.drop_eq_getElem_cons h]
  rfl
theorem clear_next (xs : List Int) (f k c : Nat) (h : f + k < xs.length) : (splice xs f (List.replicate k 0)).set (f + k) 0 = splice xs f (List.replicate (k + 1) 0) := by
  have := splice_next xs (List.replicate k 0) f 0 (by simpa using h)
  rw [List.length_replicate] at this
  rw [this, List.replicate_succ']
theorem move_next (xs : List Int) (t f k : Nat) (ht : t + k < xs.length) (hf : f + k < xs.length) : (splice xs t ((xs.drop f).take k)).set (t + k) (xs.getD (f + k) 0) = splice xs t ((xs.drop f).take (k + 1)) := by
  have e : ((xs.drop f).take k).length = k := cut_len _ _ _ (by omega)
  have := splice_next xs ((xs.drop f).take k) t (xs.getD (f + k) 0) (by rw [e]; exact ht)
  rw [e] at this
  rw [this, List.take_add_one, List.getElem?_drop, List.getElem?_eq_getElem hf]
  simp [hf]

set_option maxHeartbeats 1000000 in
theorem refClear_in {w : World} {p b : Nat} {xs : List Int} (h : Has 38 w p b xs) (f n : Nat) (hf : f + n ≤ xs.length) :
    Calls Try.prog 21 #[.pointer (some ⟨p, 0, none⟩), .int .i64 f, .int .i64 n] w fun e w' => e = .returned (.int .i64 0) ∧ Has 38 w' p b (splice xs f (List.replicate n 0)) ∧ w.grownBy w' (some b) := by
  have l := h.len
  have wf : within xs.length f n = true := by simp [within]; omega
  have rw1 := row_any h f n (by omega) (by omega)
  rw [wf] at rw1
  go_enter Try.func21, Try.ntmps21
  go_wp2_with (go_at_call 26; refine rw1.mono ?_; rintro e w1 ⟨rfl, hw⟩; rw [hw]; clear hw)
  go_loopw [7] (fun i wr => ∃ k : Nat, k ≤ n ∧ i = .int .i64 k ∧ Has 38 wr p b (splice xs f (List.replicate k 0)) ∧ w.grownBy wr (some b)) (fun i _ => n - (intOf i).toNat)
  case atStart => exact ⟨0, Nat.zero_le _, rfl, by rw [show splice xs f (List.replicate 0 0) = xs by simp [splice]]; exact h, grown_refl _ _⟩
  case round =>
    obtain ⟨k, hk, rfl, H, G⟩ := hrel
    by_cases hlt : k < n
    · have e : (splice xs f (List.replicate k 0)).length = xs.length := length_splice _ _ _ (by simp; omega)
      have c := H.cell
      rw [e] at c
      have cw := H.word (f + k) (by rw [e]; omega)
      obtain ⟨x, hx⟩ : ∃ x, (splice xs f (List.replicate k 0)).getD (f + k) 0 = x := ⟨_, rfl⟩
      rw [hx] at cw
      have fz := H.free (f + k)
      have P := H.put (f + k) 0
      rw [clear_next xs f k 0 (by omega)] at P
      have HP : Hid (Has 38 (wr.setCell ⟨b, f + k, none⟩ (.int .u64 0)) p b (splice xs f (List.replicate (k + 1) 0))) := P
      clear P hx e rw1
      have z1 : (0 : Int) ≤ (f : Int) + k := by omega
      have z2 : (f : Int) + k < xs.length := by omega
      have z3 : ((f : Int) + k).toNat = f + k := by omega
      go_wp2
      go_roundw
      case rel => exact ⟨k + 1, by omega, by go_num, HP.out, grown_trans G (grown_set _ _ _ _)⟩
      case measure => simp [intOf]; omega
    · obtain rfl : k = n := by omega
      go_wp2
      go_ret
      exact ⟨rfl, H, G⟩

theorem refClear_any {w : World} {p b : Nat} {xs : List Int} (h : Has 38 w p b xs) (f k : Int) (hf : f ≤ 9223372036854775807) :
    Calls Try.prog 21 #[.pointer (some ⟨p, 0, none⟩), .int .i64 f, .int .i64 k] w fun e w' => e = .returned (.int .i64 (clearE xs.length f k)) ∧ Has 38 w' p b (clearL xs f k) ∧ w.grownBy w' (some b) := by
  by_cases h0 : k < 0
  · have e : clearE xs.length f k = 7 := by simp [clearE, h0]
    have e' : clearL xs f k = xs := by simp [clearL, e]
    rw [e, e']
    clear e e'
    go_enter Try.func21, Try.ntmps21
    go_wp2
    go_ret
    exact ⟨rfl, h, grown_refl _ _⟩
  · by_cases h1 : within xs.length f k = true
    · have e : clearE xs.length f k = 0 := by simp [clearE, h0, h1]
      have e' : clearL xs f k = splice xs f.toNat (List.replicate k.toNat 0) := by simp only [clearL, e, if_true]
      rw [e, e']
      obtain ⟨f', k', rfl, rfl, hf'⟩ := within_nat (by omega) h1
      simp only [Int.toNat_natCast]
      exact refClear_in h f' k' hf'
    · have e : clearE xs.length f k = 4 := by unfold clearE; rw [if_neg h0, if_neg h1]
      have e' : clearL xs f k = xs := by simp [clearL, e]
      rw [e, e']
      have hk : 0 ≤ k := by omega
      have at2 := row_any h f k hf hk
      have h3 : within xs.length f k = false := by simpa using h1
      rw [h3] at at2
      clear h1 e e' h3 h0
      go_enter Try.func21, Try.ntmps21
      go_wp2_with (go_at_call 26; refine at2.mono ?_; rintro e w1 ⟨rfl, hw⟩; rw [hw]; clear hw)
      go_ret
      exact ⟨rfl, h, grown_refl _ _⟩

/-! ### Move, word by word -/
/-- What was there, in a row of its own at block g. -/
def Was (w : World) (g : Nat) (xs : List Int) : Prop := ∀ j, j < xs.length → w.cell? ⟨g, j, none⟩ = some (.int .u64 (xs.getD j 0))
theorem Was.put {w : World} {g b i : Nat} {xs : List Int} {v : Value} (h : Was w g xs) (hne : g ≠ b) : Was (w.setCell ⟨b, i, none⟩ v) g xs := by
  intro j hj
  rw [World.cell?_of_block (w := w) (a := ⟨g, j, none⟩) (Below.heap_setCell _ _ _ _ hne)]
  exact h j hj
theorem own_empty (w : World) : (w.alloc (.cells #[] 32)).ownsRow w.heap.size 32 1 (.slice (some ⟨w.heap.size, 0, none⟩) 0 0) 0 [] := World.ownsRow_made w #[] 0 (Nat.le_refl _) (by decide) rfl
theorem own_base (w : World) : w.heap.size ≤ (w.alloc (.cells #[] 32)).heap.size := by simp
theorem own_news {T : TypeId} {w : World} {p b : Nat} {xs : List Int} (h : Has T w p b xs) : ∀ j u, (row xs)[j]? = some u → (w.alloc (.cells #[] 32)).cell? ((⟨b, 0, none⟩ : Addr).add j) = some u := by
  intro j u hj
  have e : (⟨b, 0, none⟩ : Addr).add j = ⟨b, j, none⟩ := by unfold Addr.add; split <;> simp_all
  rw [e]
  refine Lib.cell?_alloc_some _ ?_
  rw [Joins.cell_of_block h.words, List.getElem?_toArray, hj]
theorem was_facts {w w1 : World} {p b g cap : Nat} {xs : List Int} (h : Has 38 w p b xs) (ho : w1.ownsRow w.heap.size 32 1 (.slice (some ⟨g, 0, none⟩) xs.length cap) xs.length (row xs)) (hg : (w.alloc (.cells #[] 32)).grownBy w1 (some w.heap.size)) :
    Has 38 w1 p b xs ∧ Was w1 g xs ∧ g ≠ b ∧ w.grownBy w1 (some b) := by
  have B : Below w.heap.size w w1 := (Joins.below_alloc1 w (.cells #[] 32)).grown hg (by simp) (fun k hk => by cases hk; exact Nat.le_refl _)
  refine ⟨h.later B, ?_, ?_, grown_below _ B⟩
  · intro j hj
    rw [ho.cellAt j (by omega), row_get xs j hj]
  · have := (ho.lt g rfl).1
    have := h.lt.2
    omega

set_option maxHeartbeats 2000000 in
theorem refMove_in {w : World} {p b : Nat} {xs : List Int} (h : Has 38 w p b xs) (hpos : 0 < xs.length) (t f n : Nat) (ht : t + n ≤ xs.length) (hf : f + n ≤ xs.length) :
    Calls Try.prog 20 #[.pointer (some ⟨p, 0, none⟩), .int .i64 t, .int .i64 f, .int .i64 n] w fun e w' => e = .returned (.int .i64 0) ∧ Has 38 w' p b (splice xs t ((xs.drop f).take n)) ∧ w.grownBy w' (some b) := by
  have l := h.len
  have c := h.cell
  have ca : (w.alloc (.cells #[] 32)).cell? ⟨p, 0, none⟩ = some (.slice (some ⟨b, 0, none⟩) xs.length xs.length) := Lib.cell?_alloc_some _ c
  have wt : within xs.length t n = true := by simp [within]; omega
  have wf : within xs.length f n = true := by simp [within]; omega
  have rw1 := row_any h t n (by omega) (by omega)
  rw [wt] at rw1
  have rw2 := row_any h f n (by omega) (by omega)
  rw [wf] at rw2
  have n0 : decide ((n : Int) < 0) = false := by simp
  obtain ⟨i0, hi, hz0, hz1, hz2⟩ := info_parts info32
  go_enter Try.func20, Try.ntmps20
  go_wp2_with (first | (go_at_call_of 26 (Value.int IntKind.i64 (t : Int)); refine rw1.mono ?_; rintro e w1 ⟨rfl, hw⟩; rw [hw]; clear hw) | (go_at_call_of 26 (Value.int IntKind.i64 (f : Int)); refine rw2.mono ?_; rintro e w1 ⟨rfl, hw⟩; rw [hw]; clear hw) | (at_builtin; refine wpList_append_own _ rfl (.tmp 25) (.tmp 29) 36 rfl w.heap.size 32 i0 (.int .u64 0) 1 8 Try.underlying36 hi hz0 hz1 hz2 rfl (by decide) (.slice (some ⟨w.heap.size, 0, none⟩) 0 0) 0 [] rfl (own_empty w) ⟨b, 0, none⟩ xs.length xs.length (row xs) rfl (by rw [row_length]; omega) (own_news h) (row_one xs) (by unfold maxLen; omega) (by omega) (own_base w) ?_; intro v' w1 hown hgrow _; simp only [Nat.zero_add, List.nil_append] at hown; obtain ⟨g, cap, rfl⟩ := Joins.ownsRow_form hown hpos; obtain ⟨H1, W1, hgb, G1⟩ := was_facts h hown hgrow; clear hown hgrow))
  go_loopw [10] (fun i wr => ∃ k : Nat, k ≤ n ∧ i = .int .i64 k ∧ Has 38 wr p b (splice xs t ((xs.drop f).take k)) ∧ Was wr g xs ∧ w.grownBy wr (some b)) (fun i _ => n - (intOf i).toNat)
  case atStart => exact ⟨0, Nat.zero_le _, rfl, by rw [show splice xs t ((xs.drop f).take 0) = xs by simp [splice]]; exact H1, W1, G1⟩
  case round =>
    obtain ⟨k, hk, rfl, H, U, G⟩ := hrel
    by_cases hlt : k < n
    · have e : (splice xs t ((xs.drop f).take k)).length = xs.length := length_splice _ _ _ (by rw [cut_len _ _ _ (by omega)]; omega)
      have c2 := H.cell
      rw [e] at c2
      have cw := H.word (t + k) (by rw [e]; omega)
      obtain ⟨x, hx⟩ : ∃ x, (splice xs t ((xs.drop f).take k)).getD (t + k) 0 = x := ⟨_, rfl⟩
      rw [hx] at cw
      have fz := H.free (t + k)
      have cu := U (f + k) (by omega)
      have P := H.put (t + k) (xs.getD (f + k) 0)
      rw [move_next xs t f k (by omega) (by omega)] at P
      obtain ⟨y, hy⟩ : ∃ y, xs.getD (f + k) 0 = y := ⟨_, rfl⟩
      rw [hy] at cu P
      have HP : Hid (Has 38 (wr.setCell ⟨b, t + k, none⟩ (.int .u64 y)) p b (splice xs t ((xs.drop f).take (k + 1)))) := P
      have HU : Hid (Was (wr.setCell ⟨b, t + k, none⟩ (.int .u64 y)) g xs) := U.put hgb
      clear P hx hy e rw1 rw2 H U H1 W1 c ca
      have z1 : (0 : Int) ≤ (t : Int) + k := by omega
      have z2 : (t : Int) + k < xs.length := by omega
      have z3 : ((t : Int) + k).toNat = t + k := by omega
      have z4 : (0 : Int) ≤ (f : Int) + k := by omega
      have z5 : (f : Int) + k < xs.length := by omega
      have z6 : ((f : Int) + k).toNat = f + k := by omega
      have q1 : IntKind.i64.wrap ((t : Int) + k) = (t : Int) + k := by rw [IntKind.wrap_i64]; omega
      have q2 : IntKind.i64.wrap ((f : Int) + k) = (f : Int) + k := by rw [IntKind.wrap_i64]; omega
      go_wp2
      go_region
      go_wp2
      go_roundw
      case rel => exact ⟨k + 1, by omega, by go_num, HP.out.drew, fun j hj => HU.out j hj, grown_trans G (grown_trans (grown_set _ _ _ _) (grown_drew _ _))⟩
      case measure => simp [intOf]; omega
    · obtain rfl : k = n := by omega
      go_wp2
      go_ret
      exact ⟨rfl, H, G⟩

theorem refMove_any {w : World} {p b : Nat} {xs : List Int} (h : Has 38 w p b xs) (hpos : 0 < xs.length) (t f k : Int) (ht : t ≤ 9223372036854775807) (hf : f ≤ 9223372036854775807) :
    Calls Try.prog 20 #[.pointer (some ⟨p, 0, none⟩), .int .i64 t, .int .i64 f, .int .i64 k] w fun e w' => e = .returned (.int .i64 (moveE xs.length t f k)) ∧ Has 38 w' p b (moveL xs t f k) ∧ w.grownBy w' (some b) := by
  by_cases h0 : k < 0
  · have e : moveE xs.length t f k = 7 := by simp [moveE, h0]
    have e' : moveL xs t f k = xs := by simp [moveL, e]
    rw [e, e']
    clear e e'
    go_enter Try.func20, Try.ntmps20
    go_wp2
    go_ret
    exact ⟨rfl, h, grown_refl _ _⟩
  · by_cases h1 : within xs.length t k = true ∧ within xs.length f k = true
    · have e : moveE xs.length t f k = 0 := by simp [moveE, h0, h1]
      have e' : moveL xs t f k = splice xs t.toNat ((xs.drop f.toNat).take k.toNat) := by simp only [moveL, e, if_true]
      rw [e, e']
      obtain ⟨t', k', rfl, rfl, ht'⟩ := within_nat (by omega) h1.1
      obtain ⟨f', kk, rfl, hk', hf'⟩ := within_nat (by omega) h1.2
      obtain rfl : k' = kk := by omega
      simp only [Int.toNat_natCast]
      exact refMove_in h hpos t' f' k' ht' hf'
    · have e : moveE xs.length t f k = 4 := by unfold moveE; rw [if_neg h0, if_neg h1]
      have e' : moveL xs t f k = xs := by simp [moveL, e]
      rw [e, e']
      have hk : 0 ≤ k := by omega
      have at1 := row_any h t k ht hk
      have at2 := row_any h f k hf hk
      cases h2 : within xs.length t k
      · rw [h2] at at1
        clear h1 e e' at2 h0
        go_enter Try.func20, Try.ntmps20
        go_wp2_with (go_at_call 26; refine at1.mono ?_; rintro e w1 ⟨rfl, hw⟩; rw [hw]; clear hw)
        go_ret
        exact ⟨rfl, h, grown_refl _ _⟩
      · have h3 : within xs.length f k = false := by
          cases h4 : within xs.length f k
          · rfl
          · exact absurd ⟨h2, h4⟩ h1
        rw [h2] at at1
        rw [h3] at at2
        by_cases htf : t = f
        · subst htf; rw [h2] at h3; cases h3
        clear h2 h3 h1 e e' h0
        go_enter Try.func20, Try.ntmps20
        go_wp2_with (first | (go_at_call_of 26 (Value.int IntKind.i64 t); refine at1.mono ?_; rintro e w1 ⟨rfl, hw⟩; rw [hw]; clear hw) | (go_at_call_of 26 (Value.int IntKind.i64 f); refine at2.mono ?_; rintro e w1 ⟨rfl, hw⟩; rw [hw]; clear hw))
        go_ret
        exact ⟨rfl, h, grown_refl _ _⟩
end Go.Proofs.Ytldcjbdhcciieaa
