/- Package arena: Move and Clear. -/
import Derived.Test.YtbdoekffadmejaaGreatDoorAre
import Derived.Deep.OwnRows
namespace Go.Proofs.YtbdoekffadmejaaGreatDoor.Bp.Ar
open Go.RowKit
set_option linter.unusedVariables false

/-- A fact that the walk does not look at. -/
structure HidA (P : Prop) : Prop where
  out : P
theorem step_copy_lay {P : Program} {ops : Array Oper} {o : Oper} {a : Act} {w : World} {K : Act → World → Prop} {Q : Exit → Act → World → Prop} {E : Prop} (hgd : o.guard = none) (d s : Operand) (dT sT : TypeId)
    (ho : o.op = .call { callee := .builtin .copy, args := #[d, s], argTypes := #[dT, sT] }) (elem : TypeId) (hu : P.underlying dT = some (.slice elem)) (hsz : (P.info? elem).map (·.size) = some 1)
    (dp sp : Option Addr) (dLen dCap sLen sCap : Nat) (hd : a.eval d = .slice dp dLen dCap) (hs : a.eval s = .slice sp sLen sCap)
    (g off : Nat) (cur : List Value) (t : TypeId) (hg : w.heap[g]? = some (.cells cur.toArray t (0, 0))) (cs : List Value) (hn : cs.length = Nat.min sLen dLen)
    (hpos : 0 < cs.length → dp = some ⟨g, off, none⟩ ∧ ∃ ad, sp = some ad ∧ ∀ j v, cs[j]? = some v → w.cell? (ad.add j) = some v)
    (hfit : off + cs.length ≤ cur.length) (h1 : ∀ v ∈ cs, v.oneCell' = true)
    (h : ∀ w', HidA (w'.heap[g]? = some (.cells (splice cur off cs).toArray t (0, 0))) → w.grownBy w' (some g) → K (a.put o.dst (goInt cs.length)) w') :
    if Region.wanted o (yielded ops a.tmps) = true then Oper.wp P o a w K Q else E := by
  have hw : Region.wanted o (yielded ops a.tmps) = true := by simp [Region.wanted, hgd]
  rw [if_pos hw]
  by_cases h0 : cs.length = 0
  · obtain rfl : cs = [] := List.eq_nil_of_length_eq_zero h0
    have hrun := run_copy_none (P := P) w dT sT o.type elem dp sp dLen dCap sLen sCap hu hsz (by simpa using hn.symm)
    unfold Oper.wp
    simp [execOp, ho, resolve, invoke, builtin, hd, hs, hrun, Result.andThen]
    exact h w ⟨by simpa [splice] using hg⟩ (grown_refl _ _)
  · obtain ⟨rfl, ad, rfl, hsrc⟩ := hpos (by omega)
    have hrun := run_copy_row (P := P) w dT sT o.type elem g off dLen dCap ad sLen sCap cur.toArray t cs hu hsz hg hn hsrc (by simpa using hfit) h1
    unfold Oper.wp
    simp [execOp, ho, resolve, invoke, builtin, hd, hs, hrun, Result.andThen]
    exact h _ ⟨by simpa [splice] using setRow_heap w g _ _ t _ hg⟩ (grown_row _ _ _)

theorem cut_len (xs : List Int) (f k : Nat) (hf : f + k ≤ xs.length) : ((xs.drop f).take k).length = k := by simp; omega
theorem cut_row (xs : List Int) (f k : Nat) (hf : f + k ≤ xs.length) : (row ((xs.drop f).take k)).length = Nat.min k k := by rw [row_length, cut_len _ _ _ hf]; simp
theorem cut_fit (xs : List Int) (t f k : Nat) (ht : t + k ≤ xs.length) (hf : f + k ≤ xs.length) : t + (row ((xs.drop f).take k)).length ≤ (row xs).length := by rw [row_length, row_length, cut_len _ _ _ hf]; exact ht
theorem cut_src {T : TypeId} {w : World} {p b : Nat} {xs : List Int} (h : Has T w p b xs) (t f k : Nat) (hf : f + k ≤ xs.length) : 0 < (row ((xs.drop f).take k)).length → (some (⟨b, t, none⟩ : Addr)) = some ⟨b, t, none⟩ ∧ ∃ ad, (some (⟨b, f, none⟩ : Addr)) = some ad ∧ ∀ j v, (row ((xs.drop f).take k))[j]? = some v → w.cell? (ad.add j) = some v := by
  intro _
  refine ⟨rfl, _, rfl, ?_⟩
  intro j v hj
  rw [row_cut, List.getElem?_take] at hj
  split at hj
  · rw [List.getElem?_drop] at hj
    have e : (⟨b, f, none⟩ : Addr).add j = ⟨b, f + j, none⟩ := by unfold Addr.add; split <;> simp_all
    rw [e, Joins.cell_of_block h.words, List.getElem?_toArray, hj]
  · cases hj

set_option maxHeartbeats 1000000 in
theorem move_in {w : World} {p b : Nat} {xs : List Int} (h : Has 169 w p b xs) (t f k : Nat) (ht : t + k ≤ xs.length) (hf : f + k ≤ xs.length) (hk : 0 < k) :
    Calls Tryz.prog 123 #[.pointer (some ⟨p, 0, none⟩), .int .i64 t, .int .i64 f, .int .i64 k] w fun e w' => e = .returned (.int .i64 0) ∧ Has 169 w' p b (splice xs t ((xs.drop f).take k)) ∧ w.grownBy w' (some b) := by
  have c := h.cell
  have l := h.len
  have g0 : ¬ ((k : Int) < 0) := by omega
  have wt : within xs.length t k = true := by simp [within]; omega
  have wf : within xs.length f k = true := by simp [within]; omega
  have ct := count_any (w := w) (p := p) (k : Int)
  rw [if_neg g0] at ct
  have at1 := has_any h t k (by omega)
  rw [wt] at at1
  have at2 := has_any h f k (by omega)
  rw [wf] at at2
  have n1 : (t : Int) ≤ t + k := by omega
  have n2 : (t : Int) + k ≤ xs.length := by omega
  have n3 : (f : Int) ≤ f + k := by omega
  have n4 : (f : Int) + k ≤ xs.length := by omega
  have n5 : ¬ (xs.length = t) := by omega
  have n6 : ¬ (xs.length = f) := by omega
  have n7 : (0 : Int) ≤ (t : Int) + k := by omega
  have n8 : (0 : Int) ≤ (f : Int) + k := by omega
  have q1 : IntKind.i64.wrap ((t : Int) + k) = (t : Int) + k := by rw [IntKind.wrap_i64]; omega
  have q2 : IntKind.i64.wrap ((f : Int) + k) = (f : Int) + k := by rw [IntKind.wrap_i64]; omega
  have q3 : ((t : Int) + k).toNat = t + k := by omega
  have q4 : ((f : Int) + k).toNat = f + k := by omega
  go_enter Tryz.func123, Tryz.ntmps123
  go_wp2_with (first | (go_at_call 166; refine ct.mono ?_; rintro e w1 ⟨rfl, hw⟩; rw [hw]; clear hw) | (go_at_call_of 167 (Value.int IntKind.i64 (t : Int)); refine at1.mono ?_; rintro e w1 ⟨rfl, hw⟩; rw [hw]; clear hw) | (go_at_call_of 167 (Value.int IntKind.i64 (f : Int)); refine at2.mono ?_; rintro e w1 ⟨rfl, hw⟩; rw [hw]; clear hw))
  go_region_law (refine step_copy_lay rfl (.tmp 36) (.tmp 45) 32 32 rfl 59 Tryz.underlying32 size41 (some ⟨b, t, none⟩) (some ⟨b, f, none⟩) k (xs.length - t) k (xs.length - f) (by simp [Act.eval, Act.put]) (by simp [Act.eval, Act.put]) b t (row xs) 59 h.drew.words (row ((xs.drop f).take k)) (cut_row xs f k hf) (cut_src h.drew t f k hf) (cut_fit xs t f k ht hf) (row_one _) ?_; intro w4 hg4 hb4)
  all_goals (go_wp2; go_ret; exact ⟨rfl, h.spliced (by rw [cut_len xs f k hf]; exact ht) hg4.out (grown_trans (grown_drew _ _) hb4), grown_trans (grown_drew _ _) hb4⟩)

theorem addr_cut (b n t : Nat) : ∃ A : Addr, (if n = t then (some (⟨b, 0, none⟩ : Addr)) else some ⟨b, t, none⟩) = some A := by
  split
  · exact ⟨_, rfl⟩
  · exact ⟨_, rfl⟩
set_option maxHeartbeats 1000000 in
theorem move_none {w : World} {p b : Nat} {xs : List Int} (h : Has 169 w p b xs) (t f : Nat) (ht : t ≤ xs.length) (hf : f ≤ xs.length) :
    Calls Tryz.prog 123 #[.pointer (some ⟨p, 0, none⟩), .int .i64 t, .int .i64 f, .int .i64 0] w fun e w' => e = .returned (.int .i64 0) ∧ Has 169 w' p b xs ∧ w.grownBy w' (some b) := by
  have c := h.cell
  have l := h.len
  have wt : within xs.length t 0 = true := by simp [within]; omega
  have wf : within xs.length f 0 = true := by simp [within]; omega
  have ct := count_any (w := w) (p := p) (0 : Int)
  rw [if_neg (by omega)] at ct
  have at1 := has_any h t 0 (by omega)
  rw [wt] at at1
  have at2 := has_any h f 0 (by omega)
  rw [wf] at at2
  have q1 : IntKind.i64.wrap (t : Int) = (t : Int) := by rw [IntKind.wrap_i64]; omega
  have q2 : IntKind.i64.wrap (f : Int) = (f : Int) := by rw [IntKind.wrap_i64]; omega
  obtain ⟨A, hA⟩ := addr_cut b xs.length t
  obtain ⟨A', hA'⟩ := addr_cut b xs.length f
  go_enter Tryz.func123, Tryz.ntmps123
  go_wp2_with (first | (go_at_call 166; refine ct.mono ?_; rintro e w1 ⟨rfl, hw⟩; rw [hw]; clear hw) | (go_at_call_of 167 (Value.int IntKind.i64 (t : Int)); refine at1.mono ?_; rintro e w1 ⟨rfl, hw⟩; rw [hw]; clear hw) | (go_at_call_of 167 (Value.int IntKind.i64 (f : Int)); refine at2.mono ?_; rintro e w1 ⟨rfl, hw⟩; rw [hw]; clear hw))
  go_region_law (refine step_copy_lay rfl (.tmp 36) (.tmp 45) 32 32 rfl 59 Tryz.underlying32 size41 (some A) (some A') 0 (xs.length - t) 0 (xs.length - f) (by simp [Act.eval, Act.put]) (by simp [Act.eval, Act.put]) b 0 (row xs) 59 h.drew.words [] rfl (fun hh => absurd hh (by decide)) (Nat.zero_le _) (fun _ hv => by cases hv) ?_; intro w4 hg4 hb4)
  all_goals (go_wp2; go_ret; exact ⟨rfl, h.spliced (o := 0) (ys := []) (Nat.zero_le _) hg4.out (grown_trans (grown_drew _ _) hb4), grown_trans (grown_drew _ _) hb4⟩)
set_option maxHeartbeats 1000000 in
theorem move_any {w : World} {p b : Nat} {xs : List Int} (h : Has 169 w p b xs) (t f k : Int) (ht : t ≤ 9223372036854775807) (hf : f ≤ 9223372036854775807) :
    Calls Tryz.prog 123 #[.pointer (some ⟨p, 0, none⟩), .int .i64 t, .int .i64 f, .int .i64 k] w fun e w' => e = .returned (.int .i64 (moveE xs.length t f k)) ∧ Has 169 w' p b (moveL xs t f k) ∧ w.grownBy w' (some b) := by
  by_cases h0 : k < 0
  · have e : moveE xs.length t f k = 7 := by simp [moveE, h0]
    have e' : moveL xs t f k = xs := by simp [moveL, e]
    rw [e, e']
    have ct := count_any (w := w) (p := p) k
    rw [if_pos h0] at ct
    go_enter Tryz.func123, Tryz.ntmps123
    go_wp2_with (go_at_call 166; refine ct.mono ?_; rintro e w1 ⟨rfl, hw⟩; rw [hw]; clear hw)
    go_ret
    exact ⟨rfl, h, grown_refl _ _⟩
  · by_cases h1 : within xs.length t k = true ∧ within xs.length f k = true
    · have e : moveE xs.length t f k = 0 := by simp [moveE, h0, h1]
      have e' : moveL xs t f k = splice xs t.toNat ((xs.drop f.toNat).take k.toNat) := by simp only [moveL, e, if_true]
      rw [e, e']
      obtain ⟨t', k', rfl, rfl, ht'⟩ := within_nat (by omega) h1.1
      obtain ⟨f', kk, rfl, hk', hf'⟩ := within_nat (by omega) h1.2
      obtain rfl : k' = kk := by omega
      simp only [Int.toNat_natCast]
      by_cases hk : 0 < k'
      · exact move_in h t' f' k' ht' hf' hk
      · obtain rfl : k' = 0 := by omega
        rw [show splice xs t' (List.take 0 (List.drop f' xs)) = xs by simp [splice]]
        exact move_none h t' f' (by omega) (by omega)
    · have e : moveE xs.length t f k = 4 := by unfold moveE; rw [if_neg h0, if_neg h1]
      have e' : moveL xs t f k = xs := by simp [moveL, e]
      rw [e, e']
      have ct := count_any (w := w) (p := p) k
      rw [if_neg h0] at ct
      have at1 := has_any h t k ht
      have at2 := has_any h f k hf
      cases h2 : within xs.length t k
      · rw [h2] at at1
        clear h1 e e' at2
        go_enter Tryz.func123, Tryz.ntmps123
        go_wp2_with (first | (go_at_call 166; refine ct.mono ?_; rintro e w1 ⟨rfl, hw⟩; rw [hw]; clear hw) | (go_at_call 167; refine at1.mono ?_; rintro e w1 ⟨rfl, hw⟩; rw [hw]; clear hw))
        go_ret
        exact ⟨rfl, h, grown_refl _ _⟩
      · have h3 : within xs.length f k = false := by
          cases h4 : within xs.length f k
          · rfl
          · exact absurd ⟨h2, h4⟩ h1
        rw [h2] at at1
        rw [h3] at at2
        clear h1 e e'
        by_cases htf : t = f
        · subst htf; rw [h2] at h3; cases h3
        clear h2 h3
        go_enter Tryz.func123, Tryz.ntmps123
        go_wp2_with (first | (go_at_call 166; refine ct.mono ?_; rintro e w1 ⟨rfl, hw⟩; rw [hw]; clear hw) | (go_at_call_of 167 (Value.int IntKind.i64 t); refine at1.mono ?_; rintro e w1 ⟨rfl, hw⟩; rw [hw]; clear hw) | (go_at_call_of 167 (Value.int IntKind.i64 f); refine at2.mono ?_; rintro e w1 ⟨rfl, hw⟩; rw [hw]; clear hw))
        go_ret
        exact ⟨rfl, h, grown_refl _ _⟩

set_option maxHeartbeats 1000000 in
theorem clear_none {w : World} {p b : Nat} {xs : List Int} (H0 : Has 169 w p b xs) (f : Nat) (hf : f ≤ xs.length) :
    Calls Tryz.prog 129 #[.pointer (some ⟨p, 0, none⟩), .int .i64 f, .int .i64 0] w fun e w' => e = .returned (.int .i64 0) ∧ Has 169 w' p b xs ∧ w.grownBy w' (some b) := by
  have c := H0.cell
  have l := H0.len
  have wf : within xs.length f 0 = true := by simp [within]; omega
  have ct := count_any (w := w) (p := p) (0 : Int)
  rw [if_neg (by omega)] at ct
  have at2 := has_any H0 f 0 (by omega)
  rw [wf] at at2
  have hcl : ∀ ty A n, (Builtin.clear_ #[32] ty #[.slice A 0 n]).run Tryz.prog w = .ok (.tuple #[]) w := fun ty A n => by
    cases A <;> simp [Builtin.clear_, run_underlying Tryz.underlying32]
  go_enter Tryz.func129, Tryz.ntmps129
  go_wp2_with (first | (go_at_call 166; refine ct.mono ?_; rintro e w1 ⟨rfl, hw⟩; rw [hw]; clear hw) | (go_at_call 167; refine at2.mono ?_; rintro e w1 ⟨rfl, hw⟩; rw [hw]; clear hw))
  all_goals (go_ret; exact ⟨rfl, H0, grown_refl _ _⟩)

theorem clear_any {w : World} {p b : Nat} {xs : List Int} (h : Has 169 w p b xs) (f k : Int) (hf : f ≤ 9223372036854775807) :
    Calls Tryz.prog 129 #[.pointer (some ⟨p, 0, none⟩), .int .i64 f, .int .i64 k] w fun e w' => e = .returned (.int .i64 (clearE xs.length f k)) ∧ Has 169 w' p b (clearL xs f k) ∧ w.grownBy w' (some b) := by
  by_cases h0 : k < 0
  · have e : clearE xs.length f k = 7 := by simp [clearE, h0]
    have e' : clearL xs f k = xs := by simp [clearL, e]
    rw [e, e']
    have ct := count_any (w := w) (p := p) k
    rw [if_pos h0] at ct
    go_enter Tryz.func129, Tryz.ntmps129
    go_wp2_with (go_at_call 166; refine ct.mono ?_; rintro e w1 ⟨rfl, hw⟩; rw [hw]; clear hw)
    go_ret
    exact ⟨rfl, h, grown_refl _ _⟩
  · by_cases h1 : within xs.length f k = true
    · have e : clearE xs.length f k = 0 := by simp [clearE, h0, h1]
      have e' : clearL xs f k = splice xs f.toNat (List.replicate k.toNat 0) := by simp only [clearL, e, if_true]
      rw [e, e']
      obtain ⟨f', k', rfl, rfl, hf'⟩ := within_nat (by omega) h1
      simp only [Int.toNat_natCast]
      by_cases hk : 0 < k'
      · exact clear_in h f' k' hf' hk
      · obtain rfl : k' = 0 := by omega
        rw [show splice xs f' (List.replicate 0 0) = xs by simp [splice]]
        exact clear_none h f' (by omega)
    · have e : clearE xs.length f k = 4 := by unfold clearE; rw [if_neg h0, if_neg h1]
      have e' : clearL xs f k = xs := by simp [clearL, e]
      rw [e, e']
      have ct := count_any (w := w) (p := p) k
      rw [if_neg h0] at ct
      have at2 := has_any h f k hf
      have h3 : within xs.length f k = false := by simpa using h1
      rw [h3] at at2
      clear h1 e e' h3
      go_enter Tryz.func129, Tryz.ntmps129
      go_wp2_with (first | (go_at_call 166; refine ct.mono ?_; rintro e w1 ⟨rfl, hw⟩; rw [hw]; clear hw) | (go_at_call 167; refine at2.mono ?_; rintro e w1 ⟨rfl, hw⟩; rw [hw]; clear hw))
      go_ret
      exact ⟨rfl, h, grown_refl _ _⟩

end Go.Proofs.YtbdoekffadmejaaGreatDoor.Bp.Ar
