/- The contracts of the arena's own functions New, Read, Write, Move, Clear, for whatever arguments. -/
import Derived.Test.YtldcjbdhcciieaaArena
import Derived.Deep.OwnRows
namespace Go.Proofs.Ytldcjbdhcciieaa
open Go.RowKit
set_option linter.unusedVariables false

/-! ### Laws at a built-in, with the one block that turns -/
theorem step_copy_lay {P : Program} {ops : Array Oper} {o : Oper} {a : Act} {w : World} {K : Act → World → Prop} {Q : Exit → Act → World → Prop} {E : Prop} (hgd : o.guard = none) (d s : Operand) (dT sT : TypeId)
    (ho : o.op = .call { callee := .builtin .copy, args := #[d, s], argTypes := #[dT, sT] }) (elem : TypeId) (hu : P.underlying dT = some (.slice elem)) (hsz : (P.info? elem).map (·.size) = some 1)
    (dp sp : Option Addr) (dLen dCap sLen sCap : Nat) (hd : a.eval d = .slice dp dLen dCap) (hs : a.eval s = .slice sp sLen sCap)
    (g off : Nat) (cur : List Value) (t : TypeId) (hg : w.heap[g]? = some (.cells cur.toArray t (0, 0))) (cs : List Value) (hn : cs.length = Nat.min sLen dLen)
    (hpos : 0 < cs.length → dp = some ⟨g, off, none⟩ ∧ ∃ ad, sp = some ad ∧ ∀ j v, cs[j]? = some v → w.cell? (ad.add j) = some v)
    (hfit : off + cs.length ≤ cur.length) (h1 : ∀ v ∈ cs, v.oneCell' = true)
    (h : ∀ w', Hid (w'.heap[g]? = some (.cells (splice cur off cs).toArray t (0, 0))) → w.grownBy w' (some g) → K (a.put o.dst (goInt cs.length)) w') :
    if Region.wanted o (yielded ops a.tmps) = true then Oper.wp P o a w K Q else E := by
  have hw : Region.wanted o (yielded ops a.tmps) = true := by simp [Region.wanted, hgd]
  rw [if_pos hw]
  by_cases h0 : cs.length = 0
  · obtain rfl : cs = [] := List.eq_nil_of_length_eq_zero h0
    have hrun := run_copy_none (P := P) w dT sT o.type elem dp sp dLen dCap sLen sCap hu hsz (by simpa using hn.symm)
    unfold Oper.wp
    simp [execOp, ho, resolve, invoke, builtin, hd, hs, hrun, Result.andThen]
    exact h w (show _ = _ by simpa [splice] using hg) (grown_refl _ _)
  · obtain ⟨rfl, ad, rfl, hsrc⟩ := hpos (by omega)
    have hrun := run_copy_row (P := P) w dT sT o.type elem g off dLen dCap ad sLen sCap cur.toArray t cs hu hsz hg hn hsrc (by simpa using hfit) h1
    unfold Oper.wp
    simp [execOp, ho, resolve, invoke, builtin, hd, hs, hrun, Result.andThen]
    exact h _ (show _ = _ by simpa [splice] using setRow_heap w g _ _ t _ hg) (grown_row _ _ _)

theorem splice_cons {α : Type} (cur : List α) (off : Nat) (c : α) (cs : List α) (h : off < cur.length) : splice (cur.set off c) (off + 1) cs = splice cur off (c :: cs) := by
  have e : (cur.set off c).take (off + 1) = cur.take off ++ [c] := by
    rw [← List.take_append_getElem (by simpa using h : off < (cur.set off c).length)]
    simp [List.take_set]
    exact List.set_eq_of_length_le (by simp; omega)
  simp only [splice, List.length_cons, e]
  rw [List.drop_set_of_lt (by omega), show off + 1 + cs.length = off + (cs.length + 1) by omega]
  simp

theorem setCells_row (w : World) (g : Nat) (cs : List Value) : ∀ (off : Nat) (cur : List Value) (t : TypeId) (hg : w.heap[g]? = some (.cells cur.toArray t (0, 0))) (hfit : off + cs.length ≤ cur.length),
    (w.setCells g off cs).heap[g]? = some (.cells (splice cur off cs).toArray t (0, 0)) ∧ w.grownBy (w.setCells g off cs) (some g) := by
  induction cs generalizing w with
  | nil => intro off cur t hg _; exact ⟨by simpa [splice, World.setCells] using hg, grown_refl _ _⟩
  | cons c cs ih =>
    intro off cur t hg hfit
    have hs : (w.setCell ⟨g, off, none⟩ c).heap[g]? = some (.cells (cur.set off c).toArray t (0, 0)) := by rw [Joins.block_setCell hg]; simp
    have := ih (w.setCell ⟨g, off, none⟩ c) (off + 1) (cur.set off c) t hs (by simp at hfit ⊢; omega)
    refine ⟨?_, grown_trans (grown_set _ _ _ _) this.2⟩
    refine (this.1).trans ?_
    rw [splice_cons cur off c cs (by simp at hfit; omega)]

/-! ### What is made -/
theorem made_words (n : Nat) : madeCells #[.int .u64 0] n = (row (List.replicate n 0)).toArray := by
  apply Array.ext
  · simp [madeCells, row]
  · intro i h1 h2
    simp [madeCells, row, Nat.mod_one]
theorem info32 : (Try.prog.info? 32).map (fun i => (i.zero, i.size, i.bytes)) = some (some (.int .u64 0), 1, 8) := by kernel_rfl

theorem Has.fresh (T : TypeId) (w : World) (xs : List Int) (hl : xs.length ≤ 524288) : Has T ((w.alloc (.cells (row xs).toArray 32)).alloc (.cells #[.slice (some ⟨w.heap.size, 0, none⟩) xs.length xs.length] T)) (w.heap.size + 1) w.heap.size xs := by
  refine ⟨?_, ?_, by omega, hl⟩
  · have := heap_alloc_new (w.alloc (.cells (row xs).toArray 32)) (.cells #[.slice (some ⟨w.heap.size, 0, none⟩) xs.length xs.length] T)
    simpa using this
  · rw [Below.heap_alloc _ _ _ (by simp)]
    exact heap_alloc_new _ _

def newE (n : Int) : Int := if 1 ≤ n ∧ n ≤ 524288 then 0 else 7
theorem new_ok (n : Nat) (w : World) (h1 : 1 ≤ n) (h2 : n ≤ 524288) :
    Calls Try.prog 8 #[.int .i64 n] w fun e w' => e = .returned (.tuple #[.pointer (some ⟨w.heap.size + 1, 0, none⟩), .int .i64 0]) ∧ Has 52 w' (w.heap.size + 1) w.heap.size (List.replicate n 0) ∧ Below w.heap.size w w' := by
  have hmk := Go.run_make_row' (P := Try.prog) 36 32 (.int .u64 0) 8 Try.underlying36 info32 rfl .i64 .i64 n (by omega) (by omega)
  rw [made_words] at hmk
  have F := Has.fresh 52 w (List.replicate n 0) (by simpa using h2)
  simp only [List.length_replicate] at F
  have HF : Hid (Has 52 _ _ _ _) := F
  clear F
  go_enter Try.func8, Try.ntmps8
  go_wp2
  go_ret2
  exact ⟨rfl, HF.out, by go_grown⟩
theorem new_no (n : Int) (w : World) (h : ¬ (1 ≤ n ∧ n ≤ 524288)) :
    Calls Try.prog 8 #[.int .i64 n] w fun e w' => e = .returned (.tuple #[.pointer none, .int .i64 7]) ∧ w' = w := by
  by_cases h1 : n < 1
  · go_enter Try.func8, Try.ntmps8
    go_wp2
    go_ret2
    exact ⟨rfl, rfl⟩
  · have h2 : 524288 < n := by omega
    have h3 : 1 ≤ n := by omega
    go_enter Try.func8, Try.ntmps8
    go_wp2
    go_ret2
    exact ⟨rfl, rfl⟩
theorem refNew_ok (n : Nat) (w : World) (h1 : 1 ≤ n) (h2 : n ≤ 524288) :
    Calls Try.prog 9 #[.int .i64 n] w fun e w' => e = .returned (.tuple #[.pointer (some ⟨w.heap.size + 1, 0, none⟩), .int .i64 0]) ∧ Has 38 w' (w.heap.size + 1) w.heap.size (List.replicate n 0) ∧ Below w.heap.size w w' := by
  have hmk := Go.run_make_row' (P := Try.prog) 36 32 (.int .u64 0) 8 Try.underlying36 info32 rfl .i64 .i64 n (by omega) (by omega)
  rw [made_words] at hmk
  have F := Has.fresh 38 w (List.replicate n 0) (by simpa using h2)
  simp only [List.length_replicate] at F
  have HF : Hid (Has 38 _ _ _ _) := F
  clear F
  go_enter Try.func9, Try.ntmps9
  go_wp2
  go_ret2
  exact ⟨rfl, HF.out, by go_grown⟩
theorem refNew_no (n : Int) (w : World) (h : ¬ (1 ≤ n ∧ n ≤ 524288)) :
    Calls Try.prog 9 #[.int .i64 n] w fun e w' => e = .returned (.tuple #[.pointer none, .int .i64 7]) ∧ w' = w := by
  by_cases h1 : n < 1
  · go_enter Try.func9, Try.ntmps9
    go_wp2
    go_ret2
    exact ⟨rfl, rfl⟩
  · have h2 : 524288 < n := by omega
    have h3 : 1 ≤ n := by omega
    go_enter Try.func9, Try.ntmps9
    go_wp2
    go_ret2
    exact ⟨rfl, rfl⟩

/-! ### Read and Write -/
theorem read_any {w : World} {p b : Nat} {xs : List Int} (h : Has 52 w p b xs) (i : Int) :
    Calls Try.prog 15 #[.pointer (some ⟨p, 0, none⟩), .int .i64 i] w fun e w' => e = .returned (.tuple #[.int .u64 (readW xs i), .int .i64 (atE xs.length i)]) ∧ w' = w := by
  by_cases hi : 0 ≤ i ∧ i < xs.length
  · obtain ⟨k, rfl⟩ := Int.eq_ofNat_of_zero_le hi.1
    have hk : k < xs.length := by omega
    have c := h.cell
    have cw := h.word k hk
    have l := h.len
    have e1 : readW xs k = xs.getD k 0 := by unfold readW; rw [if_pos hi]; rfl
    have e2 : atE xs.length k = 0 := by unfold atE; rw [if_pos hi]
    rw [e1, e2]
    obtain ⟨x, hx⟩ : ∃ x, xs.getD k 0 = x := ⟨_, rfl⟩
    rw [hx] at cw ⊢
    clear hx e1 e2
    go_enter Try.func15, Try.ntmps15
    go_wp2_with (go_at_call 23; refine (place_ok h k hi).mono ?_; rintro e w' ⟨rfl, rfl⟩)
    go_ret2
    exact ⟨rfl, rfl⟩
  · have e1 : readW xs i = 0 := by unfold readW; rw [if_neg hi]
    have e2 : atE xs.length i = 4 := by unfold atE; rw [if_neg hi]
    rw [e1, e2]
    go_enter Try.func15, Try.ntmps15
    go_wp2_with (go_at_call 23; refine (place_no h i hi).mono ?_; rintro e w' ⟨rfl, rfl⟩)
    go_ret2
    exact ⟨rfl, rfl⟩

theorem write_any {w : World} {p b : Nat} {xs : List Int} (h : Has 52 w p b xs) (i v : Int) :
    Calls Try.prog 14 #[.pointer (some ⟨p, 0, none⟩), .int .i64 i, .int .u64 v] w fun e w' => e = .returned (.int .i64 (atE xs.length i)) ∧ Has 52 w' p b (writeL xs i v) ∧ w.grownBy w' (some b) := by
  by_cases hi : 0 ≤ i ∧ i < xs.length
  · obtain ⟨k, rfl⟩ := Int.eq_ofNat_of_zero_le hi.1
    have hk : k < xs.length := by omega
    have c := h.cell
    have cw := h.word k hk
    have fz := h.free k
    have l := h.len
    have e1 : writeL xs k v = xs.set k v := by unfold writeL; rw [if_pos hi]; rfl
    have e2 : atE xs.length k = 0 := by unfold atE; rw [if_pos hi]
    rw [e1, e2]
    go_enter Try.func14, Try.ntmps14
    go_wp2_with (go_at_call 23; refine (place_ok h k hi).mono ?_; rintro e w' ⟨rfl, rfl⟩)
    go_ret
    exact ⟨rfl, h.put k v, grown_set _ _ _ _⟩
  · have e1 : writeL xs i v = xs := by unfold writeL; rw [if_neg hi]
    have e2 : atE xs.length i = 4 := by unfold atE; rw [if_neg hi]
    rw [e1, e2]
    go_enter Try.func14, Try.ntmps14
    go_wp2_with (go_at_call 23; refine (place_no h i hi).mono ?_; rintro e w' ⟨rfl, rfl⟩)
    go_ret
    exact ⟨rfl, h, grown_refl _ _⟩

/-! ### Move and Clear -/
theorem row_splice (xs ys : List Int) (o : Nat) : row (splice xs o ys) = splice (row xs) o (row ys) := by simp [row, splice, List.map_take, List.map_drop]
theorem row_cut (xs : List Int) (f k : Nat) : row ((xs.drop f).take k) = ((row xs).drop f).take k := by simp [row, List.map_take, List.map_drop]
theorem row_one (xs : List Int) : ∀ v ∈ row xs, v.oneCell' = true := by
  intro v hv
  simp only [row, List.mem_map] at hv
  obtain ⟨x, _, rfl⟩ := hv
  rfl
theorem Has.spliced {T : TypeId} {w w' : World} {p b o : Nat} {xs ys : List Int} (h : Has T w p b xs) (hf : o + ys.length ≤ xs.length) (hw : w'.heap[b]? = some (.cells (splice (row xs) o (row ys)).toArray 32 (0, 0))) (hg : w.grownBy w' (some b)) : Has T w' p b (splice xs o ys) := by
  have e : (splice xs o ys).length = xs.length := length_splice _ _ _ hf
  refine ⟨?_, ?_, h.ne, by rw [e]; exact h.len⟩
  · rw [hg.block p h.lt.1 (by simpa using h.ne), h.box, e]
  · rw [hw, row_splice]
theorem size32 : (Try.prog.info? 32).map (·.size) = some 1 := by kernel_rfl

theorem Has.drew {T : TypeId} {w : World} {p b : Nat} {xs : List Int} (h : Has T w p b xs) : Has T w.drew p b xs := ⟨h.box, h.words, h.ne, h.len⟩
theorem grown_drew (w : World) (r : Option Nat) : w.grownBy w.drew r := ⟨rfl, rfl, rfl, Nat.le_refl _, fun _ _ _ => rfl⟩
theorem cut_len (xs : List Int) (f k : Nat) (hf : f + k ≤ xs.length) : ((xs.drop f).take k).length = k := by simp; omega
theorem cut_row (xs : List Int) (f k : Nat) (hf : f + k ≤ xs.length) : (row ((xs.drop f).take k)).length = Nat.min k k := by rw [row_length, cut_len _ _ _ hf]; simp
theorem cut_fit (xs : List Int) (t f k : Nat) (ht : t + k ≤ xs.length) (hf : f + k ≤ xs.length) : t + (row ((xs.drop f).take k)).length ≤ (row xs).length := by rw [row_length, row_length, cut_len _ _ _ hf]; exact ht
theorem cut_src {T : TypeId} {w : World} {p b : Nat} {xs : List Int} (h : Has T w p b xs) (t f k : Nat) (hf : f + k ≤ xs.length) : 0 < (row ((xs.drop f).take k)).length → (some (⟨b, t, none⟩ : Addr)) = some ⟨b, t, none⟩ ∧ ∃ ad, (some (⟨b, f, none⟩ : Addr)) = some ad ∧ ∀ j v, (row ((xs.drop f).take k))[j]? = some v → w.cell? (ad.add j) = some v := by
  intro _
  refine ⟨rfl, _, rfl, ?_⟩
  intro j v hj
  rw [row_cut, List.getElem?_take] at hj
  split at hj
  · rw [List.getElem?_drop] at hj
    have e : (⟨b, f, none⟩ : Addr).add j = ⟨b, f + j, none⟩ := by unfold Addr.add; split <;> simp_all
    rw [e, Joins.cell_of_block h.words, List.getElem?_toArray, hj]
  · cases hj

set_option maxHeartbeats 1000000 in
theorem move_in {w : World} {p b : Nat} {xs : List Int} (h : Has 52 w p b xs) (t f k : Nat) (ht : t + k ≤ xs.length) (hf : f + k ≤ xs.length) (hk : 0 < k) :
    Calls Try.prog 16 #[.pointer (some ⟨p, 0, none⟩), .int .i64 t, .int .i64 f, .int .i64 k] w fun e w' => e = .returned (.int .i64 0) ∧ Has 52 w' p b (splice xs t ((xs.drop f).take k)) ∧ w.grownBy w' (some b) := by
  have c := h.cell
  have l := h.len
  have g0 : ¬ ((k : Int) < 0) := by omega
  have wt : within xs.length t k = true := by simp [within]; omega
  have wf : within xs.length f k = true := by simp [within]; omega
  have ct := count_any (w := w) (p := p) (k : Int)
  rw [if_neg g0] at ct
  have at1 := has_any h t k (by omega)
  rw [wt] at at1
  have at2 := has_any h f k (by omega)
  rw [wf] at at2
  have n1 : (t : Int) ≤ t + k := by omega
  have n2 : (t : Int) + k ≤ xs.length := by omega
  have n3 : (f : Int) ≤ f + k := by omega
  have n4 : (f : Int) + k ≤ xs.length := by omega
  have n5 : ¬ (xs.length = t) := by omega
  have n6 : ¬ (xs.length = f) := by omega
  have n7 : (0 : Int) ≤ (t : Int) + k := by omega
  have n8 : (0 : Int) ≤ (f : Int) + k := by omega
  have q1 : IntKind.i64.wrap ((t : Int) + k) = (t : Int) + k := by rw [IntKind.wrap_i64]; omega
  have q2 : IntKind.i64.wrap ((f : Int) + k) = (f : Int) + k := by rw [IntKind.wrap_i64]; omega
  have q3 : ((t : Int) + k).toNat = t + k := by omega
  have q4 : ((f : Int) + k).toNat = f + k := by omega
  go_enter Try.func16, Try.ntmps16
  go_wp2_with (first | (go_at_call 24; refine ct.mono ?_; rintro e w1 ⟨rfl, hw⟩; rw [hw]; clear hw) | (go_at_call_of 25 (Value.int IntKind.i64 (t : Int)); refine at1.mono ?_; rintro e w1 ⟨rfl, hw⟩; rw [hw]; clear hw) | (go_at_call_of 25 (Value.int IntKind.i64 (f : Int)); refine at2.mono ?_; rintro e w1 ⟨rfl, hw⟩; rw [hw]; clear hw))
  go_region_law (refine step_copy_lay rfl (.tmp 36) (.tmp 45) 36 36 rfl 32 Try.underlying36 size32 (some ⟨b, t, none⟩) (some ⟨b, f, none⟩) k (xs.length - t) k (xs.length - f) (by simp [Act.eval, Act.put]) (by simp [Act.eval, Act.put]) b t (row xs) 32 h.drew.words (row ((xs.drop f).take k)) (cut_row xs f k hf) (cut_src h.drew t f k hf) (cut_fit xs t f k ht hf) (row_one _) ?_; intro w4 hg4 hb4)
  all_goals (go_wp2; go_ret; exact ⟨rfl, h.spliced (by rw [cut_len xs f k hf]; exact ht) hg4.out (grown_trans (grown_drew _ _) hb4), grown_trans (grown_drew _ _) hb4⟩)

theorem addr_cut (b n t : Nat) : ∃ A : Addr, (if n = t then (some (⟨b, 0, none⟩ : Addr)) else some ⟨b, t, none⟩) = some A := by
  split
  · exact ⟨_, rfl⟩
  · exact ⟨_, rfl⟩
set_option maxHeartbeats 1000000 in
theorem move_none {w : World} {p b : Nat} {xs : List Int} (h : Has 52 w p b xs) (t f : Nat) (ht : t ≤ xs.length) (hf : f ≤ xs.length) :
    Calls Try.prog 16 #[.pointer (some ⟨p, 0, none⟩), .int .i64 t, .int .i64 f, .int .i64 0] w fun e w' => e = .returned (.int .i64 0) ∧ Has 52 w' p b xs ∧ w.grownBy w' (some b) := by
  have c := h.cell
  have l := h.len
  have wt : within xs.length t 0 = true := by simp [within]; omega
  have wf : within xs.length f 0 = true := by simp [within]; omega
  have ct := count_any (w := w) (p := p) (0 : Int)
  rw [if_neg (by omega)] at ct
  have at1 := has_any h t 0 (by omega)
  rw [wt] at at1
  have at2 := has_any h f 0 (by omega)
  rw [wf] at at2
  have q1 : IntKind.i64.wrap (t : Int) = (t : Int) := by rw [IntKind.wrap_i64]; omega
  have q2 : IntKind.i64.wrap (f : Int) = (f : Int) := by rw [IntKind.wrap_i64]; omega
  obtain ⟨A, hA⟩ := addr_cut b xs.length t
  obtain ⟨A', hA'⟩ := addr_cut b xs.length f
  go_enter Try.func16, Try.ntmps16
  go_wp2_with (first | (go_at_call 24; refine ct.mono ?_; rintro e w1 ⟨rfl, hw⟩; rw [hw]; clear hw) | (go_at_call_of 25 (Value.int IntKind.i64 (t : Int)); refine at1.mono ?_; rintro e w1 ⟨rfl, hw⟩; rw [hw]; clear hw) | (go_at_call_of 25 (Value.int IntKind.i64 (f : Int)); refine at2.mono ?_; rintro e w1 ⟨rfl, hw⟩; rw [hw]; clear hw))
  go_region_law (refine step_copy_lay rfl (.tmp 36) (.tmp 45) 36 36 rfl 32 Try.underlying36 size32 (some A) (some A') 0 (xs.length - t) 0 (xs.length - f) (by simp [Act.eval, Act.put]) (by simp [Act.eval, Act.put]) b 0 (row xs) 32 h.drew.words [] rfl (fun hh => absurd hh (by decide)) (Nat.zero_le _) (fun _ hv => by cases hv) ?_; intro w4 hg4 hb4)
  all_goals (go_wp2; go_ret; exact ⟨rfl, h.spliced (o := 0) (ys := []) (Nat.zero_le _) hg4.out (grown_trans (grown_drew _ _) hb4), grown_trans (grown_drew _ _) hb4⟩)
end Go.Proofs.Ytldcjbdhcciieaa
