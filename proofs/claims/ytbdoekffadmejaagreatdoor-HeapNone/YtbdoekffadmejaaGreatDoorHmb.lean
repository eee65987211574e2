/- Package heap: what is asked first (nil, dead, in work), where closures are, words, headers, pointers. -/
import Derived.Test.YtbdoekffadmejaaGreatDoorHma
namespace Go.Proofs.YtbdoekffadmejaaGreatDoor
open Go.RowKit
set_option linter.unusedVariables false
set_option linter.unusedSimpArgs false
set_option maxRecDepth 100000

/-- A dead heap. -/
structure Dm (w : World) (γ : Nat → Tg) (h : Nat) (c : Cf) : Prop where
  box : w.heap[h]? = some (.cells (hcells c (.pointer none) (.pointer none) (.slice none 0 0) (.map none) (.pointer none) (.pointer none) true) 96 (0, 0))
  tag : γ h = .hb
  gl : Gl w γ
theorem Dm.fr {T : Tg → Prop} {w w' : World} {γ γ' : Nat → Tg} {h : Nat} {c : Cf} (q : Dm w γ h c) (F : Fr T w w' γ γ') (t : ¬ T .hb) (n : ¬ T .no) : Dm w' γ' h c :=
  ⟨F.at_ q.box (by rw [q.tag]; exact t), F.tg (lt_of q.box) q.tag, q.gl.fr F n⟩
/-- What is asked first of a heap. -/
structure Sg (w : World) (hv : Value) (g r k : Int) : Prop where
  gone : Calls Tryz.prog 48 #[hv] w fun e w' => e = .returned (.int .i64 g) ∧ w' = w
  rest : Calls Tryz.prog 58 #[hv] w fun e w' => e = .returned (.int .i64 r) ∧ w' = w
  work : Calls Tryz.prog 65 #[hv] w fun e w' => e = .returned (.int .i64 k) ∧ w' = w
theorem gone_nil (w : World) : Calls Tryz.prog 48 #[.pointer none] w fun e w' => e = .returned (.int .i64 1) ∧ w' = w := by
  go_enter Tryz.func48, Tryz.ntmps48
  go_wp2
  go_ret
  exact ⟨rfl, rfl⟩
theorem sg_nil (w : World) : Sg w (.pointer none) 1 1 1 := by
  have G := gone_nil w
  refine ⟨G, ?_, ?_⟩
  · go_enter Tryz.func58, Tryz.ntmps58
    go_wp2_with (go_at_call 48; refine G.mono ?_; rintro e w1 ⟨rfl, hw⟩; rw [hw]; clear hw)
    go_ret
    exact ⟨rfl, rfl⟩
  · go_enter Tryz.func65, Tryz.ntmps65
    go_wp2_with (go_at_call 48; refine G.mono ?_; rintro e w1 ⟨rfl, hw⟩; rw [hw]; clear hw)
    go_ret
    exact ⟨rfl, rfl⟩
theorem sg_dead {w : World} {γ : Nat → Tg} {h : Nat} {c : Cf} (q : Dm w γ h c) : Sg w (pt h) 9 9 9 := by
  have c11 : w.cell? ⟨h, 11, none⟩ = some (.bool true) := by rw [Joins.cell_of_block q.box]; rfl
  clear q
  have G : Calls Tryz.prog 48 #[pt h] w fun e w' => e = .returned (.int .i64 9) ∧ w' = w := by
    go_enter Tryz.func48, Tryz.ntmps48
    go_wp2
    go_ret
    exact ⟨rfl, rfl⟩
  refine ⟨G, ?_, ?_⟩
  · go_enter Tryz.func58, Tryz.ntmps58
    go_wp2_with (go_at_call 48; refine G.mono ?_; rintro e w1 ⟨rfl, hw⟩; rw [hw]; clear hw)
    go_ret
    exact ⟨rfl, rfl⟩
  · go_enter Tryz.func65, Tryz.ntmps65
    go_wp2_with (go_at_call 48; refine G.mono ?_; rintro e w1 ⟨rfl, hw⟩; rw [hw]; clear hw)
    go_ret
    exact ⟨rfl, rfl⟩
theorem gone_live {w : World} {γ : Nat → Tg} {h : Nat} {k : Value} {A : Ad} {H : Hs} (q : Hm w γ h k A H) : Calls Tryz.prog 48 #[pt h] w fun e w' => e = .returned (.int .i64 0) ∧ w' = w := by
  have c11 := q.cd
  clear q
  go_enter Tryz.func48, Tryz.ntmps48
  go_wp2
  go_ret
  exact ⟨rfl, rfl⟩
theorem sg_rest {w : World} {γ : Nat → Tg} {h : Nat} {A : Ad} {H : Hs} (q : Hm w γ h (.pointer none) A H) : Sg w (pt h) 0 0 10 := by
  have G := gone_live q
  have c10 := q.ck
  clear q
  refine ⟨G, ?_, ?_⟩
  · go_enter Tryz.func58, Tryz.ntmps58
    go_wp2_with (go_at_call 48; refine G.mono ?_; rintro e w1 ⟨rfl, hw⟩; rw [hw]; clear hw)
    go_ret
    exact ⟨rfl, rfl⟩
  · go_enter Tryz.func65, Tryz.ntmps65
    go_wp2_with (go_at_call 48; refine G.mono ?_; rintro e w1 ⟨rfl, hw⟩; rw [hw]; clear hw)
    go_ret
    exact ⟨rfl, rfl⟩
theorem sg_work {w : World} {γ : Nat → Tg} {h b : Nat} {A : Ad} {H : Hs} (q : Hm w γ h (pt b) A H) : Sg w (pt h) 0 10 0 := by
  have G := gone_live q
  have c10 := q.ck
  clear q
  refine ⟨G, ?_, ?_⟩
  · go_enter Tryz.func58, Tryz.ntmps58
    go_wp2_with (go_at_call 48; refine G.mono ?_; rintro e w1 ⟨rfl, hw⟩; rw [hw]; clear hw)
    go_ret
    exact ⟨rfl, rfl⟩
  · go_enter Tryz.func65, Tryz.ntmps65
    go_wp2_with (go_at_call 48; refine G.mono ?_; rintro e w1 ⟨rfl, hw⟩; rw [hw]; clear hw)
    go_ret
    exact ⟨rfl, rfl⟩

/-! ### Numbers -/
def oneB (i n : Int) : Bool := decide (0 ≤ i ∧ i < n)
theorem oneB_yes {i n : Int} : oneB i n = true ↔ 0 ≤ i ∧ i < n := by simp [oneB]
theorem oneB_no {i n : Int} : oneB i n = false ↔ ¬ (0 ≤ i ∧ i < n) := by simp [oneB]
theorem one_any (w : World) (i n : Int) : Calls Tryz.prog 51 #[.int .i64 i, .int .i64 n] w fun e w' => e = .returned (.bool (oneB i n)) ∧ w' = w := by
  by_cases a : 0 ≤ i
  · by_cases b : i < n
    · rw [oneB_yes.2 ⟨a, b⟩]
      go_enter Tryz.func51, Tryz.ntmps51
      go_wp2
      go_ret
      exact ⟨rfl, rfl⟩
    · rw [oneB_no.2 (fun q => b q.2)]
      go_enter Tryz.func51, Tryz.ntmps51
      go_wp2
      go_ret
      exact ⟨rfl, rfl⟩
  · rw [oneB_no.2 (fun q => a q.1)]
    go_enter Tryz.func51, Tryz.ntmps51
    go_wp2
    go_ret
    exact ⟨rfl, rfl⟩
def withB (n a b : Int) : Bool := decide (a ≤ n ∧ n ≤ b)
theorem with_any (w : World) (n a b : Int) : Calls Tryz.prog 144 #[.int .i64 n, .int .i64 a, .int .i64 b] w fun e w' => e = .returned (.bool (withB n a b)) ∧ w' = w := by
  by_cases q : a ≤ n
  · by_cases r : n ≤ b
    · rw [show withB n a b = true by simp [withB, q, r]]
      go_enter Tryz.func144, Tryz.ntmps144
      go_wp2
      go_ret
      exact ⟨rfl, rfl⟩
    · rw [show withB n a b = false by simp [withB, r]]
      go_enter Tryz.func144, Tryz.ntmps144
      go_wp2
      go_ret
      exact ⟨rfl, rfl⟩
  · rw [show withB n a b = false by simp [withB, q]]
    go_enter Tryz.func144, Tryz.ntmps144
    go_wp2
    go_ret
    exact ⟨rfl, rfl⟩

/-! ### Words -/
abbrev isI := Bp.isI
theorem read_in {xs : List Int} (h : ∀ x ∈ xs, 0 ≤ x ∧ x ≤ 18446744073709551615) (i : Int) : 0 ≤ Bp.Ar.readW xs i ∧ Bp.Ar.readW xs i ≤ 18446744073709551615 := by
  unfold Bp.Ar.readW
  split
  · rename_i q
    have : i.toNat < xs.length := by omega
    rw [List.getD_eq_getElem?_getD, List.getElem?_eq_getElem this]
    exact h _ (List.getElem_mem _)
  · omega
section
variable {w : World} {γ : Nat → Tg} {h : Nat} {k : Value} {A : Ad} {H : Hs}
theorem word_any (q : Hm w γ h k A H) (i : Int) : Calls Tryz.prog 57 #[pt h, .int .i64 i] w fun e w' => e = .returned (.int .u64 (Bp.Ar.readW H.xs i)) ∧ w' = w := by
  have c6 := q.ca
  obtain ⟨ab, hA, _, _⟩ := q.ar
  have R := Bp.Ar.read_any hA i
  clear q hA
  go_enter Tryz.func57, Tryz.ntmps57
  go_wp2_with (go_at_call 116; refine R.mono ?_; rintro e w1 ⟨rfl, hw⟩; rw [hw]; clear hw)
  go_ret
  exact ⟨rfl, rfl⟩
/-- A pointer's number. -/
def ptrW (xs : List Int) (i : Int) : Int := wrap64 (Bp.Ar.readW xs i)
theorem pointer_any (q : Hm w γ h k A H) (at' i : Int) (ha : 0 ≤ at' ∧ at' ≤ 1000000) (hi : 0 ≤ i ∧ i ≤ 1000000) : Calls Tryz.prog 52 #[pt h, .int .i64 at', .int .i64 i] w fun e w' => e = .returned (.int .i64 (ptrW H.xs (at' + 1 + i))) ∧ w' = w := by
  have W := word_any q (at' + 1 + i)
  unfold ptrW
  clear q
  go_enter Tryz.func52, Tryz.ntmps52
  go_wp2_with (go_at_call 57; refine W.mono ?_; rintro e w1 ⟨rfl, hw⟩; rw [hw]; clear hw)
  go_ret
  exact ⟨rfl, rfl⟩
/-- A header's word, taken apart. -/
abbrev hdV (x : Int) : Value := .agg #[.int .i64 (Wo.unK x), .int .i64 (Wo.unI x), .int .i64 (Wo.unP x), .int .i64 (Wo.unN x)]
theorem hd4 {w : World} {b : Nat} {l : Array Value} {t : TypeId} (h : w.heap[b]? = some (.cells l t (0, 0))) (i : Nat) : w.cell? ⟨b, i, none⟩ = l[i]? := by rw [Joins.cell_of_block h]
theorem set4 {W : World} {b : Nat} {u0 u1 u2 u3 : Value} {t : TypeId} (h : W.heap[b]? = some (.cells #[u0, u1, u2, u3] t (0, 0))) (x0 x1 x2 x3 : Value) :
    ((((W.setCell ⟨b, 0, none⟩ x0).setCell ⟨b, 1, none⟩ x1).setCell ⟨b, 2, none⟩ x2).setCell ⟨b, 3, none⟩ x3).heap[b]? = some (.cells #[x0, x1, x2, x3] t (0, 0)) :=
  (Joins.block_setCell (Joins.block_setCell (Joins.block_setCell (Joins.block_setCell h _) _) _) _).trans (by simp)
theorem below_set {m : Nat} {w W : World} {b i : Nat} {v : Value} (B : Below m w W) (hb : m ≤ b) : Below m w (W.setCell ⟨b, i, none⟩ v) :=
  ⟨B.os, B.tape, B.output, by simpa using B.size, fun k hk => (Below.heap_setCell _ _ _ _ (by simp; omega)).trans (B.block k hk)⟩
theorem size30 : (Tryz.prog.info? 30).map (·.size) = some 4 := by kernel_rfl
theorem head_any (q : Hm w γ h k A H) (i : Int) : Calls Tryz.prog 50 #[pt h, .int .i64 i] w fun e w' => e = .returned (hdV (Bp.Ar.readW H.xs i)) ∧ Below w.heap.size w w' := by
  have B1 := (Below.refl _ w).alloc (Nat.le_refl _) (.cells #[.int .i64 0, .int .i64 0, .int .i64 0, .int .i64 0] 30)
  have q1 := q.later B1
  have W := word_any q1 i
  have b := read_in q.word i
  generalize Bp.Ar.readW H.xs i = x at *
  have sp := q1.gl.sp
  have U := Wo.unpack_any x _ sp b.1 b.2
  unfold hdV
  generalize Wo.unK x = x1 at *
  generalize Wo.unI x = x2 at *
  generalize Wo.unP x = x3 at *
  generalize Wo.unN x = x4 at *
  generalize Wo.unE x = x5 at *
  clear q q1 sp
  go_enter Tryz.func50, Tryz.ntmps50
  go_wp2_with (first
    | (go_at_call 57; refine W.mono ?_; rintro e w1 ⟨rfl, hw⟩; rw [hw]; clear hw)
    | (go_at_call 110; refine U.mono ?_; rintro e w1 ⟨rfl, B2⟩; have bb := heap_alloc_new w (.cells #[.int .i64 0, .int .i64 0, .int .i64 0, .int .i64 0] 30); have b0 := (Below.heap_alloc w1 (.cells #[.int .i64 x1, .int .i64 x2, .int .i64 x3, .int .i64 x4] 30) w.heap.size (by have := B2.size; simp at this; omega)).trans ((B2.block w.heap.size (by simp)).trans bb); have HB := Hid.mk b0; have HB2 := Hid.mk B2; have z0 := Joins.unfrozen_of_block b0 0; have z1 := Joins.unfrozen_of_block b0 1; have z2 := Joins.unfrozen_of_block b0 2; have z3 := Joins.unfrozen_of_block b0 3; have p0 := hd4 b0 0; have p1 := hd4 b0 1; have p2 := hd4 b0 2; have p3 := hd4 b0 3; simp only [List.getElem?_toArray, List.getElem?_cons_zero, List.getElem?_cons_succ] at p0 p1 p2 p3; clear bb b0))
  have B3 : Below w.heap.size w (w1.alloc (.cells #[.int .i64 x1, .int .i64 x2, .int .i64 x3, .int .i64 x4] 30)) := by
    have B4 := B1.trans (HB2.out.mono (by simp))
    exact B4.alloc B4.size _
  exact bodyPost_ret (results_cell_row Tryz.results50 _ _ w.heap.size 30 _ (0, 0) _ rfl (set4 HB.out _ _ _ _) Tryz.underlying30 rfl size30) rfl ⟨rfl, below_set (below_set (below_set (below_set B3 (Nat.le_refl _)) (Nat.le_refl _)) (Nat.le_refl _)) (Nat.le_refl _)⟩
end
end Go.Proofs.YtbdoekffadmejaaGreatDoor
