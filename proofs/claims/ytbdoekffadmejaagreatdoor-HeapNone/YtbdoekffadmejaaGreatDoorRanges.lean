/- The pool's functions that range over its runs: Left, Longest, Alloc. -/
import Derived.Test.YtbdoekffadmejaaGreatDoorParts
namespace Go.Proofs.YtbdoekffadmejaaGreatDoor.Bp
open Go.RowKit Go.Shelf
set_option linter.unusedVariables false
attribute [local go_sem] Oper.semAt_some

theorem parts_stops (n b Bs Br N c : Nat) (r : Bool) (f : Nat → Int) (hn : 1 ≤ n) (hN : N ≤ 4096) (w : World) (hL : Lies w b Bs Br f N c r) :
    SeqStopsK Fence.wide n Tryz.prog 173 #[.pointer (some ⟨Bs, 0, none⟩), .pointer (some ⟨Br, 0, none⟩)] (fun x : Part f N r => #[Value.int .i64 (x.1.1 : Int), Value.int .i64 (x.1.2 : Int)]) (Stay b Bs Br)
      (fun ys => ys.map Subtype.val = parts f N r) (fun pre => pre.map Subtype.val <+: parts f N r) (parts f N r).length w := fun l J Jx W hW hJ _ hY h0 =>
  parts1_in n l b Bs Br N c r f hn hN J Jx W hJ hY (hL.below hW) h0

/-- The row is at hand in the two boxes that the iterator keeps. -/
theorem lies_new {w : World} {p b N : Nat} {f : Nat → Int} (h : Has 182 w p b f N) (r : Bool) : Lies ((w.alloc (.cells #[.slice (some ⟨b, 0, none⟩) N N] 31)).alloc (.cells #[.bool r] 4)) b w.heap.size (w.heap.size + 1) f N N r := by
  have l := h.lt
  refine ⟨⟨_, by rw [Below.heap_alloc _ _ _ (by simp; omega), Below.heap_alloc _ _ _ (by omega)]; exact h.nums, fun j hj => by rw [List.getElem?_toArray, row_get f N j hj]⟩, ?_, Nat.le_refl _, ?_⟩
  · rw [Below.heap_alloc _ _ _ (by simp)]; exact heap_alloc_new _ _
  · have := heap_alloc_new (w.alloc (.cells #[.slice (some ⟨b, 0, none⟩) N N] 31)) (.cells #[.bool r] 4); simpa using this
theorem box_cell (W : World) (v : Value) (t : TypeId) : (W.alloc (.cells #[v] t)).cell? ⟨W.heap.size, 0, none⟩ = some v ∧ (W.alloc (.cells #[v] t)).frozen? ⟨W.heap.size, 0, none⟩ = false :=
  ⟨by rw [Joins.cell_of_block (heap_alloc_new W (.cells #[v] t))]; rfl, Joins.unfrozen_of_block (heap_alloc_new W (.cells #[v] t)) 0⟩
theorem box_alloc {W : World} {a : Addr} {v : Value} (o : Obj) (h : W.cell? a = some v) : (W.alloc o).cell? a = some v := Lib.cell?_alloc_some _ h
theorem thaw_alloc {W : World} {a : Addr} {v : Value} (o : Obj) (h : W.cell? a = some v) (hf : W.frozen? a = false) : (W.alloc o).frozen? a = false :=
  (World.frozen?_of_block (w := W) (a := a) (Below.heap_alloc _ _ _ (World.block_lt_of_cell? _ _ h))).trans hf
theorem below2 (w : World) (o1 o2 : Obj) : Below w.heap.size w ((w.alloc o1).alloc o2) := ((Below.refl _ w).alloc (Nat.le_refl _) _).alloc (by simp) _
theorem below3 (w : World) (o1 o2 o3 : Obj) : Below w.heap.size w (((w.alloc o1).alloc o2).alloc o3) := (((Below.refl _ w).alloc (Nat.le_refl _) _).alloc (by simp) _).alloc (by simp; omega) _
theorem stay_set {b Bs Br B i : Nat} (W : World) (v : Value) (h1 : b ≠ B) (h2 : Bs ≠ B) (h3 : Br ≠ B) : Stay b Bs Br W (W.setCell ⟨B, i, none⟩ v) :=
  ⟨Below.heap_setCell _ _ _ _ h1, Below.heap_setCell _ _ _ _ h2, Below.heap_setCell _ _ _ _ h3⟩
theorem part_le {f : Nat → Int} {N : Nat} {r : Bool} (x : Part f N r) : x.1.1 + x.1.2 ≤ N := by
  obtain ⟨h1, h2, _⟩ := parts_mem x.2
  have := tog_le f (i := x.1.1) (N := N) (by omega)
  omega
theorem sumR_le {f : Nat → Int} {N : Nat} {r : Bool} : ∀ pre : List (Part f N r), sumR (pre.map Subtype.val) ≤ pre.length * N := by
  intro pre
  induction pre with
  | nil => simp [sumR]
  | cons x pre ih =>
    have := part_le x
    simp only [sumR, List.map_cons, List.sum_cons, List.length_cons, Nat.succ_mul] at ih ⊢
    omega
theorem sumR_bound {f : Nat → Int} {N : Nat} {r : Bool} (hN : N ≤ 4096) (pre : List (Part f N r)) (h : pre.length < (parts f N r).length) : sumR (pre.map Subtype.val) ≤ 16777216 := by
  have h1 := sumR_le pre
  have h2 := parts_len f N r
  have h3 : pre.length * N ≤ 4096 * 4096 := Nat.mul_le_mul (by omega) hN
  omega
theorem sumR_snoc {f : Nat → Int} {N : Nat} {r : Bool} (pre : List (Part f N r)) (x : Part f N r) : sumR ((pre ++ [x]).map Subtype.val) = sumR (pre.map Subtype.val) + x.1.2 := by simp [sumR]
theorem maxR_snoc {f : Nat → Int} {N : Nat} {r : Bool} (pre : List (Part f N r)) (x : Part f N r) : maxR ((pre ++ [x]).map Subtype.val) = max (maxR (pre.map Subtype.val)) x.1.2 := by simp [maxR]
theorem maxR_bound {f : Nat → Int} {N : Nat} {r : Bool} (pre : List (Part f N r)) : maxR (pre.map Subtype.val) ≤ N := by
  have : ∀ (l : List (Part f N r)) (m : Nat), m ≤ N → (l.map Subtype.val).foldl (fun m s => max m s.2) m ≤ N := by
    intro l
    induction l with
    | nil => intro m h; simpa using h
    | cons x l ih =>
      intro m h
      have := part_le x
      simp only [List.map_cons, List.foldl_cons]
      exact ih _ (by omega)
  exact this pre 0 (Nat.zero_le _)

/-! ### Left -/
set_option maxRecDepth 100000 in
set_option maxHeartbeats 2000000 in
theorem left_ok {w : World} {p b N : Nat} {f : Nat → Int} (h : Has 182 w p b f N) :
    Calls Tryz.prog 87 #[.pointer (some ⟨p, 0, none⟩)] w fun e w' => e = .returned (.int .i64 (left f N)) ∧ Below w.heap.size w w' := by
  refine (callsIn_wide (n := 3)).1 ?_
  refine callsIn_of_wp_marks Tryz.func87 rfl trivial ?_ rfl
  simp only [Tryz.ntmps87, List.size_toArray, List.length_cons, List.length_nil, Nat.reduceAdd, Nat.reduceSub, Array.replicate_succ, Array.replicate_zero, List.push_toArray, List.append_toArray, List.nil_append, List.cons_append]
  have hlt := h.lt
  have hlen := h.len
  have h1 := h.later ((Below.refl _ w).alloc (Nat.le_refl _) (.cells #[.int .i64 0] 3))
  gi_wp2_with (first | (refine ⟨trivial, ?_⟩; gi_at_call 143; refine (callsIn_wide.2 (row_ok h1)).mono ?_; rintro e w1 ⟨rfl, hw⟩; rw [hw]; clear hw) | (refine ⟨trivial, ?_⟩; gi_at_call 142; refine (callsIn_wide.2 (parts_ok _ b N N true)).mono ?_; rintro e w1 ⟨rfl, hw⟩; rw [hw]; clear hw))
  have hs := box_cell w (.int .i64 0) 3
  have L := lies_new h1 true
  simp only [World.size_alloc] at L
  have hB0 := below3 w (.cells #[.int .i64 0] 3) (.cells #[.slice (some ⟨b, 0, none⟩) N N] 31) (.cells #[.bool true] 4)
  refine wpIn_rangeFunc_ownF rfl (by decide) (gf := 173) (lb := #[.pointer (some ⟨w.heap.size + 1, 0, none⟩), .pointer (some ⟨w.heap.size + 1 + 1, 0, none⟩)]) rfl trivial (enters_of Tryz.func173 (by kernel_rfl) rfl)
    (parts_stops 2 b (w.heap.size + 1) (w.heap.size + 1 + 1) N N true f (by decide) h.len _ L) Stay.trans (Stay.put (by simp <;> omega) (by simp <;> omega) (by simp <;> omega)) (Below.refl _ _) (fun _ => rfl)
    (fun pre W => (W.cell? ⟨w.heap.size, 0, none⟩ = some (.int .i64 (sumR (pre.map Subtype.val) : Nat)) ∧ W.frozen? ⟨w.heap.size, 0, none⟩ = false) ∧ Below w.heap.size w W)
    (fun _ _ _ => False)
    (OwnFrom.and (Own.from (fun s A B row hs hg hr => ⟨cell_kept hs.1 hg hr, (frozen_kept hs.1 hg hr).trans hs.2⟩) _) (ownFrom_below (Nat.le_refl _) (by simp; omega)))
    (fun _ _ _ _ _ hs _ _ => hs)
    ⟨⟨box_alloc _ (box_alloc _ hs.1), thaw_alloc _ (box_alloc _ hs.1) (thaw_alloc _ hs.1 hs.2)⟩, hB0⟩
    (fun x => { tmps := #[.pointer (some ⟨p, 0, none⟩), undef, .int .i64 0, .pointer (some ⟨w.heap.size, 0, none⟩), undef, .int .i64 x.1.2, .pointer (some ⟨p, 0, none⟩), .slice (some ⟨b, 0, none⟩) N N, .func (.func 173) #[] #[.pointer (some ⟨w.heap.size + 1, 0, none⟩), .pointer (some ⟨w.heap.size + 1 + 1, 0, none⟩)], .int .i64 x.1.1, .int .i64 x.1.2, undef, undef, undef, undef], defers := [] }) ?assign ?body ?done ?stop
  case assign =>
    intro l x W K hK
    gi_wp2
    exact hK
  case body =>
    rintro l pre x W ⟨⟨hc, hf⟩, hB⟩ hpl
    have b1 := part_le x
    have b2 := sumR_bound hlen pre hpl
    have e1 := sumR_snoc pre x
    obtain ⟨s, hs⟩ : ∃ s, sumR (pre.map Subtype.val) = s := ⟨_, rfl⟩
    obtain ⟨x1, hx1⟩ : ∃ x1, x.1.1 = x1 := ⟨_, rfl⟩
    obtain ⟨x2, hx2⟩ : ∃ x2, x.1.2 = x2 := ⟨_, rfl⟩
    rw [hs] at hc b2 e1
    rw [hx2] at e1
    rw [hx1, hx2] at b1
    clear hs
    simp only [hx1, hx2]
    gi_wp2
    all_goals refine ⟨KeepsOthers.setCell _ _ _, stay_set _ _ (by omega) (by omega) (by omega), ⟨?_, by rw [World.frozen?_setCell]; exact hf⟩, hB.setCell (p := ⟨w.heap.size, 0, none⟩) (Nat.le_refl _) _⟩
    rw [e1]
    exact World.cell?_setCell_same' _ _ _ (by rw [hc]; rfl)
  case done =>
    rintro D ys W hD hy ⟨⟨hc, _⟩, hB⟩ hK
    rw [hy] at hc
    gi_wp2
    refine ⟨by simp, .inl ⟨_, _, rfl, run_takeDeferred hK, ?_⟩⟩
    exact ⟨_, results_tmp rfl _ _ _, rfl, hB.trans (belowK_b (w := w) (Nat.le_refl _) W D _ _ (by simp at hD; omega) hK rfl rfl)⟩
  case stop =>
    rintro D c pre W _ _ h _
    exact h.elim

end Go.Proofs.YtbdoekffadmejaaGreatDoor.Bp
