/- Package stack: the range over no frames; the law's walk over a nil stack. -/
import Derived.Test.YtglimbpnekephaaDoorFrm
import Derived.Test.YtglimbpnekephaaDoorOpn
import Derived.Laws.EntriesVeiled
import Derived.Sort.CutIn
import Derived.Defers
import Derived.Recover
namespace Go.Proofs.YtglimbpnekephaaDoor
open Go.RowKit Go.Shelf
set_option linter.unusedVariables false
set_option linter.unusedSimpArgs false
attribute [local go_sem] Oper.semAt_some

theorem inrow_mk (w : World) (ga : Option Addr) (n c : Nat) : Calls Tryd.prog 54 #[.slice ga n c] w fun e w' => e = .returned (.func (.func 59) #[] #[.pointer (some ⟨w.heap.size, 0, none⟩)]) ∧ w' = w.alloc (.cells #[.slice ga n c] 72) := by
  go_enter Tryd.func54, Tryd.ntmps54
  go_wp2
  go_ret
  exact ⟨rfl, rfl⟩
set_option maxRecDepth 100000 in
set_option maxHeartbeats 4000000 in
theorem frames1_nil {W : World} {y z g cap : Nat} (R : RdB W z g cap (wd [])) (y0 : y < W.heap.size) :
    Calls Tryd.prog 53 #[.func (.func 52) #[] #[.pointer (some ⟨y, 0, none⟩)], .pointer (some ⟨z, 0, none⟩)] W fun e w' => (∃ v, e = .returned v) ∧ Below W.heap.size W w' := by
  refine (callsIn_wide (n := 3)).1 ?_
  refine callsIn_of_wp_marks Tryd.func53 rfl trivial ?_ rfl
  simp only [Tryd.ntmps53, List.size_toArray, List.length_cons, List.length_nil, Nat.reduceAdd, Nat.reduceSub, Array.replicate_succ, Array.replicate_zero, List.push_toArray, List.append_toArray, List.nil_append, List.cons_append]
  have c0 := R.c0
  simp only [wd, List.length_nil] at c0
  have SK := fun W' zz => spots_mkB zz 0 W'
  have IN := fun W' => inrow_mk W' (some ⟨g, 0, none⟩) 0 cap
  have B4 : Below W.heap.size W (((((W.alloc (.cells #[.func (.func 52) #[] #[.pointer (some ⟨y, 0, none⟩)]] 43)).alloc (.cells #[.slice (some ⟨g, 0, none⟩) 0 cap] 72)).alloc (.cells #[.func (.func 59) #[] #[.pointer (some ⟨W.heap.size + 1, 0, none⟩)]] 82)).alloc (.cells #[.func (.func 59) #[] #[.pointer (some ⟨W.heap.size + 1, 0, none⟩)]] 82)).alloc (.cells #[.int .i64 0] 3)) := by go_grown
  have L : LiesB (((((W.alloc (.cells #[.func (.func 52) #[] #[.pointer (some ⟨y, 0, none⟩)]] 43)).alloc (.cells #[.slice (some ⟨g, 0, none⟩) 0 cap] 72)).alloc (.cells #[.func (.func 59) #[] #[.pointer (some ⟨W.heap.size + 1, 0, none⟩)]] 82)).alloc (.cells #[.func (.func 59) #[] #[.pointer (some ⟨W.heap.size + 1, 0, none⟩)]] 82)).alloc (.cells #[.int .i64 0] 3)) (W.heap.size + 1 + 1 + 1 + 1) (W.heap.size + 1 + 1 + 1) (W.heap.size + 1) g cap [] := by
    have gl : g < W.heap.size := R.gl
    refine ⟨?_, ?_, ⟨?_, Nat.zero_le _, Nat.zero_le _, fun i hi => (by simp [wd] at hi), by simp <;> omega⟩, fun f hf => (by cases hf), by simp [wd]⟩
    · have := heap_alloc_new ((((W.alloc (.cells #[.func (.func 52) #[] #[.pointer (some ⟨y, 0, none⟩)]] 43)).alloc (.cells #[.slice (some ⟨g, 0, none⟩) 0 cap] 72)).alloc (.cells #[.func (.func 59) #[] #[.pointer (some ⟨W.heap.size + 1, 0, none⟩)]] 82)).alloc (.cells #[.func (.func 59) #[] #[.pointer (some ⟨W.heap.size + 1, 0, none⟩)]] 82)) (.cells #[.int .i64 0] 3)
      simp only [World.size_alloc] at this
      exact this
    · have := heap_alloc_new (((W.alloc (.cells #[.func (.func 52) #[] #[.pointer (some ⟨y, 0, none⟩)]] 43)).alloc (.cells #[.slice (some ⟨g, 0, none⟩) 0 cap] 72)).alloc (.cells #[.func (.func 59) #[] #[.pointer (some ⟨W.heap.size + 1, 0, none⟩)]] 82)) (.cells #[.func (.func 59) #[] #[.pointer (some ⟨W.heap.size + 1, 0, none⟩)]] 82)
      simp only [World.size_alloc] at this
      exact (Below.heap_alloc _ _ _ (by simp)).trans this
    · have h1 := heap_alloc_new (W.alloc (.cells #[.func (.func 52) #[] #[.pointer (some ⟨y, 0, none⟩)]] 43)) (.cells #[.slice (some ⟨g, 0, none⟩) 0 cap] 72)
      simp only [World.size_alloc] at h1
      have h2 : (((((W.alloc (.cells #[.func (.func 52) #[] #[.pointer (some ⟨y, 0, none⟩)]] 43)).alloc (.cells #[.slice (some ⟨g, 0, none⟩) 0 cap] 72)).alloc (.cells #[.func (.func 59) #[] #[.pointer (some ⟨W.heap.size + 1, 0, none⟩)]] 82)).alloc (.cells #[.func (.func 59) #[] #[.pointer (some ⟨W.heap.size + 1, 0, none⟩)]] 82)).alloc (.cells #[.int .i64 0] 3)).heap[W.heap.size + 1]? = some (.cells #[.slice (some ⟨g, 0, none⟩) 0 cap] 72 (0, 0)) := (Below.heap_alloc _ _ _ (by simp <;> omega)).trans ((Below.heap_alloc _ _ _ (by simp <;> omega)).trans ((Below.heap_alloc _ _ _ (by simp)).trans h1))
      rw [Joins.cell_of_block h2]; rfl
  have c1 := Lib.cell?_alloc_some (.cells #[.func (.func 52) #[] #[.pointer (some ⟨y, 0, none⟩)]] 43) c0
  have c2 : (((W.alloc (.cells #[.func (.func 52) #[] #[.pointer (some ⟨y, 0, none⟩)]] 43)).alloc (.cells #[.slice (some ⟨g, 0, none⟩) 0 cap] 72)).alloc (.cells #[.func (.func 59) #[] #[.pointer (some ⟨W.heap.size + 1, 0, none⟩)]] 82)).cell? ⟨z, 0, none⟩ = some (.slice (some ⟨g, 0, none⟩) 0 cap) := Lib.cell?_alloc_some _ (Lib.cell?_alloc_some _ c1)
  have HL := Hid.mk L
  have HB := Hid.mk B4
  have Hsz : Hid (W.heap.size ≤ (((((W.alloc (.cells #[.func (.func 52) #[] #[.pointer (some ⟨y, 0, none⟩)]] 43)).alloc (.cells #[.slice (some ⟨g, 0, none⟩) 0 cap] 72)).alloc (.cells #[.func (.func 59) #[] #[.pointer (some ⟨W.heap.size + 1, 0, none⟩)]] 82)).alloc (.cells #[.func (.func 59) #[] #[.pointer (some ⟨W.heap.size + 1, 0, none⟩)]] 82)).alloc (.cells #[.int .i64 0] 3)).heap.size) := ⟨B4.size⟩
  clear L B4 R
  gi_wp2_with (first
    | (refine ⟨trivial, ?_⟩; gi_at_call 54; refine (callsIn_wide.2 (IN _)).mono ?_; rintro e w1 ⟨rfl, hw⟩; rw [hw]; clear hw)
    | (refine ⟨trivial, ?_⟩; gi_at_call 46; refine (callsIn_wide.2 (SK _ _)).mono ?_; rintro e w1 ⟨rfl, hw⟩; rw [hw]; clear hw))
  generalize (((((W.alloc (.cells #[.func (.func 52) #[] #[.pointer (some ⟨y, 0, none⟩)]] 43)).alloc (.cells #[.slice (some ⟨g, 0, none⟩) 0 cap] 72)).alloc (.cells #[.func (.func 59) #[] #[.pointer (some ⟨W.heap.size + 1, 0, none⟩)]] 82)).alloc (.cells #[.func (.func 59) #[] #[.pointer (some ⟨W.heap.size + 1, 0, none⟩)]] 82)).alloc (.cells #[.int .i64 0] 3)) = W4 at *
  refine wpIn_rangeFunc_ownF rfl (by decide) (gf := 56) (lb := #[.pointer (some ⟨W.heap.size + 1 + 1 + 1 + 1, 0, none⟩), .pointer (some ⟨W.heap.size + 1 + 1 + 1, 0, none⟩)]) rfl trivial (enters_of Tryd.func56 (by kernel_rfl) rfl)
    (spots_B 2 (W.heap.size + 1 + 1 + 1 + 1) (W.heap.size + 1 + 1 + 1) (W.heap.size + 1) g cap [] (by decide) _ HL.out) Sy.trans (Sy.put HL.out.lt) (Below.refl _ _) (fun _ => rfl)
    (fun _ W' => Below W.heap.size W W') (fun _ _ _ => False) (ownFrom_below (Nat.le_refl _) Hsz.out) (fun _ _ _ _ _ hs _ _ => hs) HB.out
    (fun x => { tmps := #[.func (.func 52) #[] #[.pointer (some ⟨y, 0, none⟩)], .pointer (some ⟨z, 0, none⟩), .pointer (some ⟨W.heap.size, 0, none⟩), .pointer (some ⟨W.heap.size + 1 + 1, 0, none⟩), .int .i64 ((wd x.1.2).length : Int), .int .i64 (x.1.1.ps.length : Int), .slice (some ⟨g, 0, none⟩) 0 cap, .func (.func 59) #[] #[.pointer (some ⟨W.heap.size + 1, 0, none⟩)], .func (.func 59) #[] #[.pointer (some ⟨W.heap.size + 1, 0, none⟩)], .slice (some ⟨g, 0, none⟩) 0 cap, .int .i64 0, .func (.func 56) #[] #[.pointer (some ⟨W.heap.size + 1 + 1 + 1 + 1, 0, none⟩), .pointer (some ⟨W.heap.size + 1 + 1 + 1, 0, none⟩)], .int .i64 ((wd x.1.2).length : Int), .int .i64 (x.1.1.ps.length : Int), undef, undef, undef, undef, undef, undef, undef], defers := [] }) ?assign ?body ?done ?stop
  case assign =>
    intro l x W' K hK
    gi_wp2
    exact hK
  case body =>
    rintro l pre x W' _ hpl
    exact absurd hpl (by simp)
  case done =>
    rintro D ys W' hD hy hB hK
    gi_wp2
    refine ⟨by simp, .inl ⟨_, _, rfl, run_takeDeferred hK, ?_⟩⟩
    exact ⟨_, results_none rfl _ _ _, ⟨_, rfl⟩, hB.trans (belowK_b (w := W) (Nat.le_refl _) W' D _ _ (by have := Hsz.out; omega) hK rfl rfl)⟩
  case stop =>
    rintro D c pre W' _ _ h _
    exact h.elim
theorem frames_nil_any {w : World} {z g cap : Nat} (R : RdB w z g cap (wd [])) :
    Calls Tryd.prog 27 #[.func (.func 53) #[] #[.pointer (some ⟨z, 0, none⟩)]] w fun e w' => e = .returned (.slice none 0 0) ∧ Below w.heap.size w w' := by
  have B1 : Below w.heap.size w (w.alloc (Obj.cells #[.slice none 0 0] 29)) := by go_grown
  have F1 := frames1_nil (y := w.heap.size) (R.later B1) (by simp)
  have Y : Bx (w.alloc (Obj.cells #[.slice none 0 0] 29)) w.heap.size #[.slice none 0 0] 29 := heap_alloc_new _ _
  have HB1 := Hid.mk B1
  clear B1 R
  have he : ∀ w : World, (binOp .eql 62 (.func (.func 53) #[] #[.pointer (some ⟨z, 0, none⟩)]) .nilFunc).run Tryd.prog w = .ok (.bool false) w := fun _ => rfl
  go_enter Tryd.func27, Tryd.ntmps27
  go_wp2_with (go_at_call 53; refine F1.mono ?_; rintro e w2 ⟨⟨v, rfl⟩, B2⟩; have Y2 : Bx w2 w.heap.size #[.slice none 0 0] 29 := (B2.block _ Y.lt).trans Y; have y0 := Y2.cell 0)
  go_ret
  exact ⟨rfl, belowOn HB1.out B2⟩
theorem map_nil (w : World) (v : Value) : Calls Tryd.prog 24 #[.pointer none, v] w fun e w' => (∃ u, e = .returned u) ∧ Below w.heap.size w w' := by
  go_enter_defers Tryd.func24, Tryd.ntmps24
  go_wp2
  exact ⟨_, results_none rfl _ _ _, ⟨_, rfl⟩, by go_grown⟩
set_option maxRecDepth 100000 in
set_option maxHeartbeats 4000000 in
theorem none_walk (f : Fr) (o : Option Addr) (cap : Nat) (w : World) (T : Table w) : Calls Tryd.prog 8 #[fv f o cap] w fun e w' => e = .returned (.bool true) ∧ Below w.heap.size w w' := by
  have FA := Hid.mk (FrAt.fresh w f.k f.a f.b (.slice o f.ps.length cap))
  have PN := fun W => push_nil (w := W) f o cap
  unfold fv at *
  obtain ⟨fk, fa, fb, ps⟩ := f
  dsimp only at *
  generalize ps.length = n at *
  have HT := Hid.mk T
  obtain ⟨W1, hW1⟩ : ∃ W1, W1 = w.alloc (Obj.cells #[.int .i64 fk, .int .i64 fa, .int .i64 fb, .slice o n cap] 36) := ⟨_, rfl⟩
  have HB1 : Hid (Below w.heap.size w W1) := ⟨by rw [hW1]; go_grown⟩
  rw [← hW1] at FA
  obtain ⟨z, hz⟩ : ∃ z, z = w.heap.size := ⟨_, rfl⟩
  rw [← hz] at FA
  have MP := map_nil W1 (.func (.func 26) #[] #[])
  rw [hW1] at MP
  clear T
  go_enter Tryd.func8, Tryd.ntmps8
  go_wp2_with (first
    | (go_at_call 24; refine MP.mono ?_; clear MP; rintro e w2 ⟨⟨u, rfl⟩, B2'⟩; have HB2 := Hid.mk (belowOn HB1.out (by rw [hW1]; exact B2')); have HF2 := Hid.mk (FA.out.later (by rw [hW1]; exact B2')); clear B2')
    | (go_at_call 19; refine (pop_nil _).mono ?_; rintro e w3 ⟨rfl, B3⟩; have HB3 := Hid.mk (belowOn (belowOn HB2.out B3) (show Below w3.heap.size w3 (w3.alloc (Obj.cells #[.int .i64 0, .int .i64 0, .int .i64 0, .slice none 0 0] 36)) by go_grown)); have HF3 := Hid.mk ((HF2.out.later B3).later (show Below w3.heap.size w3 (w3.alloc (Obj.cells #[.int .i64 0, .int .i64 0, .int .i64 0, .slice none 0 0] 36)) by go_grown)))
    | (go_at_call 10; refine (awake_any _ (HT.out.later HB3.out)).mono ?_; rintro e w4 ⟨rfl, B4⟩; have HB4 := Hid.mk (belowOn HB3.out B4); obtain ⟨x0, x1, x2, x3⟩ := HF3.out.later B4; rw [hz] at x0 x1 x2 x3)
    | (go_at_call 18; refine (PN _).mono ?_; rintro e w5 ⟨rfl, B5⟩; have HB5 := Hid.mk (belowOn HB4.out B5))
    | (go_at_call 22; refine (count_nil _).mono ?_; rintro e w' ⟨rfl, hw⟩; subst w')
    | (go_at_call 23; refine (used_nil _).mono ?_; rintro e w' ⟨rfl, hw⟩; subst w')
    | (go_at_call 28; refine (frames_none _).mono ?_; rintro e w6 ⟨zz, gg, rfl, R6, _, _, B6⟩; have HB6 := Hid.mk (belowOn HB5.out B6); have FN := frames_nil_any R6)
    | (go_at_call 27; refine FN.mono ?_; rintro e w7 ⟨rfl, B7⟩))
  go_ret
  exact ⟨rfl, belowOn HB6.out B7⟩
end Go.Proofs.YtglimbpnekephaaDoor
