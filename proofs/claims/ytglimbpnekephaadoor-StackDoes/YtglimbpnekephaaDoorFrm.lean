/- Package stack: Frames; the law's list of what a range tells. -/
import Derived.Test.YtglimbpnekephaaDoorMpb
import Derived.Test.YtglimbpnekephaaDoorBka
namespace Go.Proofs.YtglimbpnekephaaDoor
open Go.RowKit Go.Shelf
set_option linter.unusedVariables false
set_option linter.unusedSimpArgs false
attribute [local go_sem] Oper.semAt_some

theorem rdB_of {w : World} {g : Nat} {us : List Int} (V : Bx w g (row us).toArray 50) (hl : us.length ≤ 524288) : RdB (w.alloc (.cells #[.slice (some ⟨g, 0, none⟩) us.length us.length] 72)) w.heap.size g us.length us := by
  have gl := V.lt
  refine ⟨by rw [Joins.cell_of_block (heap_alloc_new w _)]; rfl, Nat.le_refl _, hl, fun i hi => ?_, by simp; omega⟩
  rw [Joins.cell_of_block ((Below.heap_alloc _ _ _ gl).trans V), List.getElem?_toArray, row_get us i hi]
theorem frames_ok {w : World} {p a b F N k : Nat} {ws : List Int} {rs : List Fr} (h : Ss w p a b ws F N k rs) :
    Calls Tryd.prog 28 #[.pointer (some ⟨p, 0, none⟩)] w fun e w' => ∃ z g, e = .returned (.func (.func 53) #[] #[.pointer (some ⟨z, 0, none⟩)]) ∧ RdB w' z g (wd rs).length (wd rs) ∧ w.heap.size ≤ z ∧ w.heap.size ≤ g ∧ Below w.heap.size w w' := by
  have CO := copied_ok h
  have hl : (wd rs).length ≤ 524288 := by have := h.stk.un; have := h.stk.nn; omega
  generalize wd rs = us at *
  go_enter Tryd.func28, Tryd.ntmps28
  go_wp2_with (go_at_call 49; refine CO.mono ?_; rintro e w1 ⟨g, rfl, V, hg, B⟩)
  go_ret
  exact ⟨w1.heap.size, g, rfl, rdB_of V hl, B.size, hg, belowOn B (by go_grown)⟩
theorem frames_none (w : World) :
    Calls Tryd.prog 28 #[.pointer none] w fun e w' => ∃ z g, e = .returned (.func (.func 53) #[] #[.pointer (some ⟨z, 0, none⟩)]) ∧ RdB w' z g 0 (wd []) ∧ w.heap.size ≤ z ∧ w.heap.size ≤ g ∧ Below w.heap.size w w' := by
  have CO := copied_nil w
  go_enter Tryd.func28, Tryd.ntmps28
  go_wp2_with (go_at_call 49; refine CO.mono ?_; rintro e w1 ⟨g, rfl, V, hg, B⟩)
  go_ret
  exact ⟨w1.heap.size, g, rfl, rdB_of V (by simp), B.size, hg, belowOn B (by go_grown)⟩
theorem Rw.own {w : World} {base m : Nat} {v : Value} {l : List Fp} {cs : Array Value} {t : TypeId} {z : Nat × Nat} (h : Rw w base v l) (hb : w.heap[m]? = some (.cells cs t z)) (ht : t ≠ 36) : v.ownBlock ≠ some m := fun e => by
  rcases h.2 with ⟨rfl, _⟩ | ⟨g, cap, cur, rfl, _, hg, _⟩
  · cases e
  · cases e
    rw [hg] at hb
    cases hb
    exact ht rfl
/-- all stays but the box at y and the list's own block -/
structure Kq (y : Nat) (v : Value) (W w' : World) : Prop where
  os : w'.os = W.os
  tape : w'.tape = W.tape
  output : w'.output = W.output
  size : W.heap.size ≤ w'.heap.size
  block : ∀ k, k < W.heap.size → k ≠ y → v.ownBlock ≠ some k → w'.heap[k]? = W.heap[k]?
set_option maxHeartbeats 1000000 in
theorem fr1_ok {W : World} {y base : Nat} {v : Value} {l : List Fp} (Y : Bx W y #[v] 29) (R : Rw W base v l) (hl : l.length ≤ 65536) (hb : base ≤ W.heap.size) (hy : y < base) (f : Fr) (o : Option Addr) (c : Nat) :
    Calls Tryd.prog 52 #[fv f o c, .pointer (some ⟨y, 0, none⟩)] W fun e w' => e = .returned (.bool true) ∧ (∃ v', Bx w' y #[v'] 29 ∧ Rw w' base v' (l ++ [⟨f, o, c⟩])) ∧ Kq y v W w' := by
  unfold fv
  have HF : Hid (frC ⟨f, o, c⟩ = [.int .i64 f.k, .int .i64 f.a, .int .i64 f.b, .slice o f.ps.length c]) := ⟨rfl⟩
  obtain ⟨fk, hfk⟩ : ∃ x, x = f.k := ⟨_, rfl⟩
  obtain ⟨fa, hfa⟩ : ∃ x, x = f.a := ⟨_, rfl⟩
  obtain ⟨fb, hfb⟩ : ∃ x, x = f.b := ⟨_, rfl⟩
  obtain ⟨fn, hfn⟩ : ∃ x, x = f.ps.length := ⟨_, rfl⟩
  simp only [← hfk, ← hfa, ← hfb, ← hfn] at HF ⊢
  clear hfk hfa hfb hfn
  have yl := Y.lt
  have hno := R.own Y (by decide)
  obtain ⟨ga, cap, rfl, hcap⟩ := R.form
  have B2 : Below W.heap.size W ((W.alloc (Obj.cells #[.int .i64 fk, .int .i64 fa, .int .i64 fb, .slice o fn c] 36)).alloc (Obj.cells #[.int .i64 fk, .int .i64 fa, .int .i64 fb, .slice o fn c] 36)) := by go_grown
  have R2 := R.later B2
  have Y2 : Bx ((W.alloc (Obj.cells #[.int .i64 fk, .int .i64 fa, .int .i64 fb, .slice o fn c] 36)).alloc (Obj.cells #[.int .i64 fk, .int .i64 fa, .int .i64 fb, .slice o fn c] 36)) y #[.slice ga l.length cap] 29 := (B2.block y yl).trans Y
  have N2 : ((W.alloc (Obj.cells #[.int .i64 fk, .int .i64 fa, .int .i64 fb, .slice o fn c] 36)).alloc (Obj.cells #[.int .i64 fk, .int .i64 fa, .int .i64 fb, .slice o fn c] 36)).heap[W.heap.size + 1]? = some (Obj.cells #[.int .i64 fk, .int .i64 fa, .int .i64 fb, .slice o fn c] 36) := by have := heap_alloc_new (W.alloc (Obj.cells #[.int .i64 fk, .int .i64 fa, .int .i64 fb, .slice o fn c] 36)) (Obj.cells #[.int .i64 fk, .int .i64 fa, .int .i64 fb, .slice o fn c] 36); simpa using this
  have cy : (W.alloc (Obj.cells #[.int .i64 fk, .int .i64 fa, .int .i64 fb, .slice o fn c] 36)).cell? ⟨y, 0, none⟩ = some (.slice ga l.length cap) := by rw [Joins.cell_of_block ((Below.heap_alloc _ _ _ yl).trans Y)]; rfl
  have HB2 := Hid.mk B2
  have HR2 := Hid.mk R2
  have HY2 := Hid.mk Y2
  have HN2 := Hid.mk N2
  have HR := Hid.mk R
  clear B2 R2 Y2 N2 R
  go_enter Tryd.func52, Tryd.ntmps52
  go_wp2_with (at_builtin; obtain ⟨i0, hi, hz0, hz1, hz2⟩ := info_parts info36; refine wpList_append_own _ rfl _ _ 29 rfl base 36 i0 _ 4 48 Tryd.underlying29 hi hz0 hz1 hz2 rfl (by decide) (.slice ga l.length cap) l.length (cellsF l) rfl HR2.out ⟨W.heap.size + 1, 0, none⟩ 1 1 [.int .i64 fk, .int .i64 fa, .int .i64 fb, .slice o fn c] rfl rfl (World.news_of_block HN2.out) (by simp [Value.oneCell']) (by show _ ≤ 9223372036854775807; omega) (by omega) (by simp; omega) ?_; intro v' w5 hown' hgrow' _; clear hi hz0 hz1 hz2; obtain ⟨g', cap', rfl⟩ := ownsRow_succ hown'; have Y5 : Bx w5 y #[.slice ga l.length cap] 29 := (hgrow'.block y (by simp; omega) (fun e => hno (by rw [e]))).trans HY2.out; have y0 := Y5.cell 0; have yz := Y5.z 0)
  go_ret
  have RM := rw_more (x := ⟨f, o, c⟩) HR2.out (by rw [HF.out]; exact hown') hgrow'
  refine ⟨rfl, ⟨_, Joins.block_setCell (i := 0) Y5 _, RM.1.same fun g hg hgl => Below.heap_setCell _ _ _ _ (fun e => ?_)⟩, ⟨hgrow'.os.trans HB2.out.os, hgrow'.tape.trans HB2.out.tape, hgrow'.output.trans HB2.out.output, ?_, fun k hk h1 h2 => ?_⟩⟩
  · simp only at e; omega
  · have h1 := hgrow'.size
    have h2 := HB2.out.size
    simp at h1 h2 ⊢
    omega
  · rw [Below.heap_setCell _ _ _ _ h1, hgrow'.block k (Nat.lt_of_lt_of_le hk HB2.out.size) (fun e => h2 e.symm), HB2.out.block k hk]
end Go.Proofs.YtglimbpnekephaaDoor
