/- The document's own stack in memory: its Pop. -/
import Derived.Test.YtglimbpnekephaaDoorDsa
namespace Go.Proofs.YtglimbpnekephaaDoor
open Go.RowKit
set_option linter.unusedVariables false
set_option linter.unusedSimpArgs false

theorem results_cell_row2 {P : Program} {fn : Func} {p u : Tmp} {ty : TypeId} (h : fn.results = #[.cell p ty, .tmp u]) (tmps : Array Value) (w : World) (g : Nat) (t : TypeId) (cs : Array Value) (fr : Nat × Nat) (d : TypeDesc)
    (hp : tmps.getD p undef = .pointer (some ⟨g, 0, none⟩)) (hg : w.heap[g]? = some (.cells cs t fr))
    (hu : P.underlying ty = some d) (hd : (match d with | .struct _ | .array _ _ => true | _ => false) = true) (hi : (P.info? ty).map (·.size) = some cs.size) :
    (results fn tmps).run P w = .ok (.tuple #[.agg cs, tmps.getD u undef]) w := by
  have hp' : tmps[p]?.getD undef = .pointer (some ⟨g, 0, none⟩) := by simpa using hp
  simp [results, h, hp', asAddr, run_loadVar_row w g t ty cs fr d hg hu hd hi]
/-- the document's stack: its box, its row of frames (the lowest first), each one's pointers in a row of its own -/
structure Ds (w : World) (d base : Nat) (n : Int) (v : Value) (l : List Fp) : Prop where
  box : Bx w d #[.int .i64 n, v] 31
  R : Rw w base v l
  q : ∀ x ∈ l, PT w x.o x.c x.f.ps
  ap : l.Pairwise fun x y => ∀ a b, x.o = some a → y.o = some b → a.block ≠ b.block
set_option maxHeartbeats 2000000 in
theorem rpop_none {w : World} {d base : Nat} {n : Int} {v : Value} (h : Ds w d base n v []) :
    Calls Tryd.prog 30 #[.pointer (some ⟨d, 0, none⟩)] w fun e w' => e = .returned (.tuple #[.agg #[.int .i64 0, .int .i64 0, .int .i64 0, .slice none 0 0], .int .i64 4]) ∧ Below w.heap.size w w' := by
  obtain ⟨ga, cp, rfl, hcp⟩ := h.R.form
  have c1 : w.cell? ⟨d, 1, none⟩ = some (.slice ga 0 cp) := h.box.cell 1
  have Y : Bx (w.alloc (Obj.cells #[.int .i64 0, .int .i64 0, .int .i64 0, .slice none 0 0] 36)) w.heap.size #[.int .i64 0, .int .i64 0, .int .i64 0, .slice none 0 0] 36 := heap_alloc_new _ _
  have c0 : (w.alloc (Obj.cells #[.int .i64 0, .int .i64 0, .int .i64 0, .slice none 0 0] 36)).cell? ⟨d, 1, none⟩ = some (.slice ga 0 cp) := Lib.cell?_alloc_some _ c1
  clear Y h c1
  go_enter Tryd.func30, Tryd.ntmps30
  go_wp2
  refine bodyPost_ret (results_cell_row2 Tryd.results30 _ _ w.heap.size 36 _ (0, 0) _ rfl (heap_alloc_new _ _) Tryd.underlying36 rfl size36) rfl ⟨rfl, by go_grown⟩
set_option maxHeartbeats 2000000 in
theorem rpop_go {w : World} {d base : Nat} {n : Int} {v : Value} {l : List Fp} {x : Fp} (h : Ds w d base n v (l ++ [x])) (hl : l.length ≤ 65536) (hd : d < base) :
    Calls Tryd.prog 30 #[.pointer (some ⟨d, 0, none⟩)] w fun e w' => e = .returned (.tuple #[fv x.f x.o x.c, .int .i64 0]) ∧ (∃ v', Ds w' d base n v' l) ∧ w.grownBy w' (some d) := by
  obtain ⟨g, cap, rfl, hcap, hbg, g0, g1, g2, g3⟩ := h.R.get l.length (by simp)
  simp only [List.getElem_append_right (Nat.le_refl l.length), Nat.sub_self, List.getElem_cons_zero] at g0 g1 g2 g3
  have c1 : w.cell? ⟨d, 1, none⟩ = some (.slice (some ⟨g, 0, none⟩) (l ++ [x]).length cap) := h.box.cell 1
  have HH := Hid.mk h
  obtain ⟨f, o, c⟩ := x
  dsimp only at *
  unfold fv
  have el : (l ++ [(⟨f, o, c⟩ : Fp)]).length = l.length + 1 := by simp
  rw [el] at c1 hcap
  generalize f.k = fk at *
  generalize f.a = fa at *
  generalize f.b = fb at *
  obtain ⟨fn, hfn⟩ : ∃ fn, f.ps.length = fn := ⟨_, rfl⟩
  rw [hfn] at g3 ⊢
  obtain ⟨m, hm⟩ : ∃ m, l.length = m := ⟨_, rfl⟩
  rw [hm] at g0 g1 g2 g3 c1 hcap hl
  have HM := Hid.mk hm
  clear h el hfn hm
  have k0 := Lib.cell?_alloc_some (Obj.cells #[.int .i64 0, .int .i64 0, .int .i64 0, .slice none 0 0] 36) g0
  have k1 := Lib.cell?_alloc_some (Obj.cells #[.int .i64 0, .int .i64 0, .int .i64 0, .slice none 0 0] 36) g1
  have k2 := Lib.cell?_alloc_some (Obj.cells #[.int .i64 0, .int .i64 0, .int .i64 0, .slice none 0 0] 36) g2
  have k3 := Lib.cell?_alloc_some (Obj.cells #[.int .i64 0, .int .i64 0, .int .i64 0, .slice none 0 0] 36) g3
  have k4 := Lib.cell?_alloc_some (Obj.cells #[.int .i64 0, .int .i64 0, .int .i64 0, .slice none 0 0] 36) c1
  have k5 := Lib.cell?_alloc_some (Obj.cells #[.int .i64 fk, .int .i64 fa, .int .i64 fb, .slice o fn c] 36) k4
  have mm : ((m + 1 : Nat) : Int) - 1 = m := by omega
  have dl := HH.out.box.lt
  have dz : ((w.alloc (Obj.cells #[.int .i64 0, .int .i64 0, .int .i64 0, .slice none 0 0] 36)).alloc (Obj.cells #[.int .i64 fk, .int .i64 fa, .int .i64 fb, .slice o fn c] 36)).heap[d]? = some (.cells #[.int .i64 n, .slice (some ⟨g, 0, none⟩) (m + 1) cap] 31 (0, 0)) := by
    have e : (l ++ [(⟨f, o, c⟩ : Fp)]).length = m + 1 := by rw [← HM.out]; simp
    have b := HH.out.box
    rw [e] at b
    exact (Below.heap_alloc _ _ _ (by simp; omega)).trans ((Below.heap_alloc _ _ _ dl).trans b)
  have dzz := Bx.z dz
  have Hdz := Hid.mk dz
  clear dz
  go_enter Tryd.func30, Tryd.ntmps30
  go_wp2
  have sz : (w.setCell ⟨d, 1, none⟩ (.slice (some ⟨g, 0, none⟩) m cap)).heap.size = w.heap.size := by simp
  have Q1 : (((w.setCell ⟨d, 1, none⟩ (.slice (some ⟨g, 0, none⟩) m cap)).alloc (Obj.cells #[.int .i64 fk, .int .i64 fa, .int .i64 fb, .slice o fn c] 36)).alloc (Obj.cells #[.int .i64 fk, .int .i64 fa, .int .i64 fb, .slice o fn c] 36)).heap[w.heap.size]? = some (.cells #[.int .i64 fk, .int .i64 fa, .int .i64 fb, .slice o fn c] 36 (0, 0)) := by
    have h1 := heap_alloc_new (w.setCell ⟨d, 1, none⟩ (.slice (some ⟨g, 0, none⟩) m cap)) (Obj.cells #[.int .i64 fk, .int .i64 fa, .int .i64 fb, .slice o fn c] 36)
    rw [sz] at h1
    exact (Below.heap_alloc _ _ _ (by simp)).trans h1
  have G : w.grownBy (((w.setCell ⟨d, 1, none⟩ (.slice (some ⟨g, 0, none⟩) m cap)).alloc (Obj.cells #[.int .i64 fk, .int .i64 fa, .int .i64 fb, .slice o fn c] 36)).alloc (Obj.cells #[.int .i64 fk, .int .i64 fa, .int .i64 fb, .slice o fn c] 36)) (some d) := grown_trans (grown_trans (grown_set _ _ _ _) (World.grownBy_alloc _ _ _)) (World.grownBy_alloc _ _ _)
  have E : (l ++ [(⟨f, o, c⟩ : Fp)]).length = m + 1 := by rw [← HM.out]; simp
  have BX : Bx (((w.setCell ⟨d, 1, none⟩ (.slice (some ⟨g, 0, none⟩) m cap)).alloc (Obj.cells #[.int .i64 fk, .int .i64 fa, .int .i64 fb, .slice o fn c] 36)).alloc (Obj.cells #[.int .i64 fk, .int .i64 fa, .int .i64 fb, .slice o fn c] 36)) d #[.int .i64 n, .slice (some ⟨g, 0, none⟩) m cap] 31 := (Below.heap_alloc _ _ _ (by simp; omega)).trans ((Below.heap_alloc _ _ _ (by simp; omega)).trans (Joins.block_setCell (i := 1) HH.out.box _))
  refine bodyPost_ret (results_cell_row2 Tryd.results30 _ _ w.heap.size 36 _ (0, 0) _ rfl Q1 Tryd.underlying36 rfl size36) rfl ⟨rfl, ⟨_, BX, ?_, fun y hy => ?_, (List.pairwise_append.1 HH.out.ap).1⟩, G⟩
  · rcases HH.out.R.2 with ⟨hn, _⟩ | ⟨g', cap', cur, hv, hb', hg', X1, X2, X3, X4⟩
    · cases hn
    · simp only [Value.slice.injEq, Option.some.injEq, Addr.mk.injEq, and_true] at hv
      obtain ⟨rfl, _, rfl⟩ := hv
      have gb := (G.block g (Array.getElem?_eq_some_iff.1 hg').1 (by simp; omega)).trans hg'
      have hlen : ∀ l : List Fp, (cellsF l).length = l.length * 4 := fun l => by
        induction l with
        | nil => rfl
        | cons a r ih => simp [cellsF, frC] at ih ⊢; omega
      refine ⟨hlen l, .inr ⟨g, cap, cur, by rw [HM.out], hb', gb, by rw [HM.out]; omega, X2, X3, ?_⟩⟩
      rw [cellsF_snoc] at X4
      have := congrArg (List.take (l.length * 4)) X4
      rw [List.take_take, Nat.min_eq_left (by rw [E, HM.out]; omega), List.take_append_of_le_length (by rw [hlen]; exact Nat.le_refl _)] at this
      rw [this]
      exact List.take_of_length_le (by rw [hlen]; exact Nat.le_refl _)
  · exact (HH.out.q y (by simp [hy])).same fun k cs hk => G.block k (Array.getElem?_eq_some_iff.1 hk).1 (fun e => by cases e; have b := HH.out.box; unfold Bx at b; rw [b] at hk; cases hk)
end Go.Proofs.YtglimbpnekephaaDoor
