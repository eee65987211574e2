/- Package lazy: no machine. -/
import Derived.Test.YtbajpejnnfacbaaGreatDoorLyh
import Derived.Test.YtbajpejnnfacbaaGreatDoorLxj
namespace Go.Proofs.YtbajpejnnfacbaaGreatDoor.Lz
open Go.RowKit
set_option linter.unusedVariables false
set_option linter.unusedSimpArgs false


theorem results_cell_row2 {P : Program} {fn : Func} {p u : Tmp} {ty : TypeId} (h : fn.results = #[.cell p ty, .tmp u]) (tmps : Array Value) (w : World) (g : Nat) (t : TypeId) (cs : Array Value) (fr : Nat × Nat) (d : TypeDesc)
    (hp : tmps.getD p undef = .pointer (some ⟨g, 0, none⟩)) (hg : w.heap[g]? = some (.cells cs t fr))
    (hu : P.underlying ty = some d) (hd : (match d with | .struct _ | .array _ _ => true | _ => false) = true) (hi : (P.info? ty).map (·.size) = some cs.size) :
    (results fn tmps).run P w = .ok (.tuple #[.agg cs, tmps.getD u undef]) w := by
  have hp' : tmps[p]?.getD undef = .pointer (some ⟨g, 0, none⟩) := by simpa using hp
  simp [results, h, hp', asAddr, run_loadVar_row w g t ty cs fr d hg hu hd hi]
theorem size35 : (Tryz.prog.info? 35).map (·.size) = some 6 := by kernel_rfl
theorem unfit_none (w : World) : Calls Tryz.prog 25 #[nilp] w fun r w' => r = .returned (.int .i64 1) ∧ w' = w := by
  go_enter Tryz.func25, Tryz.ntmps25
  go_wp2
  go_ret
  exact ⟨rfl, rfl⟩
theorem steps_none (w : World) : Calls Tryz.prog 12 #[nilp] w fun r w' => r = .returned (.int .i64 0) ∧ w' = w := by
  go_enter Tryz.func12, Tryz.ntmps12
  go_wp2
  go_ret
  exact ⟨rfl, rfl⟩
theorem out_none (w : World) : Calls Tryz.prog 11 #[nilp] w fun r w' => r = .returned nils ∧ w' = w := by
  go_enter Tryz.func11, Tryz.ntmps11
  go_wp2
  go_ret
  exact ⟨rfl, rfl⟩
theorem make_none (w : World) (n : ByteArray) (ga : Option Addr) (m cap : Nat) : Calls Tryz.prog 18 #[nilp, .string n, .slice ga m cap] w fun r w' => r = .returned (.tuple #[.int .i64 0, .int .i64 1]) ∧ w' = w := by
  have U := unfit_none w
  go_enter Tryz.func18, Tryz.ntmps18
  go_wp2_with (go_at_call 25; refine U.mono ?_; rintro e w8 ⟨rfl, rfl⟩)
  go_ret2
  exact ⟨rfl, rfl⟩
theorem drop_none (w : World) (k : Int) : Calls Tryz.prog 19 #[nilp, .int .i64 k] w fun r w' => r = .returned (.int .i64 1) ∧ w' = w := by
  have U := unfit_none w
  go_enter Tryz.func19, Tryz.ntmps19
  go_wp2_with (go_at_call 25; refine U.mono ?_; rintro e w8 ⟨rfl, rfl⟩)
  go_ret
  exact ⟨rfl, rfl⟩
set_option maxRecDepth 100000 in
theorem show_none (w : World) (a b c : Int) : Calls Tryz.prog 16 #[nilp, .int .i64 a, .int .i64 b, .int .i64 c] w fun r w' => r = .returned (.tuple #[.agg #[.int .i64 0, .int .i64 0, .int .i64 0, .string ⟨#[]⟩, .int .i64 0, nils], .int .i64 1]) ∧ Below w.heap.size w w' := by
  go_enter Tryz.func16, Tryz.ntmps16
  go_wp2_with (go_at_call 25; refine (unfit_none _).mono ?_; rintro e w8 ⟨rfl, rfl⟩)
  exact bodyPost_ret (results_cell_row2 Tryz.results16 _ _ w.heap.size 35 #[.int .i64 0, .int .i64 0, .int .i64 0, .string ⟨#[]⟩, .int .i64 0, nils] (0, 0) _ rfl (heap_alloc_new _ _) Tryz.underlying35 rfl size35) rfl ⟨rfl, Joins.below_alloc1 w _⟩
end Go.Proofs.YtbajpejnnfacbaaGreatDoor.Lz

/- Package lazy: the outcome of the one program that is laid at any rate. -/
namespace Go.Proofs.YtbajpejnnfacbaaGreatDoor.Lz
open Go.RowKit
open Go.Maps (Keyed string_keyed int_keyed)
set_option linter.unusedVariables false
set_option linter.unusedSimpArgs false

theorem Lie.later {w w' : World} {B : Nat} {n : Int} {mb e tb q cq f p a ca : Nat} (L : Lie w B n mb e tb q cq f p a ca) (k : Below w.heap.size w w') : Lie w' B n mb e tb q cq f p a ca :=
  ⟨later' L.xe k, cellL k L.xq, later' L.xtb k, later' L.xf k, later' L.xp k, L.xa.later k, L.ord⟩
set_option maxRecDepth 100000 in
set_option maxHeartbeats 4000000 in
theorem outcome_emit {w : World} {B : Nat} {n : Int} {mb bm hm e tb q cq f p a ca : Nat} (hn : isI n) (T : Table w) (hB : 0 < B) (L : Lie w B n mb e tb q cq f p a ca) (hm' : Bx w mb #[nils, .map (some bm), ptr e, .map (some hm), .int .i64 1, nils, .int .i64 0, .bool false] 74) :
    Calls Tryz.prog 26 #[ptr mb, ptr tb, .int .i64 1, .int .i64 9] w fun r w' => ∃ g cap, r = .returned (.agg #[.int .i64 1, .int .i64 0, .int .i64 1, .string ⟨#[]⟩, .int .i64 n, nils]) ∧ w'.cell? ⟨mb, 5, none⟩ = some (.slice (some ⟨g, 0, none⟩) 1 cap) ∧ w'.cell? ⟨g, 0, none⟩ = some (.int .i64 n) ∧ w'.cell? ⟨mb, 6, none⟩ = some (.int .i64 1) ∧ (∀ i, a < i → i < w.heap.size → w'.heap[i]? = w.heap[i]? ∧ i ≠ g) ∧ Below B w w' := by
  obtain ⟨o1, o2, o3, o4, o5, o6, o7, o8, o9⟩ := L.ord
  have al : a < w.heap.size := L.xa.2.1
  have ml : mb < w.heap.size := hm'.lt
  obtain ⟨W1, hW1⟩ : ∃ W1, W1 = (w.alloc (.cells #[.int .i64 0, .int .i64 0, .int .i64 0, .string ⟨#[]⟩, .int .i64 0, nils] 35)).alloc (.cells #[ptr mb, .int .i64 9, .int .i64 0, nilp, nilp, nilp, .int .i64 0, nils, .int .i64 0] 101) := ⟨_, rfl⟩
  have B1 : Below w.heap.size w W1 := by subst hW1; go_grown
  have s1 : W1.heap.size = w.heap.size + 2 := by subst hW1; simp
  have X0 : Bx W1 w.heap.size #[.int .i64 0, .int .i64 0, .int .i64 0, .string ⟨#[]⟩, .int .i64 0, nils] 35 := by subst hW1; exact later' (heap_alloc_new w _) (Joins.below_alloc1 _ _)
  have X1 : Bx W1 (w.heap.size + 1) #[ptr mb, .int .i64 9, .int .i64 0, nilp, nilp, nilp, .int .i64 0, nils, .int .i64 0] 101 := by
    subst hW1
    have := heap_alloc_new (w.alloc (.cells #[.int .i64 0, .int .i64 0, .int .i64 0, .string ⟨#[]⟩, .int .i64 0, nils] 35)) (.cells #[ptr mb, .int .i64 9, .int .i64 0, nilp, nilp, nilp, .int .i64 0, nils, .int .i64 0] 101)
    rw [World.size_alloc] at this
    exact this
  have R0 : Run0 W1 (emG n (w.heap.size + 1) mb e tb q f p a) (w.heap.size + 1) mb ⟨nils, .map (some bm), ptr e, .map (some hm), 1⟩ (emS n) 0 :=
    ⟨(L.later B1).rep (by omega) (by omega) (by omega), T.later B1, emG_none (by omega) o2 o3 o4 o5 o6 o7 (by omega), emG_r o2 o3 o4 o5 o6 o7 (by omega), emG_m o2 o3 o4 o5 o6 o7,
      ⟨0, nilp, nilp, nilp, 0, nils, [], X1, ⟨⟨rfl, .inl ⟨rfl, rfl⟩⟩, fun g hg => by cases hg⟩, rfl⟩, ⟨nils, later' hm' B1, ⟨⟨rfl, .inl ⟨rfl, rfl⟩⟩, fun g hg => by cases hg⟩⟩⟩
  have C := tree_emit hn R0 emG_tb
  have AFT : Hid (∀ W' G', Fx (emG n (w.heap.size + 1) mb e tb q f p a) G' W1 W' → Run W' G' (w.heap.size + 1) mb ⟨nils, .map (some bm), ptr e, .map (some hm), 1⟩ (emE n) 1 → W'.cell? ⟨w.heap.size + 1, 2, none⟩ = some (.int .i64 3) ∧ Bx W' w.heap.size #[.int .i64 0, .int .i64 0, .int .i64 0, .string ⟨#[]⟩, .int .i64 0, nils] 35 ∧ Below B w W' ∧ (∀ i, a < i → i < w.heap.size → W'.heap[i]? = w.heap[i]?) ∧ ∃ g cap, ((∀ i, a < i → i < w.heap.size → i ≠ g) ∧ g ≠ w.heap.size) ∧ W'.cell? ⟨mb, 5, none⟩ = some (.slice (some ⟨g, 0, none⟩) 1 cap) ∧ W'.cell? ⟨g, 0, none⟩ = some (.int .i64 n) ∧ W'.cell? ⟨mb, 6, none⟩ = some (.int .i64 1)) := ⟨fun W' G' F' R' => by
    obtain ⟨nx, vx, vn, vo, wr, vw, cs, ra, rb, rc, rd⟩ := R'.r
    obtain ⟨rfl, _⟩ := rb
    have gn : emG n (w.heap.size + 1) mb e tb q f p a w.heap.size = none := emG_new (by omega) o2 o3 o4 o5 o6 o7 (by omega)
    obtain ⟨v2, m1, m2⟩ := R'.m
    have g0 : G' w.heap.size = none := F'.new _ (by omega) gn
    rcases m2.row.2 with ⟨_, h0⟩ | ⟨g, cap, cur, rfl, _⟩
    · cases h0
    · refine ⟨ra.cell 2, (F'.block _ (by omega) (by rw [gn]; trivial)).trans X0, ⟨F'.os.trans B1.os, F'.tape.trans B1.tape, F'.output.trans B1.output, Nat.le_trans B1.size F'.size, fun i hi => (F'.block i (by omega) (by rw [emG_none (by omega) o2 o3 o4 o5 o6 o7 (by omega)]; trivial)).trans (B1.block i (by omega))⟩, fun i h1 h2 => (F'.block i (by omega) (by rw [emG_new (by omega) o2 o3 o4 o5 o6 o7 (by omega)]; trivial)).trans (B1.block i h2), g, cap, ⟨fun i h1 h2 h => ?_, fun h => ?_⟩, m1.cell 5, ?_, m1.cell 6⟩
      · have := m2.tag g rfl
        rw [← h, F'.new i (by omega) (emG_new (by omega) o2 o3 o4 o5 o6 o7 (by omega))] at this
        cases this
      · have := m2.tag g rfl
        rw [h, g0] at this
        cases this
      · have := m2.row.cells (g := g) rfl 0 (.int .i64 n) rfl
        simpa [Addr.add] using this⟩
  have HMN : Hid (mb ≠ w.heap.size ∧ B ≤ w.heap.size) := ⟨by omega, by omega⟩
  clear R0 X0 X1 B1 s1 L hm' T
  go_enter Tryz.func26, Tryz.ntmps26
  go_upto_region 2 with fail
  rw [← hW1]
  clear hW1
  go_wp2_with (go_at_call 33; refine C.mono ?_; rintro r w5 ⟨G5, rfl, F5, R5⟩; obtain ⟨y2, Y, BW, KU, g, cap, ⟨n0, n1⟩, n2, n3, n4⟩ := AFT.out w5 G5 F5 R5; have x2 := cellL (Joins.below_alloc1 w5 (.cells #[.int .i64 1, .string ⟨#[]⟩, .int .i64 n, nils] 33)) y2; have Y' : Bx (w5.alloc (.cells #[.int .i64 1, .string ⟨#[]⟩, .int .i64 n, nils] 33)) w.heap.size #[.int .i64 0, .int .i64 0, .int .i64 0, .string ⟨#[]⟩, .int .i64 0, nils] 35 := later' Y (Joins.below_alloc1 _ _); have f0 := Y'.cell 0; have z0 := Joins.unfrozen_of_block Y' 0; have f1 := Y'.cell 1; have z1 := Joins.unfrozen_of_block Y' 1; have f2 := Y'.cell 2; have z2 := Joins.unfrozen_of_block Y' 2; have f3 := Y'.cell 3; have z3 := Joins.unfrozen_of_block Y' 3; have f4 := Y'.cell 4; have z4 := Joins.unfrozen_of_block Y' 4; have f5 := Y'.cell 5; have z5 := Joins.unfrozen_of_block Y' 5; have HY := Hid.mk Y'; have HR := Hid.mk (And.intro BW (And.intro KU (And.intro n0 (And.intro n1 (And.intro n2 (And.intro n3 n4)))))); clear F5 R5 Y Y' BW KU n0 n1 n2 n3 n4)
  obtain ⟨BW, KU, n0, n1, n2, n3, n4⟩ := HR.out
  have Y0 := Joins.block_setCell (i := 0) HY.out (.int .i64 1)
  have Y1 := Joins.block_setCell (i := 1) Y0 (.int .i64 0)
  have Y2 := Joins.block_setCell (i := 2) Y1 (.int .i64 1)
  have Y3 := Joins.block_setCell (i := 3) Y2 (.string ⟨#[]⟩)
  have Y4 := Joins.block_setCell (i := 4) Y3 (.int .i64 n)
  have Y5 := Joins.block_setCell (i := 5) Y4 nils
  have k9 : ∀ i, i < w5.heap.size → i ≠ w.heap.size → (((((((w5.alloc (.cells #[.int .i64 1, .string ⟨#[]⟩, .int .i64 n, nils] 33)).setCell ⟨w.heap.size, 0, none⟩ (.int .i64 1)).setCell ⟨w.heap.size, 1, none⟩ (.int .i64 0)).setCell ⟨w.heap.size, 2, none⟩ (.int .i64 1)).setCell ⟨w.heap.size, 3, none⟩ (.string ⟨#[]⟩)).setCell ⟨w.heap.size, 4, none⟩ (.int .i64 n)).setCell ⟨w.heap.size, 5, none⟩ (nils)).heap[i]? = w5.heap[i]? := fun i hl hi => (setCell_block _ _ _ _ hi).trans ((setCell_block _ _ _ _ hi).trans ((setCell_block _ _ _ _ hi).trans ((setCell_block _ _ _ _ hi).trans ((setCell_block _ _ _ _ hi).trans ((setCell_block _ _ _ _ hi).trans ((Joins.below_alloc1 _ _).block i hl))))))
  have ck : ∀ {x o : Nat} {u : Value}, x ≠ w.heap.size → w5.cell? ⟨x, o, none⟩ = some u → (((((((w5.alloc (.cells #[.int .i64 1, .string ⟨#[]⟩, .int .i64 n, nils] 33)).setCell ⟨w.heap.size, 0, none⟩ (.int .i64 1)).setCell ⟨w.heap.size, 1, none⟩ (.int .i64 0)).setCell ⟨w.heap.size, 2, none⟩ (.int .i64 1)).setCell ⟨w.heap.size, 3, none⟩ (.string ⟨#[]⟩)).setCell ⟨w.heap.size, 4, none⟩ (.int .i64 n)).setCell ⟨w.heap.size, 5, none⟩ (nils)).cell? ⟨x, o, none⟩ = some u := fun {x o u} hx hu => (World.cell?_of_block (a := ⟨x, o, none⟩) (k9 x (World.block_lt_of_cell? _ _ hu) hx)).trans hu
  obtain ⟨hm1, hb1⟩ := HMN.out
  refine bodyPost_ret (results_cell_row Tryz.results26 _ _ w.heap.size 35 _ (0, 0) _ rfl Y5 Tryz.underlying35 rfl size35) rfl ⟨g, cap, rfl, ck hm1 n2, ck n1 n3, ck hm1 n4, fun i h1 h2 => ⟨(k9 i (Nat.lt_of_lt_of_le h2 BW.size) (by omega)).trans (KU i h1 h2), n0 i h1 h2⟩, ?_⟩
  have BA : Below B w (w5.alloc (.cells #[.int .i64 1, .string ⟨#[]⟩, .int .i64 n, nils] 33)) := BW.alloc (Nat.le_trans hb1 BW.size) _
  exact (((((BA.setCell hb1 _).setCell hb1 _).setCell hb1 _).setCell hb1 _).setCell hb1 _).setCell hb1 _
set_option maxRecDepth 100000 in
set_option maxHeartbeats 4000000 in
theorem show_emit {w : World} {B : Nat} {n : Int} {mb bm hm e tb q cq f p a ca : Nat} (hn : isI n) (T : Table w) (hB : 0 < B) (L : Lie w B n mb e tb q cq f p a ca) (hm' : Bx w mb #[nils, .map (some bm), ptr e, .map (some hm), .int .i64 1, nils, .int .i64 0, .bool false] 74) (vh : VM 3 w hm 1 (updV (fun _ => none) (.int .i64 1) (ptr tb))) :
    Calls Tryz.prog 16 #[ptr mb, .int .i64 1, .int .i64 1, .int .i64 9] w fun r w' => ∃ g cap, r = .returned (.tuple #[.agg #[.int .i64 1, .int .i64 0, .int .i64 1, .string ⟨#[]⟩, .int .i64 n, nils], .int .i64 0]) ∧ w'.cell? ⟨mb, 5, none⟩ = some (.slice (some ⟨g, 0, none⟩) 1 cap) ∧ w'.cell? ⟨g, 0, none⟩ = some (.int .i64 n) ∧ w'.cell? ⟨mb, 6, none⟩ = some (.int .i64 1) ∧ Below B w w' := by
  obtain ⟨o1, o2, o3, o4, o5, o6, o7, o8, o9⟩ := L.ord
  have ml : mb < w.heap.size := hm'.lt
  obtain ⟨W1, hW1⟩ : ∃ W1, W1 = w.alloc (.cells #[.int .i64 0, .int .i64 0, .int .i64 0, .string ⟨#[]⟩, .int .i64 0, nils] 35) := ⟨_, rfl⟩
  have B1 : Below w.heap.size w W1 := by subst hW1; exact Joins.below_alloc1 _ _
  have X0 : Hid (Bx W1 w.heap.size #[.int .i64 0, .int .i64 0, .int .i64 0, .string ⟨#[]⟩, .int .i64 0, nils] 35) := ⟨by subst hW1; exact heap_alloc_new w _⟩
  have M1 : Bx W1 mb #[nils, .map (some bm), ptr e, .map (some hm), .int .i64 1, nils, .int .i64 0, .bool false] 74 := later' hm' B1
  have U := unfit_ok W1 mb (M1.cell 7)
  have m3 := M1.cell 3
  have VH : VM 3 W1 hm 1 (updV (fun _ => none) (.int .i64 1) (ptr tb)) := vh.of_block (B1.block _ vh.lt)
  have K1 : updV (fun _ => none) (.int .i64 1) (ptr tb) (.int .i64 1) = some (ptr tb) := upd_same _ (lawI.key (keyI (n := 1) (by unfold isI; omega))) _
  have C := outcome_emit hn (T.later B1) hB (L.later B1) M1
  have HN : Hid (a < w.heap.size ∧ w.heap.size < W1.heap.size ∧ mb ≠ w.heap.size ∧ B ≤ w.heap.size ∧ Below w.heap.size w W1) := ⟨L.xa.2.1, X0.out.lt, by omega, by omega, B1⟩
  clear L hm' vh B1 M1 T
  go_enter Tryz.func16, Tryz.ntmps16
  go_upto_region 1 with fail
  rw [← hW1]
  clear hW1
  go_wp2_with (first
    | (go_at_call 25; refine U.mono ?_; rintro e9 w9 ⟨rfl, rfl⟩)
    | (at_lookup; refine wpList_vm_look _ rfl _ _ 72 rfl 3 78 lawI Tryz.underlying72 (zero78 _) hm 1 _ rfl VH _ _ rfl (keyI (n := 1) (by unfold isI; omega)) ?_; rw [K1])
    | (go_at_call 26; refine C.mono ?_; rintro r w5 ⟨g, cap, rfl, n2, n3, n4, KU, BW⟩; have Y : Bx w5 w.heap.size #[.int .i64 0, .int .i64 0, .int .i64 0, .string ⟨#[]⟩, .int .i64 0, nils] 35 := (KU _ HN.out.1 HN.out.2.1).1.trans X0.out; have ng := (KU _ HN.out.1 HN.out.2.1).2; have f0 := Y.cell 0; have z0 := Joins.unfrozen_of_block Y 0; have f1 := Y.cell 1; have z1 := Joins.unfrozen_of_block Y 1; have f2 := Y.cell 2; have z2 := Joins.unfrozen_of_block Y 2; have f3 := Y.cell 3; have z3 := Joins.unfrozen_of_block Y 3; have f4 := Y.cell 4; have z4 := Joins.unfrozen_of_block Y 4; have f5 := Y.cell 5; have z5 := Joins.unfrozen_of_block Y 5; have HY := Hid.mk Y; have HR := Hid.mk (And.intro ng (And.intro n2 (And.intro n3 (And.intro n4 BW)))); clear ng n2 n3 n4 KU BW Y))
  obtain ⟨ng, n2, n3, n4, BW⟩ := HR.out
  have Y0 := Joins.block_setCell (i := 0) HY.out (.int .i64 1)
  have Y1 := Joins.block_setCell (i := 1) Y0 (.int .i64 0)
  have Y2 := Joins.block_setCell (i := 2) Y1 (.int .i64 1)
  have Y3 := Joins.block_setCell (i := 3) Y2 (.string ⟨#[]⟩)
  have Y4 := Joins.block_setCell (i := 4) Y3 (.int .i64 n)
  have Y5 := Joins.block_setCell (i := 5) Y4 nils
  have k9 : ∀ i, i ≠ w.heap.size → ((((((w5.setCell ⟨w.heap.size, 0, none⟩ (.int .i64 1)).setCell ⟨w.heap.size, 1, none⟩ (.int .i64 0)).setCell ⟨w.heap.size, 2, none⟩ (.int .i64 1)).setCell ⟨w.heap.size, 3, none⟩ (.string ⟨#[]⟩)).setCell ⟨w.heap.size, 4, none⟩ (.int .i64 n)).setCell ⟨w.heap.size, 5, none⟩ (nils)).heap[i]? = w5.heap[i]? := fun i hi => (setCell_block _ _ _ _ hi).trans ((setCell_block _ _ _ _ hi).trans ((setCell_block _ _ _ _ hi).trans ((setCell_block _ _ _ _ hi).trans ((setCell_block _ _ _ _ hi).trans (setCell_block _ _ _ _ hi)))))
  have ck : ∀ {x o : Nat} {u : Value}, x ≠ w.heap.size → w5.cell? ⟨x, o, none⟩ = some u → ((((((w5.setCell ⟨w.heap.size, 0, none⟩ (.int .i64 1)).setCell ⟨w.heap.size, 1, none⟩ (.int .i64 0)).setCell ⟨w.heap.size, 2, none⟩ (.int .i64 1)).setCell ⟨w.heap.size, 3, none⟩ (.string ⟨#[]⟩)).setCell ⟨w.heap.size, 4, none⟩ (.int .i64 n)).setCell ⟨w.heap.size, 5, none⟩ (nils)).cell? ⟨x, o, none⟩ = some u := fun {x o u} hx hu => (World.cell?_of_block (a := ⟨x, o, none⟩) (k9 x hx)).trans hu
  obtain ⟨_, _, hm1, hb1, B1⟩ := HN.out
  refine bodyPost_ret (results_cell_row2 Tryz.results16 _ _ w.heap.size 35 _ (0, 0) _ rfl Y5 Tryz.underlying35 rfl size35) rfl ⟨g, cap, rfl, ck hm1 n2, ck (Ne.symm ng) n3, ck hm1 n4, ?_⟩
  have BA : Below B w w5 := (Joins.below_le B1 hb1).trans BW
  exact (((((BA.setCell hb1 _).setCell hb1 _).setCell hb1 _).setCell hb1 _).setCell hb1 _).setCell hb1 _
end Go.Proofs.YtbajpejnnfacbaaGreatDoor.Lz
