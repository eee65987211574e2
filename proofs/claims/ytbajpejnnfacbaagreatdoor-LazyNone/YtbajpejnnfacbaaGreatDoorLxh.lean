/- Package lazy: the one program that is laid at any rate, as it is handed in; its machine. -/
import Derived.Test.YtbajpejnnfacbaaGreatDoorLzr
import Derived.Test.YtbajpejnnfacbaaGreatDoorLzb
import Derived.Test.YtbajpejnnfacbaaGreatDoorLyp
import Derived.Test.YtbajpejnnfacbaaGreatDoorLyf
namespace Go.Proofs.YtbajpejnnfacbaaGreatDoor
def emP (n : Int) : List B := [.mk [109, 97, 105, 110] 0 [] (.mk 3 0 [35, 101, 109, 105, 116] 0 [⟨[], n⟩] [] [] [])]
theorem emP_okPg (n : Int) : okPg [] (emP n) := by simp [okPg, emP, okBs, okB, okE, okEs, okAs, maxLen]
theorem emP_nm (n : Int) : (emP n).length + 2 * nmBs (emP n) ≤ 1000000000 := by simp [emP, nmBs, nmB, nmE, nmEs, nmAs]
end Go.Proofs.YtbajpejnnfacbaaGreatDoor
namespace Go.Proofs.YtbajpejnnfacbaaGreatDoor.Lz
open Go.RowKit
set_option linter.unusedVariables false
set_option linter.unusedSimpArgs false

theorem size25 : (Tryz.prog.info? 25).map (·.size) = some 2 := by kernel_rfl
set_option maxRecDepth 100000 in
theorem one_emit (w : World) (g off cap : Nat) : Calls Tryz.prog 21 #[.agg (exB g off cap)] w fun e w' => ∃ bb, e = .returned (.agg #[nils, .slice (some ⟨bb, 0, none⟩) 1 1]) ∧ (∀ j u, (biB g off cap)[j]? = some u → w'.cell? ⟨bb, j, none⟩ = some u) ∧ Below w.heap.size w w' := by
  go_enter Tryz.func21, Tryz.ntmps21
  go_wp2
  refine bodyPost_ret (results_cell_row Tryz.results21 _ _ (w.heap.size + 1) 25 #[nils, .slice (some ⟨w.heap.size + 1 + 1, 0, none⟩) 1 1] (0, 0) _ rfl ?_ Tryz.underlying25 rfl size25) rfl ⟨w.heap.size + 1 + 1, rfl, fun j u hu => ?_, by go_grown⟩
  · refine later' ?_ (Joins.below_alloc1 _ _)
    have := heap_alloc_new (w.alloc (.cells (exB g off cap) 53)) (.cells #[nils, .slice (some ⟨w.heap.size + 1 + 1, 0, none⟩) 1 1] 25)
    simp only [World.size_alloc] at this
    exact this
  · have := cellN ((w.alloc (.cells (exB g off cap) 53)).alloc (.cells #[nils, .slice (some ⟨w.heap.size + 1 + 1, 0, none⟩) 1 1] 25)) (biB g off cap) 58 j u hu
    simp only [World.size_alloc] at this
    exact this
theorem emit_findN : prN [35, 101, 109, 105, 116] = 8 := by decide
theorem emit_ar : tA 8 = 1 := by decide
theorem emP_ok (n : Int) : checkP prN tA ⟨[], emP n⟩ = none := by
  simp [checkP, emP, datF, namF, chBs, chB, chE, orF, emit_findN, emit_ar, argF, atmF, nameB', mainN, mainL, twiceN]
theorem Laid1.le {w : World} {B B' : Nat} {n : Int} {mb bm hm e tb q cq f p a ca : Nat} (h : Laid1 w B n mb bm hm e tb q cq f p a ca) (k : B' ≤ B) : Laid1 w B' n mb bm hm e tb q cq f p a ca :=
  ⟨h.xm, h.xbm, h.xhm, h.xe, h.xq, h.xtb, h.xf, h.xp, ⟨Nat.le_trans k h.xa.1, h.xa.2⟩, by have := h.ord; omega⟩
set_option maxRecDepth 100000 in
set_option maxHeartbeats 4000000 in
theorem new_emit {w : World} (T : Table w) (bb g off cap : Nat) (n : Int) (hb : ∀ j u, (biB g off cap)[j]? = some u → w.cell? ⟨bb, j, none⟩ = some u) (h0 : w.cell? ⟨g, off, none⟩ = some (.string ⟨#[]⟩)) (h1 : w.cell? ⟨g, off + 1, none⟩ = some (.int .i64 n)) (hc : 1 ≤ cap) :
    Calls Tryz.prog 20 #[.agg #[nils, .slice (some ⟨bb, 0, none⟩) 1 1]] w fun e w' => ∃ mb bm hm e' tb q cq f p a ca, e = .returned (.tuple #[ptr mb, .int .i64 0, .int .i64 0]) ∧ Laid1 w' w.heap.size n mb bm hm e' tb q cq f p a ca ∧ Below w.heap.size w w' := by
  obtain ⟨W1, hW1⟩ : ∃ W1, W1 = w.alloc (.cells #[nils, .slice (some ⟨bb, 0, none⟩) 1 1] 25) := ⟨_, rfl⟩
  have B1 : Below w.heap.size w W1 := by subst hW1; exact Joins.below_alloc1 _ _
  have p0 : W1.cell? ⟨w.heap.size, 0, none⟩ = some nils := by subst hW1; exact cellN _ _ _ _ _ rfl
  have p1 : W1.cell? ⟨w.heap.size, 1, none⟩ = some (.slice (some ⟨bb, 0, none⟩) 1 1) := by subst hW1; exact cellN _ _ _ _ _ rfl
  have C : Calls Tryz.prog 31 #[.agg #[nils, .slice (some ⟨bb, 0, none⟩) 1 1]] W1 fun e w' => e = .returned (.tuple #[.int .i64 0, .int .i64 0]) ∧ Below W1.heap.size W1 w' := by
    have z : ∀ xs : List Value, IsRow W1 (fun g => g < W1.heap.size) xs 0 nils := fun xs => ⟨none, 0, rfl, ⟨Nat.le_refl _, by omega⟩, fun h => absurd h (by omega)⟩
    have k := pcheck_any [] (emP n) none (some ⟨bb, 0, none⟩) 0 1 0 1 (biB g off cap).toList W1 (T.later B1) (z _)
      ⟨some ⟨bb, 0, none⟩, 1, rfl, ⟨Nat.le_refl _, by show 1 ≤ 1000000000; omega⟩, fun _ => ⟨bb, 0, rfl, World.block_lt_of_cell? _ _ (cellL B1 (hb 0 _ rfl)), fun j u hu => by rw [Nat.zero_add]; exact cellL B1 (hb j u (by simpa using hu))⟩⟩
      ⟨(biB g off cap).toList, [], by simp, ⟨nils, _, rfl, z _, _, _, _, _, [], [], [], rfl, ⟨some ⟨g, off, none⟩, cap, rfl, ⟨hc, by show 1 ≤ 1000000000; omega⟩, fun _ => ⟨g, off, rfl, World.block_lt_of_cell? _ _ (cellL B1 h0), fun j u hu => by
        match j, hu with
        | 0, hu => simp [atmC] at hu; subst hu; exact cellL B1 h0
        | 1, hu => simp [atmC] at hu; subst hu; exact cellL B1 h1⟩⟩, z _, rfl, z _, rfl, z _, rfl⟩, rfl⟩ rfl rfl
      (emP_okPg n) (emP_nm n)
    rw [emP_ok] at k
    exact k
  have L := fun W (hW : Below W1.heap.size W1 W) => laid_emit (T.later (lOn B1 hW)) bb g off cap n (fun j u hu => cellL (lOn B1 hW) (hb j u hu)) (cellL (lOn B1 hW) h0) (cellL (lOn B1 hW) h1)
  have HB1 := Hid.mk B1
  have HL := Hid.mk L
  clear T hb h0 h1 L B1
  go_enter Tryz.func20, Tryz.ntmps20
  go_upto_region 1 with fail
  rw [← hW1]
  clear hW1
  go_wp2_with (first
    | (go_at_call 31; refine C.mono ?_; rintro e w3 ⟨rfl, G3⟩; have r0 := cellL G3 p0; have r1 := cellL G3 p1; have K3 := Hid.mk G3; clear G3)
    | (go_at_call 32; have zz := K3; refine (HL.out _ K3.out).mono ?_; rintro e w4 ⟨mb, bm, hm, e', tb, q, cq, f, p, a, ca, rfl, L4, G4⟩; have K4 := Hid.mk (And.intro L4 G4); clear L4 G4))
  go_ret3
  have s3 : w.heap.size ≤ w3.heap.size := (lOn HB1.out K3.out).size
  exact ⟨mb, bm, hm, e', tb, q, cq, f, p, a, ca, rfl, K4.out.1.le s3, lOn (lOn HB1.out K3.out) K4.out.2⟩
end Go.Proofs.YtbajpejnnfacbaaGreatDoor.Lz

/- Package lazy: a handle of the one program that is laid at any rate. -/
namespace Go.Proofs.YtbajpejnnfacbaaGreatDoor.Lz
open Go.RowKit
open Go.Maps (Keyed string_keyed int_keyed)
set_option linter.unusedVariables false
set_option linter.unusedSimpArgs false

theorem unfit_ok (w : World) (mb : Nat) (h : w.cell? ⟨mb, 7, none⟩ = some (.bool false)) : Calls Tryz.prog 25 #[ptr mb] w fun r w' => r = .returned (.int .i64 0) ∧ w' = w := by
  go_enter Tryz.func25, Tryz.ntmps25
  go_wp2
  go_ret
  exact ⟨rfl, rfl⟩
theorem steps_ok (w : World) (mb : Nat) (k : Int) (h : w.cell? ⟨mb, 6, none⟩ = some (.int .i64 k)) : Calls Tryz.prog 12 #[ptr mb] w fun r w' => r = .returned (.int .i64 k) ∧ w' = w := by
  go_enter Tryz.func12, Tryz.ntmps12
  go_wp2
  go_ret
  exact ⟨rfl, rfl⟩
set_option maxRecDepth 100000 in
set_option maxHeartbeats 4000000 in
theorem make_emit {w : World} {B : Nat} {n : Int} {mb bm hm e tb q cq f p a ca : Nat} (L : Laid1 w B n mb bm hm e tb q cq f p a ca) :
    Calls Tryz.prog 18 #[ptr mb, .string mainS, nils] w fun r w' => r = .returned (.tuple #[.int .i64 1, .int .i64 0]) ∧ Bx w' mb #[nils, .map (some bm), ptr e, .map (some hm), .int .i64 1, nils, .int .i64 0, .bool false] 74 ∧ VM 3 w' hm 1 (updV (fun _ => none) (.int .i64 1) (ptr tb)) ∧ (∀ i, i ≠ mb → i ≠ hm → i < w.heap.size → w'.heap[i]? = w.heap[i]?) ∧ Below B w w' := by
  have m1 := L.xm.cell 1
  have m2 := L.xm.cell 2
  have m4 := L.xm.cell 4
  have z4 := Joins.unfrozen_of_block L.xm 4
  have m7 := L.xm.cell 7
  have e0 := L.xe.cell 0
  have q0 := L.xq
  obtain ⟨o1, o2, o3, o4, o5, o6, o7, o8, o9, o10, o11⟩ := L.ord
  have HL := Hid.mk L
  have U := unfit_ok w mb m7
  obtain ⟨W1, hW1⟩ : ∃ W1, W1 = w.setCell ⟨mb, 4, none⟩ (.int .i64 1) := ⟨_, rfl⟩
  have X1 : Bx W1 mb #[nils, .map (some bm), ptr e, .map (some hm), .int .i64 1, nils, .int .i64 0, .bool false] 74 := by subst hW1; exact Joins.block_setCell (i := 4) L.xm (.int .i64 1)
  have k1 : ∀ i, i ≠ mb → W1.heap[i]? = w.heap[i]? := fun i hi => by subst hW1; exact setCell_block _ _ _ _ hi
  have s1 : W1.heap.size = w.heap.size := by subst hW1; simp [World.setCell]
  have B1 : Below B w W1 := by subst hW1; exact (Below.refl B w).setCell (by show B ≤ mb; omega) _
  obtain ⟨w3, run3, vm3, gr3⟩ := VM.store (w := W1.drew) (L.xhm.of_block (k1 hm (by omega))) lawI Tryz.underlying72 (by unfold maxLen; omega) (val := ptr tb) (keyI (n := 1) (by unfold isI; omega))
  have lh := L.xhm.lt
  have ml := L.xm.lt
  have k3 : ∀ i, i ≠ hm → i < w.heap.size → w3.heap[i]? = W1.heap[i]? := fun i hi hl => gr3.block i (by show i < W1.heap.size; omega) (fun e => hi (Option.some.inj e))
  have X3 : Bx w3 mb #[nils, .map (some bm), ptr e, .map (some hm), .int .i64 1, nils, .int .i64 0, .bool false] 74 := (k3 mb (by omega) ml).trans X1
  have x3 := X1.cell 3
  have x4 := X1.cell 4
  have y3 := X3.cell 3
  have y4 := X3.cell 4
  have VB := L.xbm
  have HK := Hid.mk (And.intro X3 (And.intro vm3 (And.intro (fun i (h1 : i ≠ mb) (h2 : i ≠ hm) (h3 : i < w.heap.size) => (k3 i h2 h3).trans (k1 i h1)) (below_grown B1.drew gr3 (by omega) (by have := L.xbm.lt; omega)))))
  have K1 : updV (fun _ => none) (.string mainL) (.int .i64 0) (.string mainL) = some (.int .i64 0) := upd_same _ (lawS.key key_main) _
  clear L k1 B1 vm3 gr3 k3 X1 X3 s1
  go_enter Tryz.func18, Tryz.ntmps18
  go_wp2_with (first
    | (go_at_call 25; refine U.mono ?_; rintro e9 w9 ⟨rfl, rfl⟩)
    | (at_lookup; refine wpList_vm_look_ok _ rfl _ _ 70 rfl 9 3 lawS Tryz.underlying70 (zero3 _) bm 1 _ rfl VB _ _ rfl key_main ?_; rw [K1]))
  rw [← hW1]
  clear hW1 m1 m2 m4 z4 m7 e0 q0
  go_region_held3 (fun w' => w'.cell? ⟨mb, 3, none⟩ = some (.map (some hm)) ∧ w'.cell? ⟨mb, 4, none⟩ = some (.int .i64 1)) (go_keep) (fail)
  clear run3 x3 x4
  go_wp2
  go_ret2
  exact ⟨rfl, HK.out⟩
set_option maxRecDepth 100000 in
theorem clone_one {w : World} (g cap : Nat) (n : Int) (h0 : w.cell? ⟨g, 0, none⟩ = some (.int .i64 n)) : Calls Tryz.prog 22 #[.slice (some ⟨g, 0, none⟩) 1 cap] w fun r w' => ∃ g' c', r = .returned (.slice (some ⟨g', 0, none⟩) 1 c') ∧ w'.cell? ⟨g', 0, none⟩ = some (.int .i64 n) ∧ Below w.heap.size w w' := by
  obtain ⟨i0, hi, hz0, hz1, hz2⟩ := info_parts info2'
  have he : ∀ w : World, (binOp .eql 26 (.slice (some ⟨g, 0, none⟩) 1 cap) (.slice none 0 0)).run Tryz.prog w = .ok (.bool false) w := fun _ => rfl
  have nw : ∀ j u, [Value.int .i64 n][j]? = some u → (w.alloc (.cells #[] 2)).cell? ((⟨g, 0, none⟩ : Addr).add j) = some u := fun j u hu => by
    match j, hu with
    | 0, hu => simp at hu; subst hu; exact cellL (Joins.below_alloc1 _ _) h0
  go_enter Tryz.func22, Tryz.ntmps22
  go_wp2_with (at_builtin; refine wpList_append_T rfl (.tmp 5) (.tmp 6) 26 rfl w.heap.size 2 i0 _ 1 8 Tryz.underlying26 hi hz0 hz1 hz2 rfl (by decide) (.slice (some ⟨w.heap.size, 0, none⟩) 0 0) 0 [] rfl (.inl ⟨rfl, rfl, _, rfl⟩) (some ⟨g, 0, none⟩) 1 cap [.int .i64 n] rfl rfl (fun _ => ⟨_, rfl, nw⟩) (by simp [Value.oneCell']) 1 rfl [.int .i64 n] rfl (by unfold maxLen; omega) (by omega) (by simp) ?_; intro g6 c6 w6 R6 B6; have H6 := Hid.mk (And.intro R6 B6); clear R6 B6)
  go_ret
  obtain ⟨R6, B6⟩ := H6.out
  obtain ⟨gq, rfl, r1, r2, r3, r4⟩ := RowS.open R6 (by omega)
  exact ⟨gq, c6, rfl, r4 0 _ rfl, (Joins.below_alloc1 w (.cells #[] 2)).trans B6⟩
set_option maxRecDepth 100000 in
theorem out_one {w : World} (mb g cap : Nat) (n : Int) (hm : w.cell? ⟨mb, 5, none⟩ = some (.slice (some ⟨g, 0, none⟩) 1 cap)) (h0 : w.cell? ⟨g, 0, none⟩ = some (.int .i64 n)) : Calls Tryz.prog 11 #[ptr mb] w fun r w' => ∃ g' c', r = .returned (.slice (some ⟨g', 0, none⟩) 1 c') ∧ w'.cell? ⟨g', 0, none⟩ = some (.int .i64 n) ∧ Below w.heap.size w w' := by
  have C := clone_one (w := w) g cap n h0
  go_enter Tryz.func11, Tryz.ntmps11
  go_wp2_with (go_at_call 22; refine C.mono ?_; rintro r w3 ⟨g', c', rfl, a, b⟩; have HK := Hid.mk (And.intro a b); clear a b)
  go_ret
  exact ⟨g', c', rfl, HK.out⟩
end Go.Proofs.YtbajpejnnfacbaaGreatDoor.Lz
