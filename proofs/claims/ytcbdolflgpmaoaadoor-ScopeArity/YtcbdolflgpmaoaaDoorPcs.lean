/- Package scope: Check and Arity. -/
import Derived.Test.YtcbdolflgpmaoaaDoorPcq
import Derived.Test.YtcbdolflgpmaoaaDoorScv
namespace Go.Proofs.YtcbdolflgpmaoaaDoor
open Go.RowKit
open Go.Maps (Keyed string_keyed)
set_option linter.unusedVariables false
set_option linter.unusedSimpArgs false

abbrev zro : Nm → Nat := fun _ => 0
theorem scD_zero (l : List Nm) : scD (plus zro l) = fun x => l.contains x := by
  rw [scD_plus]; funext y; simp [scD, zro]
/-- a program whose names are no longer than any text -/
def okPg (ds : List D) (bs : List B) : Prop := (∀ d ∈ ds, d.name.length ≤ maxLen) ∧ okBs bs
set_option maxRecDepth 100000 in
set_option maxHeartbeats 8000000 in
theorem pprogram_any (ds : List D) (bs : List B) {w : World} {b f m : Nat} (h : Cs w b f m 0 0 (arityN []) zro) (gd gb : Option Addr) (ld lb cd cb : Nat) (xb : List Value) (ed : ds.length = ld) (eb : bs.length = lb)
    (RD : IsRow w (but3 b f m) (datC ds) ds.length (.slice gd ds.length cd)) (RB : IsRow w (but3 b f m) xb bs.length (.slice gb bs.length cb)) (IB : isBs w (but3 b f m) bs xb) (ok : okPg ds bs) (hn : bs.length + 2 * nmBs bs ≤ 1000000000) :
    Calls Tryd.prog 16 #[ptr b, .agg #[.slice gd ld cd, .slice gb lb cb]] w (Res w b f m ds.length (bs.length + 2 * nmBs bs) (arityN ds) (plus zro (bs.map nameB')) (checkP prN tA ⟨ds, bs⟩)) := by
  have K0 := Joins.below_alloc1 w (.cells #[.slice gd ld cd, .slice gb lb cb] 25)
  have X0 : Bx (w.alloc (.cells #[.slice gd ld cd, .slice gb lb cb] 25)) w.heap.size #[.slice gd ld cd, .slice gb lb cb] 25 := heap_alloc_new w _
  have G0 : Ge b f m w _ := Ge.of_below K0
  have C0 := h.later K0
  have nx := h.new (Nat.le_refl _)
  have y0 := X0.cell 0
  have y1 := X0.cell 1
  have GW := Hid.mk G0
  have XW := Hid.mk X0
  have DA := pdatas_any ds C0 _ (RD.keeps G0.keeps) ok.1
  have HGR := Hid.mk (fun (W : World) (k : Ge b f m w W) (CC : Cs W b f m ds.length 0 (arityN ds) zro) => group_any bs (PBs_all bs) CC _ xb (RB.keeps k.keeps) (isBs_keeps k.keeps _ _ IB) ok.2 (by omega))
  have HHS := Hid.mk (fun (W : World) (CC : Cs W b f m ds.length (bs.length + 2 * nmBs bs) (arityN ds) (plus zro (bs.map nameB'))) => phas_any CC mainN (by unfold maxLen; decide))
  rw [show str mainN = (⟨#[109, 97, 105, 110]⟩ : ByteArray) from rfl, show decide (0 < plus zro (bs.map nameB') mainN) = (bs.map nameB').contains mainN from congrFun (scD_zero _) mainN] at HHS
  have eP : checkP prN tA ⟨ds, bs⟩ = orF (datF [] ds) (orF (orF (namF [] bs) (chBs ds prN tA (scD (plus zro (bs.map nameB'))) bs)) (if (bs.map nameB').contains mainN then none else some (0, 36))) := by
    rw [checkP, scD_zero, orF_assoc]
  rw [eP]
  have e1 : 0 + bs.length + 2 * nmBs bs = bs.length + 2 * nmBs bs := by omega
  rw [e1] at HGR
  rw [ed] at DA HGR HHS ⊢
  simp only [eb] at HGR HHS ⊢
  generalize orF (namF [] bs) (chBs ds prN tA (scD (plus zro (bs.map nameB'))) bs) = F2 at *
  generalize datF [] ds = F1 at *
  generalize nmBs bs = nb at *
  generalize plus zro (bs.map nameB') = bd at *
  generalize (bs.map nameB').contains mainN = q at *
  clear h C0 X0 K0 G0 RD RB IB ok hn eP ed eb e1
  cases F1 with
  | some r =>
    obtain ⟨ra, rc⟩ := r
    rw [orF_some]
    go_enter Tryd.func16, Tryd.ntmps16
    go_wp2_with (go_at_call 30; refine DA.mono ?_; intro e w8 R8; obtain ⟨rfl, G8, C8⟩ := R8.no'; have HE := Hid.mk (And.intro (GW.out.trans G8) C8); clear R8 G8 C8)
    go_ret
    exact ⟨rfl, HE.out.1, HE.out.2⟩
  | none =>
    rw [orF_left]
    cases F2 with
    | some r =>
      obtain ⟨ra, rc⟩ := r
      rw [orF_some]
      go_enter Tryd.func16, Tryd.ntmps16
      go_wp2_with (first
        | (go_at_call 31; refine (HGR.out _ GW1.out CW1.out).mono ?_; intro e w9 R9; obtain ⟨rfl, G9, C9⟩ := R9.no'; have HE := Hid.mk (And.intro (GW1.out.trans G9) C9); clear R9 G9 C9)
        | (go_at_call 30; refine DA.mono ?_; intro e w8 R8; obtain ⟨rfl, G8, C8⟩ := R8.yes'; have GW1 := Hid.mk (GW.out.trans G8); have CW1 := Hid.mk C8; replace XW := Hid.mk (XW.out.ge G8 nx); have u1 := XW.out.cell 1; clear R8 G8 C8))
      go_ret
      exact ⟨rfl, HE.out.1, HE.out.2⟩
    | none =>
      rw [orF_left]
      cases q with
      | true =>
        rw [if_pos rfl]
        go_enter Tryd.func16, Tryd.ntmps16
        go_wp2_with (first
          | (go_at_call 32; refine (HHS.out _ CW2.out).mono ?_; rintro e w10 ⟨rfl, rfl⟩)
          | (go_at_call 31; refine (HGR.out _ GW1.out CW1.out).mono ?_; intro e w9 R9; obtain ⟨rfl, G9, C9⟩ := R9.yes'; have GW2 := Hid.mk (GW1.out.trans G9); have CW2 := Hid.mk C9; clear R9 G9 C9)
          | (go_at_call 30; refine DA.mono ?_; intro e w8 R8; obtain ⟨rfl, G8, C8⟩ := R8.yes'; have GW1 := Hid.mk (GW.out.trans G8); have CW1 := Hid.mk C8; replace XW := Hid.mk (XW.out.ge G8 nx); have u1 := XW.out.cell 1; clear R8 G8 C8))
        go_ret
        exact ⟨rfl, GW2.out, CW2.out⟩
      | false =>
        rw [if_neg (by simp)]
        go_enter Tryd.func16, Tryd.ntmps16
        go_wp2_with (first
          | (go_at_call 33; refine (pfail_any CW2.out 0 _).mono ?_; rintro e w11 ⟨rfl, G11, C11⟩; have HE := Hid.mk (And.intro (GW2.out.trans G11) C11); clear G11 C11)
          | (go_at_call 32; refine (HHS.out _ CW2.out).mono ?_; rintro e w10 ⟨rfl, rfl⟩)
          | (go_at_call 31; refine (HGR.out _ GW1.out CW1.out).mono ?_; intro e w9 R9; obtain ⟨rfl, G9, C9⟩ := R9.yes'; have GW2 := Hid.mk (GW1.out.trans G9); have CW2 := Hid.mk C9; clear R9 G9 C9)
          | (go_at_call 30; refine DA.mono ?_; intro e w8 R8; obtain ⟨rfl, G8, C8⟩ := R8.yes'; have GW1 := Hid.mk (GW.out.trans G8); have CW1 := Hid.mk C8; replace XW := Hid.mk (XW.out.ge G8 nx); have u1 := XW.out.cell 1; clear R8 G8 C8))
        go_ret
        exact ⟨rfl, HE.out.1, HE.out.2⟩
end Go.Proofs.YtcbdolflgpmaoaaDoor

/- Package scope: Check, whole; Arity. -/
namespace Go.Proofs.YtcbdolflgpmaoaaDoor
open Go.RowKit
open Go.Maps (Keyed string_keyed)
set_option linter.unusedVariables false
set_option linter.unusedSimpArgs false

set_option maxRecDepth 100000 in
set_option maxHeartbeats 8000000 in
theorem pcheck_any (ds : List D) (bs : List B) (gd gb : Option Addr) (ld lb cd cb : Nat) (xb : List Value) (w : World) (T : Table w)
    (ID : IsRow w (fun g => g < w.heap.size) (datC ds) ds.length (.slice gd ld cd)) (IB : IsRow w (fun g => g < w.heap.size) xb bs.length (.slice gb lb cb)) (IBS : isBs w (fun g => g < w.heap.size) bs xb) (ed : ds.length = ld) (eb : bs.length = lb) (ok : okPg ds bs) (hw : bs.length + 2 * nmBs bs ≤ 1000000000) :
    Calls Tryd.prog 8 #[.agg #[.slice gd ld cd, .slice gb lb cb]] w fun e w' => e = .returned (.tuple #[.int .i64 (atF (checkP prN tA ⟨ds, bs⟩)), .int .i64 (erF (checkP prN tA ⟨ds, bs⟩))]) ∧ Below w.heap.size w w' := by
  have K1 := Joins.below_alloc1 w (.cells #[.slice gd ld cd, .slice gb lb cb] 25)
  have X1 : Bx (w.alloc (.cells #[.slice gd ld cd, .slice gb lb cb] 25)) w.heap.size #[.slice gd ld cd, .slice gb lb cb] 25 := heap_alloc_new w _
  have s1 : (w.alloc (.cells #[.slice gd ld cd, .slice gb lb cb] 25)).heap.size = w.heap.size + 1 := by rw [World.size_alloc]
  generalize hw1 : w.alloc (.cells #[.slice gd ld cd, .slice gb lb cb] 25) = w1 at K1 X1 s1
  have M2 := Mp.made w1
  have K2 := Joins.below_alloc1 w1 (.map #[] 0)
  have s2 : (w1.alloc (.map #[] 0)).heap.size = w.heap.size + 2 := by rw [World.size_alloc, s1]
  rw [s1] at M2
  generalize hw2 : w1.alloc (.map #[] 0) = w2 at K2 M2 s2
  have M3 := Mp.made w2
  have K3 := Joins.below_alloc1 w2 (.map #[] 0)
  have s3 : (w2.alloc (.map #[] 0)).heap.size = w.heap.size + 3 := by rw [World.size_alloc, s2]
  rw [s2] at M3
  generalize hw3 : w2.alloc (.map #[] 0) = w3 at K3 M3 s3
  have K4 := Joins.below_alloc1 w3 (.cells #[.map (some (w.heap.size + 1)), .map (some (w.heap.size + 2)), .int .i64 0, .int .i64 0] 53)
  have X4 : (w3.alloc (.cells #[.map (some (w.heap.size + 1)), .map (some (w.heap.size + 2)), .int .i64 0, .int .i64 0] 53)).heap[w3.heap.size]? = some (.cells #[.map (some (w.heap.size + 1)), .map (some (w.heap.size + 2)), .int .i64 0, .int .i64 0] 53 (0, 0)) := heap_alloc_new w3 _
  obtain ⟨w4, hw4⟩ : ∃ w4, w3.alloc (.cells #[.map (some (w.heap.size + 1)), .map (some (w.heap.size + 2)), .int .i64 0, .int .i64 0] 53) = w4 := ⟨_, rfl⟩
  rw [hw4] at K4 X4
  have KK : Below w.heap.size w w4 := ((K1.trans (Joins.below_le K2 (by omega))).trans (Joins.below_le K3 (by omega))).trans (Joins.below_le K4 (by omega))
  have tp := T.pos
  have C4 : Cs w4 w3.heap.size (w.heap.size + 1) (w.heap.size + 2) 0 0 (arityN []) zro :=
    ⟨X4, (M2.of_block (K3.block _ (by omega))).of_block (K4.block _ (by omega)), ⟨fun _ => none, M3.of_block (K4.block _ (by omega)), fun s => ⟨rfl, Nat.le_refl _⟩⟩, ⟨by omega, by omega, by omega⟩, T.later KK, ⟨by omega, by omega, by omega⟩⟩
  have kp : Keeps (fun g => g < w.heap.size) (but3 w3.heap.size (w.heap.size + 1) (w.heap.size + 2)) w w4 := keeps_below KK (fun g h => ⟨by omega, by omega, by omega⟩)
  rw [← ed] at ID
  rw [← eb] at IB
  have PR := pprogram_any ds bs C4 gd gb ld lb cd cb xb ed eb (ID.keeps kp) (IB.keeps kp) (isBs_keeps kp _ _ IBS) ok hw
  have XW : Bx w4 w.heap.size #[.slice gd ld cd, .slice gb lb cb] 25 := (K4.block _ (by omega)).trans ((K3.block _ (by omega)).trans ((K2.block _ (by omega)).trans X1))
  have y0 := XW.cell 0
  have y1 := XW.cell 1
  have HK := Hid.mk KK
  have HS := Hid.mk s3
  have r1 : Sem.run Tryd.prog (Instr.makeMap 51 none) w1 = .ok (.map (some (w.heap.size + 1))) w2 := by rw [← hw2, ← s1]; exact run_makeMap _ _
  have r2 : Sem.run Tryd.prog (Instr.makeMap 51 none) w2 = .ok (.map (some (w.heap.size + 2))) w3 := by rw [← hw3, ← s2]; exact run_makeMap _ _
  have HLE : Hid (w.heap.size ≤ w4.heap.size) := ⟨KK.size⟩
  obtain ⟨F, hF⟩ : ∃ F, checkP prN tA ⟨ds, bs⟩ = F := ⟨_, rfl⟩
  rw [hF] at PR ⊢
  generalize ds.length = nd at PR
  generalize bs.length + 2 * nmBs bs = nn at PR
  generalize plus zro (bs.map nameB') = bdd at PR
  have b3 : Hid (w.heap.size ≤ w3.heap.size) := ⟨by omega⟩
  clear T ID IB IBS ok hw K1 K2 K3 K4 X1 X4 M2 M3 C4 kp KK XW tp hF s1 s2 s3 hw2 hw3 ed eb
  subst hw4
  cases F with
  | none =>
    simp only [atF, erF]
    go_enter Tryd.func8, Tryd.ntmps8
    go_wp2_with (go_at_call 16; refine PR.mono ?_; intro e w8 R8; obtain ⟨rfl, G8, C8⟩ := R8.yes'; have HG := Hid.mk (And.intro G8 C8); have z2 : w8.cell? ⟨w3.heap.size, 2, none⟩ = some (.int .i64 0) := C8.cell 2; have z3 : w8.cell? ⟨w3.heap.size, 3, none⟩ = some (.int .i64 0) := C8.cell 3; clear R8 G8 C8)
    go_quiet (fail)
    all_goals go_wp2
    all_goals go_ret2
    all_goals exact ⟨rfl, below_drewN (HK.out.trans (HG.out.1.below b3.out (by omega) (by omega) HLE.out)) _⟩
  | some r =>
    obtain ⟨ra, rc⟩ := r
    simp only [atF, erF]
    go_enter Tryd.func8, Tryd.ntmps8
    go_wp2_with (go_at_call 16; refine PR.mono ?_; intro e w8 R8; obtain ⟨rfl, G8, ⟨v0, v1, C8⟩⟩ := R8.no'; have HG := Hid.mk G8; have z2 : w8.cell? ⟨w3.heap.size, 2, none⟩ = some (.int .i64 ra) := Joins.cell_of_block C8 2; have z3 : w8.cell? ⟨w3.heap.size, 3, none⟩ = some (.int .i64 rc) := Joins.cell_of_block C8 3; clear R8 G8 C8)
    go_quiet (fail)
    all_goals go_wp2
    all_goals go_ret2
    all_goals exact ⟨rfl, below_drewN (HK.out.trans (HG.out.below b3.out (by omega) (by omega) HLE.out)) _⟩
end Go.Proofs.YtcbdolflgpmaoaaDoor
