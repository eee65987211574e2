/-
  For every program that is not too great: where it is printed, the text is parsed as the same program; where it is not, the text is empty.
  Conditions: what comes in holds at most 1048576 values and letters, each counted each time it is reached (the second form); seven package-level variables of the library (tables and two errors) start as the library's text lays them (the card ties them to that text, of the pruned copy of the project that this seat holds; one of them, unicode/utf8.first, by the form's own constant).
-/
import Derived.Test.YtofgnpehlheeiaaGreatDoorOpn
import Derived.Test.YtofgnpehlheeiaaGreatDoorAgp
import Derived.Deep.DeepHandedRow
namespace Go.Proofs.YtofgnpehlheeiaaGreatDoor.showBack
open Go.ChangeShapes Go.WideShapes Go.ChangeAt Go.RowKit
set_option linter.unusedVariables false
set_option linter.unusedSimpArgs false

set_option maxRecDepth 100000 in
set_option maxHeartbeats 8000000 in
theorem walk (v : Value) (p : Pg) (w : World) (La : Laid w) (I : isPV w (fun g => g < w.heap.size) p v) (hf : finP p) (hn : wtP p ≤ 1048576) :
    Calls Tryz.prog 3 #[v] w fun e w' => e = .returned (.bool true) ∧ Below w.heap.size w w' := by
  have I0 := I
  obtain ⟨vd, vb, xb, rfl, ID, IB, IBS⟩ := I
  obtain ⟨gd, cd, rfl⟩ := row_len ID
  obtain ⟨gb, cb, rfl⟩ := row_len IB
  have hB := Joins.below_alloc1 w (.cells #[.slice gd p.datas.length cd, .slice gb p.binds.length cb] 25)
  have X0 := Blk.fresh w #[.slice gd p.datas.length cd, .slice gb p.binds.length cb] 25
  have Q := print_any _ (La.later hB) p _ (isPV_keeps (keeps_below (ok' := fun g => g < (w.alloc (.cells #[.slice gd p.datas.length cd, .slice gb p.binds.length cb] 25)).heap.size) hB (fun g hg => Nat.lt_of_lt_of_le hg hB.size)) I0) hf (by omega)
  have HI : Hid (isPV w anyB p (.agg #[.slice gd p.datas.length cd, .slice gb p.binds.length cb])) := ⟨pv_any I0⟩
  clear ID IB IBS I0
  generalize hnd : p.datas.length = nd at *
  generalize hnb : p.binds.length = nb at *
  rcases hr : printR p with c | s
  · rw [hr] at Q
    simp only [textS, textE] at Q
    have hc := printE_ne hr
    have ne' : (c != 0) = true := by simp [hc]
    have es : str [] = (⟨#[]⟩ : ByteArray) := rfl
    rw [es] at Q
    clear hr hc
    go_enter Tryz.func3, Tryz.ntmps3
    go_wp2_with (first
      | (go_at_call 5; refine Q.mono ?_; rintro r w1 ⟨rfl, B1⟩; have C1 := hB.trans (Joins.below_le B1 hB.size); have A1 := awake_any w1 (La.later C1); clear Q)
      | (go_at_call 6; refine A1.mono ?_; rintro r w2 ⟨rfl, B2⟩; have C2 := C1.trans (Joins.below_le B2 C1.size); have A2 := awake_any w2 (La.later C2); clear A1)
      | (go_at_call 6; refine A2.mono ?_; rintro r w3 ⟨rfl, B3⟩))
    go_ret
    exact ⟨rfl, C2.trans (Joins.below_le B3 C2.size)⟩
  · rw [hr] at Q
    simp only [textS, textE] at Q
    obtain ⟨q, hq, hsm⟩ := parse_print hf hr
    have HS : Hid (parseT s = .ok q ∧ sameP p q = true) := ⟨hq, hsm⟩
    clear hr hq hsm
    go_enter Tryz.func3, Tryz.ntmps3
    go_wp2_with (first
      | (go_at_call 5; refine Q.mono ?_; rintro r w1 ⟨rfl, B1⟩; have C1 := hB.trans (Joins.below_le B1 hB.size); have X1 : Blk w1 w.heap.size _ 25 := (B1.block _ X0.lt).trans X0; have A1 := awake_any w1 (La.later C1); clear Q)
      | (go_at_call 6; refine A1.mono ?_; rintro r w2 ⟨rfl, B2⟩; have C2 := C1.trans (Joins.below_le B2 C1.size); have X2 : Blk w2 w.heap.size _ 25 := (B2.block _ X1.lt).trans X1; have PA := rparse_any (str s) w2 (La.later C2); rw [str_list] at PA; clear A1)
      | (go_at_call 7; refine PA.mono ?_; rintro r w3 ⟨B3, v3, a3, c3, rfl, h3⟩; have C3 := C2.trans (Joins.below_le B3 C2.size); have X3 : Blk w3 w.heap.size _ 25 := (B3.block _ X2.lt).trans X2; obtain ⟨rfl, rfl, I3⟩ : c3 = 0 ∧ a3 = 0 ∧ isPV w3 anyB q v3 := (by rcases h3 with ⟨_, _, h⟩ | ⟨h1, h2, p', h4, h5⟩; exact absurd HS.out.1 (h q); rw [HS.out.1] at h4; cases h4; exact ⟨h1, h2, pv_any h5⟩); obtain ⟨vd3, vb3, xb3, rfl, ID3, IB3, IBS3⟩ := id I3; obtain ⟨gd3, cd3, rfl⟩ := row_len ID3; obtain ⟨gb3, cb3, rfl⟩ := row_len IB3; have HI3 : Hid (isPV _ _ _ _) := ⟨I3⟩; clear h3 I3 ID3 IB3 IBS3; generalize q.datas.length = nd3 at *; generalize q.binds.length = nb3 at *; have x0 : w3.cell? ⟨w.heap.size, 0, none⟩ = some (.slice gd nd cd) := X3.cell 0; have x1 : w3.cell? ⟨w.heap.size, 1, none⟩ = some (.slice gb nb cb) := X3.cell 1; have ltX := X3.lt; clear PA)
      | (go_at_call 8; refine (same_any _ p q _ _ (pv_later (pv_later HI.out C3) (Joins.below_alloc1 w3 (.cells #[.slice gd3 nd3 cd3, .slice gb3 nb3 cb3] 25))) (pv_later HI3.out (Joins.below_alloc1 w3 (.cells #[.slice gd3 nd3 cd3, .slice gb3 nb3 cb3] 25))) HS.out.2).mono ?_; rintro r w4 ⟨rfl, B4⟩))
    go_ret
    exact ⟨rfl, (bal C3 _).trans (Joins.below_le B4 (by have := C3.size; simp; omega))⟩


set_option maxRecDepth 100000 in
/-- What the walk gives, for every argument that is small and every world that holds what the row lists. -/
theorem contract (H : Type) (enc : TypeId × Value → H) (W : World) (base : Nat) (args : Array Value) (ds gs : List (DataW H)) (before : List MemPlace)
    (hval : ∀ (j : Nat) t v, Tryz.f3.params[j]? = some t → args[j]? = some v → Value.okWide Tryz.prog W .any base t v)
    (hW : DataW.Whole enc Tryz.prog Tryz.f3.params.toList Rows.showBackSpec.vars false W args.toList ds gs before)
    (hk : Rows.uptoSmall H (ds ++ gs) = true) (hL : laidMetH Tryz.prog Rows.showBackUptoRow.laid W) :
    Calls Tryz.prog 3 args W fun e W' => ∃ v, e = .returned v ∧ Rows.showBackSpec.post enc Tryz.prog Tryz.f3 false true false false W args v W' := by
  have hW' := hW
  obtain ⟨p, q, hA0, hV, rfl, hfz, hnd⟩ := hW
  have hA : DataW.TrodAll enc Tryz.prog W 0 (fun _ => true) true Tryz.f3.params.toList args.toList ds p := hA0
  rw [Tryz.params3] at hA hval
  obtain ⟨v0, vs0, d0, ds0, p0, q0, hargs, rfl, rfl, h0, r0⟩ := trodAll_cons hA
  obtain ⟨rfl, rfl, rfl⟩ := trodAll_nil r0
  obtain rfl : args = #[v0] := by cases args; simp_all
  obtain ⟨rfl, rfl⟩ := trodVars_none hV
  have t0 := h0
  have lt0 : ∀ x ∈ p0, x.block < W.heap.size := by obtain ⟨m, hm⟩ := t0; exact DataW.trod_lt m _ _ _ hm
  have hb : Rows.uptoBulk d0 ≤ 1048576 := by
    have := of_decide_eq_true hk
    simp only [List.cons_append, List.nil_append, List.append_nil, Rows.uptoBulkAll] at this
    omega
  obtain ⟨P, IP, fP, wP⟩ := open_prog h0 hb
  clear hA0
  refine (walk v0 P W (laid_of hL) IP fP wP).mono fun e W' ⟨he, bel⟩ => ?_
  subst he
  exact ⟨_, rfl, _, _, _, [], _, [], hW', trodAll_mk1 (shut_bool Tryz.underlying4 _), (trodAll_cons_mk (Below.trod laidOut (by kernel_rfl) (of_decide_eq_true (by kernel_rfl)) t0 bel lt0) trodAll_mk0), rfl, bel.frame _, fun h => by cases h⟩

theorem reads (os : Os) {H : Type} (enc : TypeId × Value → H) : ∃ places, DataW.whole enc Tryz.prog ((World.laidAll Tryz.prog os laidL).forCall (fun _ _ => 0) ⟨#[], #[.agg #[.slice none 0 0, .slice none 0 0]], []⟩).memory Tryz.f3.params.toList Rows.showBackSpec.vars false #[Value.agg #[.slice none 0 0, .slice none 0 0]].toList 8 = some ([.agg [.nil, .nil]], [], places) :=
  ⟨[], by kernel_rfl⟩
set_option maxRecDepth 100000 in
theorem lifted (os : Os) (started : os.Started) (H : Type) (enc : TypeId × Value → H) (F : Stop.Interp) :
    ReturnsInHanded {} Tryz.checked os 3 .any ((Rows.OpenSpec.upto Rows.showBackSpec).preRow enc Tryz.prog Tryz.f3 Rows.showBackUptoRow.domain false Rows.showBackUptoRow.laid) (((Rows.OpenSpec.upto Rows.showBackSpec).at F).post enc Tryz.prog Tryz.f3 false true false false) := by
  obtain ⟨places, hx⟩ := reads os enc
  have hok : Input.okWideB Tryz.prog ((World.laidAll Tryz.prog os laidL).forCall (fun _ _ => 0) ⟨#[], #[.agg #[.slice none 0 0, .slice none 0 0]], []⟩) 3 ⟨#[], #[.agg #[.slice none 0 0, .slice none 0 0]], []⟩ = true := by kernel_rfl
  refine returnsInHanded_of_row (C := Tryz.checked) (s := Rows.OpenSpec.upto Rows.showBackSpec) own started (by kernel_rfl) Tryz.func3
    ⟨World.laidAll Tryz.prog os laidL, fun _ _ => 0, ⟨#[], #[.agg #[.slice none 0 0, .slice none 0 0]], []⟩, World.laidAll_os _ _ _, World.shaped_of_ZipB (by kernel_rfl) (by kernel_rfl), (Input.okWide_of_okWideB (base := 0) hok).1, (Input.okWide_of_okWideB hok).2,
      OpenSpec.preRow_of_cond 8 hx (by kernel_rfl) (fun k hk => by cases hk; kernel_rfl) (by kernel_rfl) (met os _), by
        simp only [Assume.holds]
        exact ⟨by simp, by simp, by simp, by simp, by simp⟩⟩ ?_
  intro W base args ds gs before hval hW _ hcond _ hL _ _
  exact contract H enc W base args ds gs before hval hW (hcond _ rfl) hL

theorem said : Rows.ShowBackUptoSaid :=
  OpenClaim.holds_of_cond 3 Tryz.f3 rfl rfl rfl rfl rfl rfl rfl ⟨rfl, rfl, rfl, rfl, rfl⟩ rfl rfl rfl rfl rfl (by kernel_rfl) Tryz.func3 (by kernel_rfl)
    (of_decide_eq_true (by kernel_rfl)) (by unfold Func.isWrapper; first | (rw [if_pos (by decide +kernel)]; kernel_rfl) | (rw [if_neg (by decide +kernel)]; exact ⟨rfl, rfl⟩))
    (fun os started H enc _ F => by rw [OpenClaim.pre_eq_preRow]; exact lifted os started H enc F)

/-- No parameter wants a stand-in: what the card asks. -/
theorem plain (f : FuncId) (fn : Func) (hf : Tryz.pinned.checked.prog.funcNamed "midden/middenlaw07.ShowBack" = some f) (hfn : Tryz.pinned.checked.prog.funcs[f]? = some fn) :
    true = Tryz.pinned.checked.prog.looks [] ∧ ∀ (j : Nat) t, fn.params[j]? = some t → Tryz.pinned.checked.prog.wantsStandIn t = false := by
  obtain rfl : f = 3 := Option.some.inj ((show Tryz.prog.funcNamed "midden/middenlaw07.ShowBack" = some 3 by kernel_rfl).symm.trans hf) |>.symm
  obtain rfl : fn = Tryz.f3 := (Option.some.inj (Tryz.func3.symm.trans hfn)).symm
  refine ⟨by kernel_rfl, fun j t ht => ?_⟩
  rw [Tryz.params3] at ht
  have hm : t ∈ [25] := by simpa using Array.mem_of_getElem? ht
  have hall : ([25].all fun u => !Tryz.prog.wantsStandIn u) = true := by kernel_rfl
  exact (show Tryz.prog.wantsStandIn t = false by simpa using List.all_eq_true.1 hall t hm)

theorem card : Rows.ShowBackUptoCardSaid :=
  Claim7.holds_tied_plain_at .later [] _ _ _ _ said (fun _ h => by cases h) (by kernel_rfl) (fun _ h => by cases h) showBackUpto_row_tie rfl ⟨rfl, rfl⟩ (by kernel_rfl) rfl plain (by kernel_rfl)
end Go.Proofs.YtofgnpehlheeiaaGreatDoor.showBack

namespace Go.Proofs.YtofgnpehlheeiaaGreatDoor
theorem showBack_card : Rows.ShowBackUptoCardSaid := showBack.card
#print axioms showBack_card
end Go.Proofs.YtofgnpehlheeiaaGreatDoor
