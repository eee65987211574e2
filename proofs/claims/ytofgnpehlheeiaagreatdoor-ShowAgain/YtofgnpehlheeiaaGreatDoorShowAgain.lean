/-
  For every text: where it is parsed and printed, the printed text is parsed as the same program, and is printed the same from then on; where it cannot be printed, it is too great.
  Conditions: none on the input; seven package-level variables of the library (tables and two errors) start as the library's text lays them (the card ties them to that text, of the pruned copy of the project that this seat holds; one of them, unicode/utf8.first, by the form's own constant).
-/
import Derived.Test.YtofgnpehlheeiaaGreatDoorLaid
import Derived.Test.YtofgnpehlheeiaaGreatDoorAgp
namespace Go.Proofs.YtofgnpehlheeiaaGreatDoor.showAgain
open Go.ChangeShapes Go.WideShapes Go.ChangeAt Go.RowKit
open Go.ChangeMaps (open_string)
set_option linter.unusedVariables false

set_option maxRecDepth 100000 in
set_option maxHeartbeats 8000000 in
theorem walk (s0 : ByteArray) (w : World) (La : Laid w) (hs : s0.size ≤ 140737488351232) : Calls Tryz.prog 4 #[.string s0] w fun e w' => e = .returned (.bool true) ∧ Below w.heap.size w w' := by
  obtain ⟨s, rfl⟩ : ∃ s, s0 = str s := ⟨s0.data.toList, by simp [str]⟩
  clear hs
  by_cases hp : ∃ p, parseT s = .ok p
  · obtain ⟨p, hp⟩ := hp
    have PA := rparse_yes w La hp
    obtain ⟨hf, hw⟩ := parse_small hp
    rcases hr : printR p with c | t
    · obtain rfl := print_three hp hr
      have PQ := fun (W : World) (LW : Laid W) (v : Value) (I : isPV W (fun g => g < W.heap.size) p v) => print_any W LW p v I hf hw
      rw [hr] at PQ
      simp only [textS, textE] at PQ
      rw [show str [] = (⟨#[]⟩ : ByteArray) from rfl] at PQ
      clear hf hw hr hp
      generalize p.datas.length = nd at *
      generalize p.binds.length = nb at *
      go_enter Tryz.func4, Tryz.ntmps4
      go_wp2_with (first
        | (go_at_call 7; refine PA.mono ?_; rintro e w1 ⟨gd, gb, cd, cb, rfl, I1, B1⟩; have C1 := bal B1 (.cells #[.slice gd nd cd, .slice gb nb cb] 25); have X1 := Blk.fresh w1 #[.slice gd nd cd, .slice gb nb cb] 25; have J1 := isPV_keeps (keeps_below (ok' := fun g => g < (w1.alloc (.cells #[.slice gd nd cd, .slice gb nb cb] 25)).heap.size) (Joins.below_alloc1 w1 (.cells #[.slice gd nd cd, .slice gb nb cb] 25)) (fun g hg => Nat.lt_of_lt_of_le hg.2 (Joins.below_alloc1 w1 (.cells #[.slice gd nd cd, .slice gb nb cb] 25)).size)) I1; have HJ1 : Hid (isPV _ _ _ _) := ⟨J1⟩; have A1 := awake_any _ (La.later C1); clear PA I1 J1)
        | (go_at_call 6; refine A1.mono ?_; rintro e w2 ⟨rfl, B2⟩; have C2 := C1.trans (Joins.below_le B2 C1.size); have X2 : Blk w2 w1.heap.size _ 25 := (B2.block _ X1.lt).trans X1; have x0 : w2.cell? ⟨w1.heap.size, 0, none⟩ = some (.slice gd nd cd) := X2.cell 0; have x1 : w2.cell? ⟨w1.heap.size, 1, none⟩ = some (.slice gb nb cb) := X2.cell 1; have P2 := PQ w2 (La.later C2) _ (isPV_keeps (keeps_below B2 (fun g hg => Nat.lt_of_lt_of_le hg B2.size)) HJ1.out); clear A1 PQ)
        | (go_at_call 5; refine P2.mono ?_; rintro e w3 ⟨rfl, B3⟩))
      go_ret
      exact ⟨rfl, C2.trans (Joins.below_le B3 C2.size)⟩
    · obtain ⟨q, hq, hsm⟩ := parse_print hf hr
      obtain ⟨hf2, hw2⟩ := parse_small hq
      have hr2 : printR q = .ok t := by rw [← print_same hsm]; exact hr
      have PQ := fun (W : World) (LW : Laid W) (v : Value) (I : isPV W (fun g => g < W.heap.size) p v) => print_any W LW p v I hf hw
      have QQ := fun (W : World) (LW : Laid W) (v : Value) (I : isPV W (fun g => g < W.heap.size) q v) => print_any W LW q v I hf2 hw2
      have PB := fun (W : World) (LW : Laid W) => rparse_yes W LW hq
      have SM := fun (W : World) (vp vq : Value) (I : isPV W anyB p vp) (J : isPV W anyB q vq) => same_any W p q vp vq I J hsm
      rw [hr] at PQ
      rw [hr2] at QQ
      simp only [textS, textE] at PQ QQ
      clear hf hw hr hp hf2 hw2 hr2 hsm hq
      generalize p.datas.length = nd at *
      generalize p.binds.length = nb at *
      generalize q.datas.length = nd4 at *
      generalize q.binds.length = nb4 at *
      generalize str t = T at *
      go_enter Tryz.func4, Tryz.ntmps4
      go_wp2_with (first
        | (go_at_call 7; refine PA.mono ?_; rintro e w1 ⟨gd, gb, cd, cb, rfl, I1, B1⟩; have C1 := bal B1 (.cells #[.slice gd nd cd, .slice gb nb cb] 25); have X1 := Blk.fresh w1 #[.slice gd nd cd, .slice gb nb cb] 25; have J1 := isPV_keeps (keeps_below (ok' := fun g => g < (w1.alloc (.cells #[.slice gd nd cd, .slice gb nb cb] 25)).heap.size) (Joins.below_alloc1 w1 (.cells #[.slice gd nd cd, .slice gb nb cb] 25)) (fun g hg => Nat.lt_of_lt_of_le hg.2 (Joins.below_alloc1 w1 (.cells #[.slice gd nd cd, .slice gb nb cb] 25)).size)) I1; have HJ1 : Hid (isPV _ _ _ _) := ⟨J1⟩; have A1 := awake_any _ (La.later C1); clear PA I1 J1)
        | (go_at_call 6; refine A1.mono ?_; rintro e w2 ⟨rfl, B2⟩; have C2 := C1.trans (Joins.below_le B2 C1.size); have X2 : Blk w2 w1.heap.size _ 25 := (B2.block _ X1.lt).trans X1; have x0 : w2.cell? ⟨w1.heap.size, 0, none⟩ = some (.slice gd nd cd) := X2.cell 0; have x1 : w2.cell? ⟨w1.heap.size, 1, none⟩ = some (.slice gb nb cb) := X2.cell 1; have J2 := isPV_keeps (keeps_below (ok' := fun g => g < w2.heap.size) B2 (fun g hg => Nat.lt_of_lt_of_le hg B2.size)) HJ1.out; have P2 := PQ w2 (La.later C2) _ J2; have HJ2 : Hid (isPV w2 anyB p _) := ⟨pv_any J2⟩; clear A1 PQ J2)
        | (go_at_call 5; refine P2.mono ?_; rintro e w3 ⟨rfl, B3⟩; have C3 := C2.trans (Joins.below_le B3 C2.size); have X3 : Blk w3 w1.heap.size _ 25 := (B3.block _ X2.lt).trans X2; have HJ3 : Hid (isPV w3 anyB p _) := ⟨pv_later HJ2.out B3⟩; have P3 := PB w3 (La.later C3); clear P2 PB)
        | (go_at_call 7; refine P3.mono ?_; rintro e w4 ⟨gd4, gb4, cd4, cb4, rfl, I4, B4⟩; have C4 := bal (C3.trans (Joins.below_le B4 C3.size)) (.cells #[.slice gd4 nd4 cd4, .slice gb4 nb4 cb4] 25); have X4 : Blk (w4.alloc (.cells #[.slice gd4 nd4 cd4, .slice gb4 nb4 cb4] 25)) w1.heap.size _ 25 := Blk.alloc ((B4.block _ X3.lt).trans X3) _; have Y4 := Blk.fresh w4 #[.slice gd4 nd4 cd4, .slice gb4 nb4 cb4] 25; have BA4 := Joins.below_alloc1 w4 (.cells #[.slice gd4 nd4 cd4, .slice gb4 nb4 cb4] 25); have J4 := isPV_keeps (keeps_below (ok' := fun g => g < (w4.alloc (.cells #[.slice gd4 nd4 cd4, .slice gb4 nb4 cb4] 25)).heap.size) BA4 (fun g hg => Nat.lt_of_lt_of_le hg.2 BA4.size)) I4; have HJ4 : Hid (isPV (w4.alloc (.cells #[.slice gd4 nd4 cd4, .slice gb4 nb4 cb4] 25)) anyB p _ ∧ isPV (w4.alloc (.cells #[.slice gd4 nd4 cd4, .slice gb4 nb4 cb4] 25)) anyB q _) := ⟨pv_later (pv_later HJ3.out B4) BA4, pv_any J4⟩; have P4 := QQ _ (La.later C4) _ J4; clear P3 QQ I4 J4)
        | (go_at_call 5; refine P4.mono ?_; rintro e w5 ⟨rfl, B5⟩; have C5 := C4.trans (Joins.below_le B5 C4.size); have X5 : Blk w5 w1.heap.size _ 25 := (B5.block _ X4.lt).trans X4; have Y5 : Blk w5 w4.heap.size _ 25 := (B5.block _ Y4.lt).trans Y4; have u0 : w5.cell? ⟨w1.heap.size, 0, none⟩ = some (.slice gd nd cd) := X5.cell 0; have u1 : w5.cell? ⟨w1.heap.size, 1, none⟩ = some (.slice gb nb cb) := X5.cell 1; have y0 : w5.cell? ⟨w4.heap.size, 0, none⟩ = some (.slice gd4 nd4 cd4) := Y5.cell 0; have y1 : w5.cell? ⟨w4.heap.size, 1, none⟩ = some (.slice gb4 nb4 cb4) := Y5.cell 1; have S5 := SM w5 _ _ (pv_later HJ4.out.1 B5) (pv_later HJ4.out.2 B5); clear P4 SM)
        | (go_at_call 8; refine S5.mono ?_; rintro e w6 ⟨rfl, B6⟩))
      go_ret
      exact ⟨rfl, C5.trans (Joins.below_le B6 C5.size)⟩
  · have PA := rparse_no w La (fun p h => hp ⟨p, h⟩)
    clear hp
    go_enter Tryz.func4, Tryz.ntmps4
    go_wp2_with (first
      | (go_at_call 7; refine PA.mono ?_; rintro e w1 ⟨a, c, rfl, hc, B1⟩; have ne' : (c != 0) = true := (by simp [hc]); have C1 := bal B1 (.cells #[nil3, nil3] 25); have A1 := awake_any _ (La.later C1); clear PA hc)
      | (go_at_call 6; refine A1.mono ?_; rintro e w2 ⟨rfl, B2⟩; have C2 := C1.trans (Joins.below_le B2 C1.size); have A2 := awake_any w2 (La.later C2); clear A1)
      | (go_at_call 6; refine A2.mono ?_; rintro e w3 ⟨rfl, B3⟩))
    go_ret
    exact ⟨rfl, C2.trans (Joins.below_le B3 C2.size)⟩


set_option maxRecDepth 100000 in
/-- What the walk gives, for every argument and every world that holds what the row lists. -/
theorem contract (H : Type) (enc : TypeId × Value → H) (W : World) (base : Nat) (args : Array Value) (ds gs : List (DataW H)) (before : List MemPlace)
    (hval : ∀ (j : Nat) t v, Tryz.f4.params[j]? = some t → args[j]? = some v → Value.okWide Tryz.prog W .any base t v)
    (hW : DataW.Whole enc Tryz.prog Tryz.f4.params.toList Rows.showAgainSpec.vars false W args.toList ds gs before)
    (hsz0 : (DataW.weightsEach Tryz.prog (Tryz.f4.params.toList ++ Rows.showAgainSpec.plain.varTypes Tryz.prog) (ds ++ gs)).all (· ≤ reachBytes) = true)
    (hL : laidMetH Tryz.prog Rows.showAgainRow.laid W) :
    Calls Tryz.prog 4 args W fun e W' => ∃ v, e = .returned v ∧ Rows.showAgainSpec.post enc Tryz.prog Tryz.f4 false true false false W args v W' := by
  have hW' := hW
  obtain ⟨p, q, hA0, hV, rfl, hfz, hnd⟩ := hW
  have hA : DataW.TrodAll enc Tryz.prog W 0 (fun _ => true) true Tryz.f4.params.toList args.toList ds p := hA0
  rw [Tryz.params4] at hA hval hsz0
  obtain ⟨v0, vs0, d0, ds0, p0, q0, hargs, rfl, rfl, h0, r0⟩ := trodAll_cons hA
  obtain ⟨rfl, rfl, rfl⟩ := trodAll_nil r0
  obtain rfl : args = #[v0] := by cases args; simp_all
  obtain ⟨rfl, rfl⟩ := trodVars_none hV
  have hsz := hsz0
  have t0 := h0
  have lt0 : ∀ x ∈ p0, x.block < W.heap.size := by obtain ⟨m, hm⟩ := t0; exact DataW.trod_lt m _ _ _ hm
  obtain ⟨s0, rfl, hd0, hp0, ws0⟩ := open_string Tryz.underlying9 (hval 0 9 v0 rfl rfl) h0
  have bs0 : s0.size ≤ 140737488351232 := by
    have q := sized_string hsz (j := 0) (t := 9) (bytes := s0.data.toList) (by simp) (by rw [hd0]; simp)
    rw [size_list] at q
    unfold reachBytes at q
    omega
  clear hA0
  refine (walk s0 W (laid_of hL) bs0).mono fun e W' ⟨he, bel⟩ => ?_
  subst he
  exact ⟨_, rfl, _, _, _, [], _, [], hW', trodAll_mk1 (shut_bool Tryz.underlying4 _), (trodAll_cons_mk (Below.trod laidOut (by kernel_rfl) (of_decide_eq_true (by kernel_rfl)) t0 bel lt0) trodAll_mk0), rfl, bel.frame _, fun h => by cases h⟩

set_option maxRecDepth 100000 in
theorem lifted (os : Os) (started : os.Started) (H : Type) (enc : TypeId × Value → H) :
    ReturnsInHanded {} Tryz.checked os 4 .any (fun w args => (Rows.showAgainSpec.pre enc Tryz.prog Tryz.f4 Rows.showAgainRow.domain false w args ∧ laidMetH Tryz.prog Rows.showAgainRow.laid w) ∧ sizedMet enc Tryz.prog Tryz.f4 (OpenSpec.ofChange Rows.showAgainSpec) false w args)
      (Rows.showAgainSpec.post enc Tryz.prog Tryz.f4 false true false false) := by
  refine returnsInHanded_of_change_and (C := Tryz.checked) (X := fun w _ => laidMetH Tryz.prog Rows.showAgainRow.laid w) (fun _ _ _ hh h => h.of_heap hh) own started (by kernel_rfl) Tryz.func4
    (ChangeSpec.witness_shaped (enc := enc) (C := Tryz.checked) (os := os) (X := fun w _ => laidMetH Tryz.prog Rows.showAgainRow.laid w) false (World.laidAll Tryz.prog os laidL) #[.string ⟨#[]⟩] 8 (World.laidAll_os _ _ _)
      (World.shaped_of_ZipB (by kernel_rfl) (by kernel_rfl)) (by kernel_rfl) (by kernel_rfl) (by kernel_rfl) (met os _)) ?_
  intro W base args ds gs before hval hW _ hsz hL _
  exact contract H enc W base args ds gs before hval hW hsz hL

theorem said : Rows.ShowAgainSaid :=
  OpenClaim.holds_of_wide 4 Tryz.f4 rfl rfl rfl rfl rfl rfl rfl ⟨rfl, rfl, rfl, rfl, rfl⟩ rfl rfl rfl rfl rfl (by kernel_rfl) Tryz.func4 (by kernel_rfl)
    (of_decide_eq_true (by kernel_rfl)) (by unfold Func.isWrapper; first | (rw [if_pos (by decide +kernel)]; kernel_rfl) | (rw [if_neg (by decide +kernel)]; exact ⟨rfl, rfl⟩))
    (fun os started H enc _ => lifted os started H enc)

/-- No parameter wants a stand-in: what the card asks. -/
theorem plain (f : FuncId) (fn : Func) (hf : Tryz.pinned.checked.prog.funcNamed "midden/middenlaw07.ShowAgain" = some f) (hfn : Tryz.pinned.checked.prog.funcs[f]? = some fn) :
    true = Tryz.pinned.checked.prog.looks [] ∧ ∀ (j : Nat) t, fn.params[j]? = some t → Tryz.pinned.checked.prog.wantsStandIn t = false := by
  obtain rfl : f = 4 := Option.some.inj ((show Tryz.prog.funcNamed "midden/middenlaw07.ShowAgain" = some 4 by kernel_rfl).symm.trans hf) |>.symm
  obtain rfl : fn = Tryz.f4 := (Option.some.inj (Tryz.func4.symm.trans hfn)).symm
  refine ⟨by kernel_rfl, fun j t ht => ?_⟩
  rw [Tryz.params4] at ht
  have hm : t ∈ [9] := by simpa using Array.mem_of_getElem? ht
  have hall : ([9].all fun u => !Tryz.prog.wantsStandIn u) = true := by kernel_rfl
  exact (show Tryz.prog.wantsStandIn t = false by simpa using List.all_eq_true.1 hall t hm)

theorem card : Rows.ShowAgainCardSaid :=
  Claim7.holds_tied_plain_at .later [] _ _ _ _ said (fun _ h => by cases h) (by kernel_rfl) (fun _ h => by cases h) showAgain_row_tie rfl ⟨rfl, rfl⟩ (by kernel_rfl) rfl plain (by kernel_rfl)
end Go.Proofs.YtofgnpehlheeiaaGreatDoor.showAgain

namespace Go.Proofs.YtofgnpehlheeiaaGreatDoor
theorem showAgain_card : Rows.ShowAgainCardSaid := showAgain.card
#print axioms showAgain_card
end Go.Proofs.YtofgnpehlheeiaaGreatDoor
