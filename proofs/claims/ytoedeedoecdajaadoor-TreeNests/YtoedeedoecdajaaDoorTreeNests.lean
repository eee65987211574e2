/-
  For every small number and every text: what stands within so many parentheses is refused as too deep just from sixty of them on, and else is the one expression there is.
  Conditions: none on the input; seven package-level variables of the library (tables and two errors) start as the library's text lays them (the card ties them to that text, of the pruned copy of the project that this seat holds; one of them, unicode/utf8.first, by the form's own constant).
-/
import Derived.Test.YtoedeedoecdajaaDoorLaid
import Derived.Test.YtoedeedoecdajaaDoorAwake
import Derived.Test.YtoedeedoecdajaaDoorRefScan
import Derived.Test.YtoedeedoecdajaaDoorTreeTexts
import Derived.Laws.Concat
namespace Go.Proofs.YtoedeedoecdajaaDoor.treeNests
open Go.ChangeShapes Go.WideShapes Go.ChangeAt Go.RowKit
open Go.ChangeMaps (open_string)
set_option linter.unusedVariables false

theorem str_append (a b : List UInt8) : str a ++ str b = str (a ++ b) := ByteArray.mk_append_mk a b
theorem parse_str {z : List UInt8} {r : Except (Nat × Int) Pg} (h : parseT z = r) (w : World) (L : Laid w) : Calls Tryd.prog 10 #[.string (str z)] w (ParsesTo w r) := parse_at (s := str z) (by rw [str_list]; exact h) w L
theorem add_run (x y z : List UInt8) (h : x ++ y = z) (hl : x.length + y.length ≤ 100000) : ∀ w, (Op.stringOp .add (str x) (str y)).run Tryd.prog w = .ok (.string (str z)) w := fun w => by
  rw [run_string_add_sum w _ _ (by rw [str_size, str_size]; omega), str_append, h]
theorem word_name {l : List UInt8} (h : wordB l 1 = true) : ∃ t, readT l = .ok t ∧ t.kind = 1 ∧ t.len = l.length ∧ l.length ≤ 32 := by
  have hl : l.length ≤ 32 := by
    rcases Nat.lt_or_ge 32 l.length with z | z
    · rw [long_word z 1] at h; cases h
    · exact z
  unfold wordB justT at h
  split at h
  · rename_i t e
    simp only [Bool.and_eq_true, decide_eq_true_eq] at h
    exact ⟨t, e, h.2.1, h.2.2, hl⟩
  · simp at h
/-- the first bind's body -/
theorem isPV_body {w : World} {ok : Nat → Prop} {ds : List D} {n : List UInt8} {a : Int} {as' : List (List UInt8)} {k a' : Int} {nm : List UInt8} {m : Int} {ts : List Atm} {bs : List B} {ks : List E} {al : List A} {gd gb : Option Addr} {cd cb nd nb : Nat}
    (h : isPV w ok ⟨ds, [.mk n a as' (.mk k a' nm m ts bs ks al)]⟩ (.agg #[.slice gd nd cd, .slice gb nb cb])) : ∃ g off, gb = some ⟨g, off, none⟩ ∧ w.cell? ⟨g, off + 4, none⟩ = some (.int .i64 a') ∧ w.cell? ⟨g, off + 5, none⟩ = some (.string (str nm)) := by
  obtain ⟨vd, vb, xb, e, ID, IB, IBS⟩ := h
  simp only [Value.agg.injEq, Array.mk.injEq, List.cons.injEq, and_true] at e
  obtain ⟨rfl, rfl⟩ := e
  obtain ⟨gb', cb', e, _⟩ := row_parts IB
  cases e
  obtain ⟨g, off, rfl, hx⟩ := row_cell IB (by simp)
  simp only [isBs] at IBS
  obtain ⟨c1, c2, rfl, I1, rfl⟩ := IBS
  simp only [isB] at I1
  obtain ⟨va, d, rfl, _, I2⟩ := I1
  simp only [isE] at I2
  obtain ⟨vt, vb, vk, va', xb, xk, xa, rfl, _⟩ := I2
  exact ⟨g, off, rfl, hx 4 _ rfl, hx 5 _ rfl⟩
set_option maxRecDepth 100000 in
set_option maxHeartbeats 8000000 in
theorem walk (a0 : Int) (s1 : ByteArray) (w : World) (L : Laid w) (h0 : 0 ≤ a0 ∧ a0 ≤ 255) (hs : s1.size ≤ 140737488351232) :
    Calls Tryd.prog 6 #[.int .u8 a0, .string s1] w fun e w' => e = .returned (.bool true) ∧ Below w.heap.size w w' := by
  have WD := fun w => rword_any s1 (by omega) 1 w
  obtain ⟨n, rfl⟩ : ∃ n : Nat, a0 = n := ⟨a0.toNat, by omega⟩
  have hn : n ≤ 255 := by omega
  obtain ⟨nm, rfl⟩ : ∃ nm, s1 = str nm := ⟨s1.data.toList, str_eq rfl⟩
  rw [str_list] at WD
  have HL : Hid (Laid w) := ⟨L⟩
  cases hw : wordB nm 1 with
  | false =>
    rw [hw] at WD
    clear h0 L
    go_enter Tryd.func6, Tryd.ntmps6
    go_wp2_with (first
      | (go_at_call 14; refine (WD _).mono ?_; rintro e w1 ⟨rfl, B1⟩)
      | (go_at_call 7; refine (awake_any _ (HL.out.later B1)).mono ?_; rintro e w2 ⟨rfl, B2⟩))
    go_ret
    exact ⟨rfl, B1.trans (Joins.below_le B2 B1.size)⟩
  | true =>
    rw [hw] at WD
    obtain ⟨t, hr, hk, hl, hm⟩ := word_name hw
    have NP := nest_parse hr hk hl n hn hm
    have HNP : Hid (parseT (nestS n nm) = if n < 60 then .ok ⟨[], [.mk [102] 0 [] (.mk 1 ((4 + n : Nat) : Int) nm 0 [] [] [] [])]⟩ else .error (64, 24)) := ⟨NP⟩
    clear NP hr hk hl hw L
    go_enter Tryd.func6, Tryd.ntmps6
    go_wp2_with (first
      | (go_at_call 14; refine (WD _).mono ?_; rintro e w1 ⟨rfl, B1⟩))
    go_loopw [5, 6] (fun sv c wr => ∃ (k : Nat) (x : List UInt8), sv = .string (str x) ∧ c = .int .i64 k ∧ k ≤ n ∧ Hid (x = [102, 32, 61, 32] ++ List.replicate k 40) ∧ w1 = wr) (fun _ c _ => n - (intOf c).toNat)
    case atStart => exact ⟨0, [102, 32, 61, 32], rfl, rfl, Nat.zero_le _, ⟨rfl⟩, rfl⟩
    case round =>
      obtain ⟨k, x, rfl, rfl, hk, HX, rfl⟩ := hrel
      have xl : x.length = 4 + k := by rw [HX.out]; simp; omega
      by_cases hlt : k < n
      · have hlt' : (k : Int) < n := by omega
        obtain ⟨y, hy⟩ : ∃ y, x ++ [40] = y := ⟨_, rfl⟩
        have HY : Hid (y = [102, 32, 61, 32] ++ List.replicate (k + 1) 40) := ⟨by rw [← hy, HX.out, List.append_assoc, ← List.replicate_succ']⟩
        have a1 := add_run x [40] y hy (by simp; omega)
        rw [show str [40] = ⟨#[40]⟩ from rfl] at a1
        clear hy xl
        go_wp2
        go_roundw
        case rel => exact ⟨k + 1, y, rfl, by go_num, by omega, HY, by first | rfl | trivial⟩
        case measure => simp [intOf]; omega
      · obtain rfl : k = n := by omega
        obtain ⟨y, hy⟩ : ∃ y, x ++ nm = y := ⟨_, rfl⟩
        have HY : Hid (y = [102, 32, 61, 32] ++ (List.replicate k 40 ++ nm)) := ⟨by rw [← hy, HX.out, List.append_assoc]⟩
        have a1 := add_run x nm y hy (by omega)
        clear hy xl HX
        go_wp2
        go_loopw [5, 7] (fun sv c wr => ∃ (j : Nat) (x : List UInt8), sv = .string (str x) ∧ c = .int .i64 j ∧ j ≤ k ∧ Hid (x = [102, 32, 61, 32] ++ (List.replicate k 40 ++ (nm ++ List.replicate j 41))) ∧ w1 = wr) (fun _ c _ => k - (intOf c).toNat)
        case atStart => exact ⟨0, y, rfl, rfl, Nat.zero_le _, ⟨by rw [HY.out]; simp⟩, rfl⟩
        case round =>
          clear HY a1
          obtain ⟨j, x, rfl, rfl, hj, HX, rfl⟩ := hrel
          have xl : x.length = 4 + k + nm.length + j := by rw [HX.out]; simp; omega
          by_cases hlt : j < k
          · have hlt' : (j : Int) < k := by omega
            obtain ⟨z, hz⟩ : ∃ z, x ++ [41] = z := ⟨_, rfl⟩
            have HZ : Hid (z = [102, 32, 61, 32] ++ (List.replicate k 40 ++ (nm ++ List.replicate (j + 1) 41))) := ⟨by rw [← hz, HX.out, List.replicate_succ']; simp⟩
            have a1 := add_run x [41] z hz (by simp; omega)
            rw [show str [41] = ⟨#[41]⟩ from rfl] at a1
            clear hz xl
            go_wp2
            go_roundw
            case rel => exact ⟨j + 1, z, rfl, by go_num, by omega, HZ, by first | rfl | trivial⟩
            case measure => simp [intOf]; omega
          · obtain rfl : j = k := by omega
            obtain ⟨z, hz⟩ : ∃ z, x ++ [59] = z := ⟨_, rfl⟩
            have hz2 : z = nestS j nm := by rw [← hz, HX.out]; simp [nestS]
            have a1 := add_run x [59] z hz (by simp; omega)
            rw [show str [59] = ⟨#[59]⟩ from rfl] at a1
            have HP := HNP.out
            rw [← hz2] at HP
            clear hz hz2 xl HX
            by_cases h60 : j < 60
            · rw [if_pos h60] at HP
              have PA := parse_str HP w1 (HL.out.later B1)
              have h60' : ¬ 60 ≤ (j : Int) := by omega
              have kw : IntKind.i64.wrap (4 + (j : Int)) = 4 + j := by rw [IntKind.wrap_i64]; omega
              have SP : sizeP ⟨[], [.mk [102] 0 [] (.mk 1 ((4 + j : Nat) : Int) nm 0 [] [] [] [])]⟩ = 1 := by simp [sizeP, cntBs, cntB, cntE]
              have nt : ((str nm).toList == (str nm).toList) = true := by simp
              have c4 : ((4 + j : Nat) : Int) = 4 + j := by omega
              clear HP h60 HNP
              go_wp2_with (first
                | (go_at_call 10; refine PA.mono ?_; rintro e w2 ⟨B2, v, rfl, I2⟩; obtain ⟨gd, cd, gb, cb, rfl⟩ := isPV_two I2; obtain ⟨g, off, rfl, x4, x5⟩ := isPV_body I2; have HI : Hid (isPV w2 (new w1 w2) _ _) := ⟨I2⟩; clear I2 PA)
                | (go_at_call 7; refine (awake_any _ (((HL.out.later B1).later B2).later (Joins.below_alloc1 w2 _))).mono ?_; rintro e w3 ⟨rfl, B3⟩; have D3 := (Blk.fresh w2 #[.slice gd 0 cd, .slice (some ⟨g, off, none⟩) 1 cb] 25).kept (row := none) ⟨B3.os, B3.tape, B3.output, B3.size, fun i hi _ => B3.block i hi⟩ (by simp); have y0 : w3.cell? ⟨w2.heap.size, 0, none⟩ = some (.slice gd 0 cd) := D3.cell 0; have y1 : w3.cell? ⟨w2.heap.size, 1, none⟩ = some (.slice (some ⟨g, off, none⟩) 1 cb) := D3.cell 1; have B23 : Below w2.heap.size w2 w3 := (Joins.below_alloc1 w2 _).trans (Joins.below_le B3 (by simp)); have z4 : w3.cell? ⟨g, off + 4, none⟩ = some (.int .i64 (4 + j)) := (by have q := (B23.cell (World.block_lt_of_cell? _ _ x4)).trans x4; rw [c4] at q; exact q); have z5 : w3.cell? ⟨g, off + 5, none⟩ = some (.string (str nm)) := (B23.cell (World.block_lt_of_cell? _ _ x5)).trans x5; have HB23 : Hid (Below w2.heap.size w2 w3) := ⟨B23⟩; have SZ : Calls Tryd.prog 11 #[.agg #[.slice gd 0 cd, .slice (some ⟨g, off, none⟩) 1 cb]] w3 fun e w' => e = .returned (.int .i64 1) ∧ Below w3.heap.size w3 w' := (by have q := size_any (w := w3) (ok := new w1 w2) (fun g hg => by have := hg.2; have := B23.size; omega) (isPV_keeps (keeps_below B23 (fun _ h => h)) HI.out); rw [SP, szI_small 1 (by decide)] at q; exact q); clear B3 D3 B23 x4 x5)
                | (go_at_call 11; refine SZ.mono ?_; rintro e w4 ⟨rfl, B4⟩; have u1 := (B4.cell (World.block_lt_of_cell? _ _ y1)).trans y1; have u4 := (B4.cell (World.block_lt_of_cell? _ _ z4)).trans z4; have u5' := (B4.cell (World.block_lt_of_cell? _ _ z5)).trans z5))
              go_ret
              have b2 := B1.trans (Joins.below_le B2 B1.size)
              have b3 := b2.trans (Joins.below_le HB23.out b2.size)
              exact ⟨rfl, b3.trans (Joins.below_le B4 b3.size)⟩
            · rw [if_neg h60] at HP
              have PA := parse_str HP w1 (HL.out.later B1)
              have h60' : 60 ≤ (j : Int) := by omega
              clear HP h60 HNP
              go_wp2_with (first
                | (go_at_call 10; refine PA.mono ?_; rintro e w2 ⟨B2, rfl, _⟩)
                | (go_at_call 7; refine (awake_any _ (((HL.out.later B1).later B2).later (Joins.below_alloc1 w2 _))).mono ?_; rintro e w3 ⟨rfl, B3⟩; have D3 := (Blk.fresh w2 #[nil3, nil3] 25).kept (row := none) ⟨B3.os, B3.tape, B3.output, B3.size, fun i hi _ => B3.block i hi⟩ (by simp); have y1 : w3.cell? ⟨w2.heap.size, 1, none⟩ = some nil3 := D3.cell 1))
              go_ret
              have b2 := B1.trans (Joins.below_le B2 B1.size)
              exact ⟨rfl, b2.trans (Joins.below_le ((Joins.below_alloc1 w2 _).trans (Joins.below_le B3 (by simp))) b2.size)⟩

set_option maxRecDepth 100000 in
/-- What the walk gives, for every argument and every world that holds what the row lists. -/
theorem contract (H : Type) (enc : TypeId × Value → H) (W : World) (base : Nat) (args : Array Value) (ds gs : List (DataW H)) (before : List MemPlace)
    (hval : ∀ (j : Nat) t v, Tryd.f6.params[j]? = some t → args[j]? = some v → Value.okWide Tryd.prog W .any base t v)
    (hW : DataW.Whole enc Tryd.prog Tryd.f6.params.toList Rows.treeNestsSpec.vars false W args.toList ds gs before)
    (hsz0 : (DataW.weightsEach Tryd.prog (Tryd.f6.params.toList ++ Rows.treeNestsSpec.plain.varTypes Tryd.prog) (ds ++ gs)).all (· ≤ reachBytes) = true)
    (hL : laidMetH Tryd.prog Rows.treeNestsRow.laid W) :
    Calls Tryd.prog 6 args W fun e W' => ∃ v, e = .returned v ∧ Rows.treeNestsSpec.post enc Tryd.prog Tryd.f6 false true false false W args v W' := by
  have hW' := hW
  obtain ⟨p, q, hA0, hV, rfl, hfz, hnd⟩ := hW
  have hA : DataW.TrodAll enc Tryd.prog W 0 (fun _ => true) true Tryd.f6.params.toList args.toList ds p := hA0
  rw [Tryd.params6] at hA hval hsz0
  obtain ⟨v0, vs0, d0, ds0, p0, q0, hargs, rfl, rfl, h0, r0⟩ := trodAll_cons hA
  obtain ⟨v1, vs1, d1, ds1, p1, q1, rfl, rfl, rfl, h1, r1⟩ := trodAll_cons r0
  obtain ⟨rfl, rfl, rfl⟩ := trodAll_nil r1
  obtain rfl : args = #[v0, v1] := by cases args; simp_all
  obtain ⟨rfl, rfl⟩ := trodVars_none hV
  have hsz := hsz0
  have t0 := h0
  have lt0 : ∀ x ∈ p0, x.block < W.heap.size := by obtain ⟨m, hm⟩ := t0; exact DataW.trod_lt m _ _ _ hm
  obtain ⟨a0, rfl, hd0, hp0, w0⟩ := open_int Tryd.underlying5 (hval 0 5 v0 rfl rfl) h0
  have t1 := h1
  have lt1 : ∀ x ∈ p1, x.block < W.heap.size := by obtain ⟨m, hm⟩ := t1; exact DataW.trod_lt m _ _ _ hm
  obtain ⟨s1, rfl, hd1, hp1, ws1⟩ := open_string Tryd.underlying9 (hval 1 9 v1 rfl rfl) h1
  have bs1 : s1.size ≤ 140737488351232 := by
    have q := sized_string hsz (j := 1) (t := 9) (bytes := s1.data.toList) (by simp) (by rw [hd1]; simp)
    rw [size_list] at q
    unfold reachBytes at q
    omega
  clear hA0
  refine (walk a0 s1 W (laid_of hL) (bounds_u8 w0) bs1).mono fun e W' ⟨he, bel⟩ => ?_
  subst he
  exact ⟨_, rfl, _, _, _, [], _, [], hW', trodAll_mk1 (shut_bool Tryd.underlying4 _), (trodAll_cons_mk (Below.trod laidOut (by kernel_rfl) (of_decide_eq_true (by kernel_rfl)) t0 bel lt0) (trodAll_cons_mk (Below.trod laidOut (by kernel_rfl) (of_decide_eq_true (by kernel_rfl)) t1 bel lt1) trodAll_mk0)), rfl, bel.frame _, fun h => by cases h⟩

set_option maxRecDepth 100000 in
theorem lifted (os : Os) (started : os.Started) (H : Type) (enc : TypeId × Value → H) :
    ReturnsInHanded {} Tryd.checked os 6 .any (fun w args => (Rows.treeNestsSpec.pre enc Tryd.prog Tryd.f6 Rows.treeNestsRow.domain false w args ∧ laidMetH Tryd.prog Rows.treeNestsRow.laid w) ∧ sizedMet enc Tryd.prog Tryd.f6 (OpenSpec.ofChange Rows.treeNestsSpec) false w args)
      (Rows.treeNestsSpec.post enc Tryd.prog Tryd.f6 false true false false) := by
  refine returnsInHanded_of_change_and (C := Tryd.checked) (X := fun w _ => laidMetH Tryd.prog Rows.treeNestsRow.laid w) (fun _ _ _ hh h => h.of_heap hh) own started (by kernel_rfl) Tryd.func6
    (ChangeSpec.witness_shaped (enc := enc) (C := Tryd.checked) (os := os) (X := fun w _ => laidMetH Tryd.prog Rows.treeNestsRow.laid w) false (World.laidAll Tryd.prog os laidL) #[.int .u8 0, .string ⟨#[]⟩] 8 (World.laidAll_os _ _ _)
      (World.shaped_of_ZipB (by kernel_rfl) (by kernel_rfl)) (by kernel_rfl) (by kernel_rfl) (by kernel_rfl) (met os _)) ?_
  intro W base args ds gs before hval hW _ hsz hL _
  exact contract H enc W base args ds gs before hval hW hsz hL

theorem said : Rows.TreeNestsSaid :=
  OpenClaim.holds_of_wide 6 Tryd.f6 rfl rfl rfl rfl rfl rfl rfl ⟨rfl, rfl, rfl, rfl, rfl⟩ rfl rfl rfl rfl rfl (by kernel_rfl) Tryd.func6 (by kernel_rfl)
    (of_decide_eq_true (by kernel_rfl)) (by unfold Func.isWrapper; first | (rw [if_pos (by decide +kernel)]; kernel_rfl) | (rw [if_neg (by decide +kernel)]; exact ⟨rfl, rfl⟩))
    (fun os started H enc _ => lifted os started H enc)

/-- No parameter wants a stand-in: what the card asks. -/
theorem plain (f : FuncId) (fn : Func) (hf : Tryd.pinned.checked.prog.funcNamed "midden/middenlaw06.TreeNests" = some f) (hfn : Tryd.pinned.checked.prog.funcs[f]? = some fn) :
    true = Tryd.pinned.checked.prog.looks [] ∧ ∀ (j : Nat) t, fn.params[j]? = some t → Tryd.pinned.checked.prog.wantsStandIn t = false := by
  obtain rfl : f = 6 := Option.some.inj ((show Tryd.prog.funcNamed "midden/middenlaw06.TreeNests" = some 6 by kernel_rfl).symm.trans hf) |>.symm
  obtain rfl : fn = Tryd.f6 := (Option.some.inj (Tryd.func6.symm.trans hfn)).symm
  refine ⟨by kernel_rfl, fun j t ht => ?_⟩
  rw [Tryd.params6] at ht
  have hm : t ∈ [5, 9] := by simpa using Array.mem_of_getElem? ht
  have hall : ([5, 9].all fun u => !Tryd.prog.wantsStandIn u) = true := by kernel_rfl
  exact (show Tryd.prog.wantsStandIn t = false by simpa using List.all_eq_true.1 hall t hm)

theorem card : Rows.TreeNestsCardSaid :=
  Claim7.holds_tied_plain_at .later [] _ _ _ _ said (fun _ h => by cases h) (by kernel_rfl) (fun _ h => by cases h) treeNests_row_tie rfl ⟨rfl, rfl⟩ (by kernel_rfl) rfl plain (by kernel_rfl)
end Go.Proofs.YtoedeedoecdajaaDoor.treeNests

namespace Go.Proofs.YtoedeedoecdajaaDoor
theorem treeNests_card : Rows.TreeNestsCardSaid := treeNests.card
#print axioms treeNests_card
end Go.Proofs.YtoedeedoecdajaaDoor
