/-
  For every list of tokens and every list of texts: blanks and remarks between the tokens change nothing of what lex.Scan tells but the places.
  Conditions: none on the input; seven package-level variables of the library (tables and two errors) start as the library's text lays them (the card ties them to that text, of the pruned copy of the project that this seat holds; one of them, unicode/utf8.first, by the form's own constant).
-/
import Derived.Test.YtadmibdcdpggpaaDoorLaid
import Derived.Test.YtadmibdcdpggpaaDoorLies
import Derived.Test.YtadmibdcdpggpaaDoorGaps
import Derived.Laws.Concat
namespace Go.Proofs.YtadmibdcdpggpaaDoor.lexBlanks
open Go.ChangeShapes Go.WideShapes Go.ChangeAt Go.RowKit
open Go.ChangeMaps (open_string)
set_option linter.unusedVariables false

theorem pieces_snoc : ∀ (ps : List (List UInt8 × ATok)) (p : List UInt8 × ATok), pieces (ps ++ [p]) = pieces ps ++ p.1 ++ (writ p.2 ++ [32])
  | [], p => by simp [pieces]
  | q :: r, p => by
    rw [List.cons_append, pieces, pieces, pieces_snoc r p]
    simp
theorem pieces_count : ∀ ps : List (List UInt8 × ATok), ps.length ≤ (pieces ps).length
  | [] => Nat.le_refl _
  | q :: r => by
    have := pieces_count r
    rw [pieces]
    simp only [List.length_append, List.length_cons]
    omega
def gapAt (ss : List (List UInt8)) (i : Nat) : List UInt8 := if h : i < ss.length then gapL (ss[i]'h) else []
theorem gapAt_gap (ss : List (List UInt8)) (i : Nat) : Gap (gapAt ss i) := by
  unfold gapAt
  split
  · exact gap_L _
  · exact gap_nil
def psF (ss : List (List UInt8)) : Nat → List ATok → List (List UInt8 × ATok)
  | _, [] => []
  | i, t :: r => (gapAt ss i, t) :: psF ss (i + 1) r
theorem psF_snoc (ss : List (List UInt8)) : ∀ (l : List ATok) (i : Nat) (t : ATok), psF ss i (l ++ [t]) = psF ss i l ++ [(gapAt ss (i + l.length), t)]
  | [], i, t => rfl
  | a :: l, i, t => by
    rw [List.cons_append, psF, psF, psF_snoc ss l (i + 1) t, List.cons_append, List.length_cons]
    rw [show i + 1 + l.length = i + (l.length + 1) by omega]
theorem psF_map (ss : List (List UInt8)) : ∀ (l : List ATok) (i : Nat), (psF ss i l).map (fun p => nameT p.2) = l.map nameT
  | [], _ => rfl
  | a :: l, i => by rw [psF, List.map_cons, List.map_cons, psF_map ss l (i + 1)]
theorem psF_mem (ss : List (List UInt8)) : ∀ (l : List ATok) (i : Nat) (p : List UInt8 × ATok), p ∈ psF ss i l → Gap p.1 ∧ p.2 ∈ l
  | [], _, _, h => by cases h
  | a :: l, i, p, h => by
    rw [psF] at h
    rcases List.mem_cons.1 h with rfl | h
    · exact ⟨gapAt_gap ss i, List.mem_cons_self ..⟩
    · obtain ⟨q1, q2⟩ := psF_mem ss l (i + 1) p h
      exact ⟨q1, List.mem_cons_of_mem _ q2⟩
theorem psF_len (ss : List (List UInt8)) : ∀ (l : List ATok) (i : Nat), (psF ss i l).length = l.length
  | [], _ => rfl
  | a :: l, i => by rw [psF, List.length_cons, List.length_cons, psF_len ss l (i + 1)]
theorem add_run (x y z : List UInt8) (h : x ++ y = z) (hl : x.length + y.length ≤ 100000) : ∀ w, (Op.stringOp .add (str x) (str y)).run Tryd.prog w = .ok (.string (str z)) w := fun w => by
  rw [run_string_add_sum w _ _ (by rw [str_size, str_size]; omega), str_app, h]

set_option maxRecDepth 100000 in
set_option maxHeartbeats 8000000 in
theorem walk (ga : Option Addr) (ts : List ATok) (cap : Nat) (gs : Option Addr) (ss : List (List UInt8)) (cap1 : Nat) (w : World) (L : Laid w) (T : IsToks w ga ts) (hn : ts.length ≤ 140737488351232) (S : IsStrs w gs ss) :
    Calls Tryd.prog 7 #[.slice ga ts.length cap, .slice gs ss.length cap1] w fun e w' => e = .returned (.bool true) ∧ Below w.heap.size w w' := by
  obtain ⟨n, hnn⟩ : ∃ n, ts.length = n := ⟨_, rfl⟩
  obtain ⟨m, hmm⟩ : ∃ m, ss.length = m := ⟨_, rfl⟩
  have HN : Hid (ts.length = n) := ⟨hnn⟩
  have HMs : Hid (ss.length = m) := ⟨hmm⟩
  have HT : Hid (IsToks w ga ts) := ⟨T⟩
  have HS : Hid (IsStrs w gs ss) := ⟨S⟩
  rw [hnn] at hn ⊢
  rw [hmm]
  clear hnn hmm T S
  go_enter Tryd.func7, Tryd.ntmps7
  go_wp2_with (go_at_call 11; refine (awake_any _ L).mono ?_; rintro e w0 ⟨rfl, B0⟩)
  go_loopw [5, 6] (fun sv c wr => ∃ (k : Nat) (x : List UInt8), sv = .string (str x) ∧ c = .int .i64 k ∧ k ≤ n ∧ Hid (∀ i (hi : i < ts.length), i < k → okT (ts[i]'hi) = true) ∧ Hid (x = pieces (psF ss 0 (ts.take k))) ∧ x.length ≤ 16500 ∧ Below w.heap.size w wr)
    (fun _ c _ => n - (intOf c).toNat)
  case atStart => exact ⟨0, [], rfl, rfl, Nat.zero_le _, ⟨fun i _ h => absurd h (Nat.not_lt_zero _)⟩, ⟨rfl⟩, by simp, B0⟩
  case round =>
    obtain ⟨k, x, rfl, rfl, hk, HA, HX, hxl, C⟩ := hrel
    have xs : (str x).size = x.length := str_size x
    by_cases hgo : k < n ∧ x.length ≤ 16384
    · obtain ⟨hlt, hx⟩ := hgo
      have hkl : k < ts.length := by rw [HN.out]; exact hlt
      obtain ⟨g, off, rfl, c0, c1, c2, c3⟩ := tok_at HT.out C k hkl
      have F := HT.out.2 _ (List.getElem_mem hkl)
      obtain ⟨s, HSx, Q⟩ := text_any (ts[k]'hkl) F
      unfold atokV at Q
      have HC : Hid (okT (ts[k]'hkl) = true → ∀ i (hi : i < ts.length), i < k + 1 → okT (ts[i]'hi) = true) := ⟨fun q i hi hik => by
        rcases Nat.lt_or_ge i k with t | t
        · exact HA.out i hi t
        · obtain rfl : i = k := by omega
          exact q⟩
      have HW : Hid (okT (ts[k]'hkl) = true → (writ (ts[k]'hkl)).length ≤ 32) := ⟨fun q => (writ_read q F.2.1).2.2⟩
      have HP : Hid (pieces (psF ss 0 (ts.take (k + 1))) = x ++ gapAt ss k ++ (writ (ts[k]'hkl) ++ [32])) := ⟨by
        rw [take_snoc ts k hkl, psF_snoc, pieces_snoc, ← HX.out]
        have : (ts.take k).length = k := by simp; omega
        simp only [this, Nat.zero_add]⟩
      generalize ts[k]'hkl = t at *
      obtain ⟨u, hu⟩ : ∃ u, writ t = u := ⟨_, rfl⟩
      rw [hu] at HSx HW HP
      clear hu
      obtain ⟨tk, tx, tn, ta⟩ := t
      simp only at c0 c1 c2 c3 Q
      have hlt' : (k : Int) < n := by omega
      have hx' : ((str x).size : Int) ≤ 16384 := by omega
      generalize okT ⟨tk, tx, tn, ta⟩ = b at *
      clear HA F hkl HX xs
      cases b
      · go_wp2_with (go_at_call 18; refine (Q _).mono ?_; rintro e w1 ⟨rfl, B1⟩)
        go_ret
        exact ⟨rfl, C.trans (Joins.below_le B1 C.size)⟩
      · have hus := HSx.out rfl
        subst hus
        have hul := HW.out rfl
        have HAc : Hid (∀ i (hi : i < ts.length), i < k + 1 → okT (ts[i]'hi) = true) := ⟨HC.out rfl⟩
        clear HC HW HSx
        by_cases hg : k < m
        · have hgl : k < ss.length := by rw [HMs.out]; exact hg
          have hg' : (k : Int) < m := by omega
          obtain ⟨g1, off1, rfl, l1⟩ := HS.out.1 (by omega)
          have sc := l1 k hgl
          have slen := HS.out.2 _ (List.getElem_mem hgl)
          have GA : gapAt ss k = gapL (ss[k]'hgl) := by unfold gapAt; rw [dif_pos hgl]
          have GL := gapL_len (ss[k]'hgl)
          have GQ := fun w => gap_any (str (ss[k]'hgl)) (by rw [str_size]; exact slen) w
          rw [str_list] at GQ
          rw [GA] at HP
          generalize ss[k]'hgl = sk at *
          obtain ⟨gp, hgp⟩ : ∃ gp, gapL sk = gp := ⟨_, rfl⟩
          rw [hgp] at HP GL GQ
          obtain ⟨y, hy⟩ : ∃ y, x ++ gp = y := ⟨_, rfl⟩
          obtain ⟨v, hv⟩ : ∃ v, u ++ [32] = v := ⟨_, rfl⟩
          obtain ⟨z, hz⟩ : ∃ z, y ++ v = z := ⟨_, rfl⟩
          have yl : y.length ≤ 16445 := by rw [← hy, List.length_append]; omega
          have vl : v.length ≤ 33 := by rw [← hv]; simp; omega
          have a1 := add_run x gp y hy (by omega)
          have a2 := add_run u [32] v hv (by simp; omega)
          have a3 := add_run y v z hz (by omega)
          rw [show str [32] = ⟨#[32]⟩ from rfl] at a2
          have HZ : Hid (pieces (psF ss 0 (ts.take (k + 1))) = z) := ⟨by rw [HP.out, hy, hv, hz]⟩
          have HZL : Hid (z.length ≤ 16500) := ⟨by rw [← hz, List.length_append]; omega⟩
          have HSC : Hid (w.cell? ⟨g1, off1 + k, none⟩ = some (.string (str sk))) := ⟨sc⟩
          clear hgp hy hv hz yl vl GL GA slen sc l1 hgl HP hul
          go_wp2_with (first
            | (go_at_call 18; refine (Q _).mono ?_; rintro e w1 ⟨rfl, B1⟩; have C1 := C.trans (Joins.below_le B1 C.size); have s1 := (C1.cell (World.block_lt_of_cell? _ _ HSC.out)).trans HSC.out)
            | (go_at_call 19; refine (GQ _).mono ?_; rintro e w2 ⟨rfl, B2⟩; have C2 := C1.trans (Joins.below_le B2 C1.size)))
          go_roundw
          case rel => exact ⟨k + 1, z, by first | rfl | simp, by go_num, by omega, HAc, ⟨HZ.out.symm⟩, HZL.out, C2⟩
          case measure => simp [intOf]; omega
        · have hg' : ¬ (k : Int) < m := by omega
          have GA : gapAt ss k = [] := by unfold gapAt; rw [dif_neg (by rw [HMs.out]; exact hg)]
          rw [GA, List.append_nil] at HP
          obtain ⟨v, hv⟩ : ∃ v, u ++ [32] = v := ⟨_, rfl⟩
          obtain ⟨z, hz⟩ : ∃ z, x ++ v = z := ⟨_, rfl⟩
          have vl : v.length ≤ 33 := by rw [← hv]; simp; omega
          have a2 := add_run u [32] v hv (by simp; omega)
          have a3 := add_run x v z hz (by omega)
          rw [show str [32] = ⟨#[32]⟩ from rfl] at a2
          have HZ : Hid (pieces (psF ss 0 (ts.take (k + 1))) = z) := ⟨by rw [HP.out, hv, hz]⟩
          have HZL : Hid (z.length ≤ 16500) := ⟨by rw [← hz, List.length_append]; omega⟩
          clear hv hz vl GA HP hul
          go_wp2_with (go_at_call 18; refine (Q _).mono ?_; rintro e w1 ⟨rfl, B1⟩; have C1 := C.trans (Joins.below_le B1 C.size))
          go_roundw
          case rel => exact ⟨k + 1, z, by first | rfl | simp, by go_num, by omega, HAc, ⟨HZ.out.symm⟩, HZL.out, C1⟩
          case measure => simp [intOf]; omega
    · by_cases hbig : 16384 < x.length
      · have hb' : (16384 : Int) < (str x).size := by omega
        have hb2 : ¬ ((str x).size : Int) ≤ 16384 := by omega
        clear xs
        by_cases hlt : k < n
        · have hlt' : (k : Int) < n := by omega
          go_wp2
          go_ret
          exact ⟨rfl, C⟩
        · have hlt' : ¬ (k : Int) < n := by omega
          go_wp2
          go_ret
          exact ⟨rfl, C⟩
      · obtain rfl : k = n := by omega
        have hlt' : ¬ (k : Int) < k := by omega
        have ht : ts.take k = ts := List.take_of_length_le (by rw [HN.out]; exact Nat.le_refl _)
        have HALL : ∀ t ∈ ts, okT t = true := fun t h => List.all_eq_true.1 (all_of (fun i hi => HA.out i hi (by rw [← HN.out]; exact hi))) t h
        have hxe := HX.out
        rw [ht] at hxe
        obtain ⟨ms, sa, sb⟩ := scan_pieces (psF ss 0 ts) ((pieces (psF ss 0 ts)).length + 1) 0 (fun p hp => by
          obtain ⟨q1, q2⟩ := psF_mem ss ts 0 p hp
          exact ⟨q1, HALL _ q2, (HT.out.2 _ q2).2.1⟩) (Nat.lt_succ_self _)
        rw [psF_map] at sb
        have hs : scanAll x = .ok ms := by unfold scanAll; rw [if_neg hbig, hxe]; exact sa
        have cnt : ts.length ≤ 16384 := by have := pieces_count (psF ss 0 ts); rw [psF_len, ← hxe] at this; omega
        have Q := fun w L => scan_any (str x) w L
        rw [str_list, hs] at Q
        simp only [scanA, scanE, scanL] at Q
        have NM := fun w T => named_any ga ts cap w T cnt
        have hml : ms.length = k := by have := congrArg List.length sb; rw [← HN.out]; simpa using this
        have hnl : (ts.map nm).length = k := by rw [← HN.out]; simp
        have hm2 : (ts.map nm).map threeA = ms.map three := by
          rw [sb, List.map_map]
          apply List.map_congr_left
          intro t _
          exact nm_three t
        obtain ⟨nt, hnt⟩ : ∃ nt, ts.map nm = nt := ⟨_, rfl⟩
        rw [hnt] at NM hnl hm2
        rw [HN.out] at NM cnt
        obtain ⟨n, rfl⟩ : ∃ n, n = k := ⟨_, rfl⟩
        have HM : Hid (nt.map threeA = ms.map three) := ⟨hm2⟩
        have HNl : Hid (nt.length = n) := ⟨hnl⟩
        have HL : Hid (ms.length = n) := ⟨hml⟩
        have HB : Hid (n ≤ 16384) := ⟨cnt⟩
        have hb' : ¬ (16384 : Int) < (str x).size := by omega
        clear hn hs sa sb hml hnl hnt hm2 HALL hxe ht xs HA HX hbig cnt
        go_wp2_with (first
        | (go_at_call 9; refine (Q _ (L.later C)).mono ?_; rintro e w3 ⟨v3, rfl, R3, B3⟩; have C' := C.trans (Joins.below_le B3 C.size); clear C; have C := C'; clear C')
        | (go_at_call 17; refine (NM _ (HT.out.later C)).mono ?_; rintro e w4 ⟨v4, rfl, R4, B4⟩; obtain ⟨ga3, cap3, rfl, _, l3⟩ := (R3.later B4).form; obtain ⟨ga4, cap4, rfl, l4⟩ := R4.form; have C' := C.trans (Joins.below_le B4 C.size); clear C; have C := C'; clear C'; have SS := same3 w4 ga3 ga4 n cap3 cap4 (ms.map three) (by rw [List.length_map, HL.out]) (fun q => by obtain ⟨g, off, e, l⟩ := l3 (by rw [HL.out]; exact q); exact ⟨g, off, e, l.three⟩) (fun q => by obtain ⟨g, off, e, l⟩ := l4 (by rw [HNl.out]; exact q); rw [HM.out] at l; exact ⟨g, off, e, l⟩) (by have := HB.out; omega); rw [HL.out, HNl.out]; clear l3 l4 R3 R4)
        | (go_at_call 12; refine SS.mono ?_; rintro e w5 ⟨rfl, B5⟩; have C5 := C.trans (Joins.below_le B5 C.size)))
        go_ret
        exact ⟨rfl, C5⟩

set_option maxRecDepth 100000 in
/-- What the walk gives, for every argument and every world that holds what the row lists. -/
theorem contract (H : Type) (enc : TypeId × Value → H) (W : World) (base : Nat) (args : Array Value) (ds gs : List (DataW H)) (before : List MemPlace)
    (hval : ∀ (j : Nat) t v, Tryd.f7.params[j]? = some t → args[j]? = some v → Value.okWide Tryd.prog W .any base t v)
    (hW : DataW.Whole enc Tryd.prog Tryd.f7.params.toList Rows.lexBlanksSpec.vars false W args.toList ds gs before)
    (hsz0 : (DataW.weightsEach Tryd.prog (Tryd.f7.params.toList ++ Rows.lexBlanksSpec.plain.varTypes Tryd.prog) (ds ++ gs)).all (· ≤ reachBytes) = true)
    (hL : laidMetH Tryd.prog Rows.lexBlanksRow.laid W) :
    Calls Tryd.prog 7 args W fun e W' => ∃ v, e = .returned v ∧ Rows.lexBlanksSpec.post enc Tryd.prog Tryd.f7 false true false false W args v W' := by
  have hW' := hW
  obtain ⟨p, q, hA0, hV, rfl, hfz, hnd⟩ := hW
  have hA : DataW.TrodAll enc Tryd.prog W 0 (fun _ => true) true Tryd.f7.params.toList args.toList ds p := hA0
  rw [Tryd.params7] at hA hval hsz0
  obtain ⟨v0, vs0, d0, ds0, p0, q0, hargs, rfl, rfl, h0, r0⟩ := trodAll_cons hA
  obtain ⟨v1, vs1, d1, ds1, p1, q1, rfl, rfl, rfl, h1, r1⟩ := trodAll_cons r0
  obtain ⟨rfl, rfl, rfl⟩ := trodAll_nil r1
  obtain rfl : args = #[v0, v1] := by cases args; simp_all
  obtain ⟨rfl, rfl⟩ := trodVars_none hV
  have hsz := hsz0
  have t0 := h0
  have lt0 : ∀ x ∈ p0, x.block < W.heap.size := by obtain ⟨m, hm⟩ := t0; exact DataW.trod_lt m _ _ _ hm
  obtain ⟨ad0, len0, cap0, rfl⟩ := okWide_slice Tryd.underlying22 (hval 0 22 v0 rfl rfl)
  obtain ⟨ts0, hl0, hb0, IT0⟩ := open_toks h0 (fun x hx => by
    have q := List.all_eq_true.1 hsz x (DataW.weights_mem_each (j := 0) (t := 22) (by simp) (by simp) x hx)
    simpa using q)
  subst hl0
  have bl0 : ts0.length ≤ 140737488351232 := by unfold reachBytes at hb0; omega
  have t1 := h1
  have lt1 : ∀ x ∈ p1, x.block < W.heap.size := by obtain ⟨m, hm⟩ := t1; exact DataW.trod_lt m _ _ _ hm
  obtain ⟨ad1, len1, cap1, rfl⟩ := okWide_slice Tryd.underlying34 (hval 1 34 v1 rfl rfl)
  obtain ⟨ss1, hl1, IS1⟩ := open_strs h1
  subst hl1
  clear hA0
  refine (walk ad0 ts0 cap0 ad1 ss1 cap1 W (laid_of hL) IT0 bl0 IS1).mono fun e W' ⟨he, bel⟩ => ?_
  subst he
  exact ⟨_, rfl, _, _, _, [], _, [], hW', trodAll_mk1 (shut_bool Tryd.underlying4 _), (trodAll_cons_mk (Below.trod laidOut (by kernel_rfl) (of_decide_eq_true (by kernel_rfl)) t0 bel lt0) (trodAll_cons_mk (Below.trod laidOut (by kernel_rfl) (of_decide_eq_true (by kernel_rfl)) t1 bel lt1) trodAll_mk0)), rfl, bel.frame _, fun h => by cases h⟩

set_option maxRecDepth 100000 in
theorem lifted (os : Os) (started : os.Started) (H : Type) (enc : TypeId × Value → H) :
    ReturnsInHanded {} Tryd.checked os 7 .any (fun w args => (Rows.lexBlanksSpec.pre enc Tryd.prog Tryd.f7 Rows.lexBlanksRow.domain false w args ∧ laidMetH Tryd.prog Rows.lexBlanksRow.laid w) ∧ sizedMet enc Tryd.prog Tryd.f7 (OpenSpec.ofChange Rows.lexBlanksSpec) false w args)
      (Rows.lexBlanksSpec.post enc Tryd.prog Tryd.f7 false true false false) := by
  refine returnsInHanded_of_change_and (C := Tryd.checked) (X := fun w _ => laidMetH Tryd.prog Rows.lexBlanksRow.laid w) (fun _ _ _ hh h => h.of_heap hh) own started (by kernel_rfl) Tryd.func7
    (ChangeSpec.witness_shaped (enc := enc) (C := Tryd.checked) (os := os) (X := fun w _ => laidMetH Tryd.prog Rows.lexBlanksRow.laid w) false (World.laidAll Tryd.prog os laidL) #[.slice none 0 0, .slice none 0 0] 8 (World.laidAll_os _ _ _)
      (World.shaped_of_ZipB (by kernel_rfl) (by kernel_rfl)) (by kernel_rfl) (by kernel_rfl) (by kernel_rfl) (met os _)) ?_
  intro W base args ds gs before hval hW _ hsz hL _
  exact contract H enc W base args ds gs before hval hW hsz hL

theorem said : Rows.LexBlanksSaid :=
  OpenClaim.holds_of_wide 7 Tryd.f7 rfl rfl rfl rfl rfl rfl rfl ⟨rfl, rfl, rfl, rfl, rfl⟩ rfl rfl rfl rfl rfl (by kernel_rfl) Tryd.func7 (by kernel_rfl)
    (of_decide_eq_true (by kernel_rfl)) (by unfold Func.isWrapper; first | (rw [if_pos (by decide +kernel)]; kernel_rfl) | (rw [if_neg (by decide +kernel)]; exact ⟨rfl, rfl⟩))
    (fun os started H enc _ => lifted os started H enc)

/-- No parameter wants a stand-in: what the card asks. -/
theorem plain (f : FuncId) (fn : Func) (hf : Tryd.pinned.checked.prog.funcNamed "midden/middenlaw05.LexBlanks" = some f) (hfn : Tryd.pinned.checked.prog.funcs[f]? = some fn) :
    true = Tryd.pinned.checked.prog.looks [] ∧ ∀ (j : Nat) t, fn.params[j]? = some t → Tryd.pinned.checked.prog.wantsStandIn t = false := by
  obtain rfl : f = 7 := Option.some.inj ((show Tryd.prog.funcNamed "midden/middenlaw05.LexBlanks" = some 7 by kernel_rfl).symm.trans hf) |>.symm
  obtain rfl : fn = Tryd.f7 := (Option.some.inj (Tryd.func7.symm.trans hfn)).symm
  refine ⟨by kernel_rfl, fun j t ht => ?_⟩
  rw [Tryd.params7] at ht
  have hm : t ∈ [22, 34] := by simpa using Array.mem_of_getElem? ht
  have hall : ([22, 34].all fun u => !Tryd.prog.wantsStandIn u) = true := by kernel_rfl
  exact (show Tryd.prog.wantsStandIn t = false by simpa using List.all_eq_true.1 hall t hm)

theorem card : Rows.LexBlanksCardSaid :=
  Claim7.holds_tied_plain_at .later [] _ _ _ _ said (fun _ h => by cases h) (by kernel_rfl) (fun _ h => by cases h) lexBlanks_row_tie rfl ⟨rfl, rfl⟩ (by kernel_rfl) rfl plain (by kernel_rfl)
end Go.Proofs.YtadmibdcdpggpaaDoor.lexBlanks

namespace Go.Proofs.YtadmibdcdpggpaaDoor
theorem lexBlanks_card : Rows.LexBlanksCardSaid := lexBlanks.card
#print axioms lexBlanks_card
end Go.Proofs.YtadmibdcdpggpaaDoor
