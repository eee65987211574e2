/- The document's own Scan and Word. -/
import Derived.Test.YtcbdolflgpmaoaaDoorScan
import Derived.Test.YtcbdolflgpmaoaaDoorOneSigns
import Derived.Test.YtcbdolflgpmaoaaDoorRpp
import Derived.Deep.RegionHeld3
namespace Go.Proofs.YtcbdolflgpmaoaaDoor
open Go.RowKit
set_option linter.unusedVariables false

theorem one_text {l : List UInt8} {t : Tk} (h : one l = .ok t) : t.text.length ≤ l.length := by
  cases l with
  | nil => cases h
  | cons c r =>
    unfold one at h
    simp only at h
    split at h
    · cases h; simp; omega
    · split at h
      · cases h; simp; omega
      · split at h
        · cases h; simp; omega
        · split at h
          · split at h
            · cases h; simp
            · cases h
          · split at h
            · rename_i _ hh
              cases h
              cases r with
              | nil => exact absurd hh.2 (by decide)
              | cons d r => simp
            · split at h
              · cases h; simp
              · cases h
theorem one_word {l : List UInt8} {t : Tk} (h : one l = .ok t) (hk : t.kind = 1 ∨ t.kind = 2 ∨ t.kind = 3) : t.len = t.text.length := by
  cases l with
  | nil => cases h
  | cons c r =>
    have hr := runN_le rn r
    have hl := runN_le rn (c :: r)
    unfold one at h
    simp only at h
    split at h
    · cases h; exact (take_len hl).symm
    · split at h
      · cases h; exact (take_len hl).symm
      · split at h
        · cases h; exact (take_len (by simp only [List.length_cons]; omega)).symm
        · split at h
          · split at h
            · cases h; simp at hk
            · cases h
          · split at h
            · cases h; simp at hk
            · split at h
              · cases h; simp at hk
              · cases h
/-- what is longer than 32 bytes is no word -/
theorem long_word {l : List UInt8} (h : 32 < l.length) (kind : Int) : wordB l kind = false := by
  unfold wordB
  by_cases hk : kind = 1 ∨ kind = 2 ∨ kind = 3
  · have : justT l kind = false := by
      unfold justT
      cases e : readT l with
      | error => rfl
      | ok t =>
        obtain ⟨e1, e2⟩ := readT_one e
        have hl := one_word e1
        simp only [Bool.and_eq_false_iff, decide_eq_false_iff_not]
        by_cases q : t.kind = kind
        · right
          have := hl (by omega)
          omega
        · exact .inl q
    rw [this, Bool.and_false]
  · simp only [not_or] at hk
    simp [hk]

set_option maxHeartbeats 2000000 in
theorem rscan_any (s : ByteArray) (w : World) (L : Laid w) :
    Calls Tryd.prog 21 #[.string s] w fun e w' => ∃ v, e = .returned (.tuple #[v, .int .i64 (scanA (scanAll s.data.toList)), .int .i64 (scanE (scanAll s.data.toList))]) ∧
      Row w' w.heap.size v (scanL (scanAll s.data.toList)) ∧ Below w.heap.size w w' := by
  have sl := size_list s
  by_cases hbig : 16384 < s.size
  · have z : (16384 : Int) < s.size := by omega
    rw [show scanAll s.data.toList = .error (0, 3) by rw [scanAll, if_pos (by omega)]]
    go_enter Tryd.func21, Tryd.ntmps21
    go_wp2
    exact bodyPost_ret (v := .tuple #[.slice none 0 0, .int .i64 0, .int .i64 3]) (by simp [results, Tryd.results21, go_sem]) rfl ⟨_, rfl, Row.nil _ _, Below.refl _ _⟩
  · have z : ¬ (16384 : Int) < s.size := by omega
    rw [scanAll_from _ (by omega)]
    obtain ⟨R, hR⟩ : ∃ R, from' s.data.toList 0 = R := ⟨_, rfl⟩
    rw [hR]
    have N0 := fun w => skip_any s 0 (by omega) (by omega) w
    obtain ⟨k0, hk0⟩ : ∃ k0, 0 + skipN false (s.data.toList.drop 0) = k0 := ⟨_, rfl⟩
    have hle := skipN_le false (s.data.toList.drop 0)
    simp only [List.length_drop, sl] at hle
    have H1 : Hid (ahead [] (from' s.data.toList k0) = R) := ⟨by rw [ahead_nil, ← hk0, from_skip, hR]⟩
    have H2 : Hid (skipN false (s.data.toList.drop k0) = 0) := ⟨by rw [← hk0, Nat.zero_add]; exact skip_idem false _⟩
    have hk : k0 ≤ s.size := by omega
    rw [hk0] at N0
    clear hk0 hle hR sl
    go_enter Tryd.func21, Tryd.ntmps21
    go_wp2_with (go_at_call 37; refine (N0 _).mono ?_; rintro e w1 ⟨rfl, hw⟩; subst w1)
    go_loopw [5, 6] (fun v c wr => ∃ (k : Nat) (ts : List Tok), c = .int .i64 k ∧ k ≤ s.size ∧ ts.length ≤ k ∧ Row wr w.heap.size v ts ∧ Hid (ahead ts (from' s.data.toList k) = R) ∧ Hid (skipN false (s.data.toList.drop k) = 0) ∧ Below w.heap.size w wr)
      (fun _ c _ => s.size - (intOf c).toNat)
    case atStart => exact ⟨k0, [], rfl, hk, Nat.zero_le _, Row.nil _ _, H1, H2, Below.refl _ _⟩
    case round =>
      obtain ⟨k, ts, rfl, hks, htk, RW, HF, HS, BR⟩ := hrel
      have LR := L.later BR
      by_cases hlt : k < s.size
      · have RD := one_any s k hlt (by omega) wr
        cases e0 : one (s.data.toList.drop k) with
        | error er =>
          have e : readT (s.data.toList.drop k) = .error er := by rw [readT, e0]
          have HX : Hid (R = .error (k, er)) := ⟨by rw [← HF.out, from_err _ _ (by rw [size_list]; exact hlt) HS.out e]; rfl⟩
          have her := readT_err e
          have ne : ¬ er = 0 := by omega
          rw [e0] at RD
          simp only [readV, tokV] at RD
          clear e e0 her
          go_wp2_with (go_at_call 38; refine RD.mono ?_; rintro e w1 ⟨rfl, B1⟩)
          rw [HX.out]
          exact bodyPost_ret (v := .tuple #[.slice none 0 0, .int .i64 k, .int .i64 er]) (by simp [results, Tryd.results21, go_sem]) rfl ⟨_, rfl, Row.nil _ _, BR.trans (Joins.below_le (B1.alloc B1.size _) BR.size)⟩
        | ok t =>
          have tsz : (str t.text).size = t.text.length := str_size _
          by_cases h32 : 32 < t.text.length
          · have e : readT (s.data.toList.drop k) = .error 21 := by rw [readT, e0]; simp only [h32, if_true]
            have HX : Hid (R = .error (k, 21)) := ⟨by rw [← HF.out, from_err _ _ (by rw [size_list]; exact hlt) HS.out e]; rfl⟩
            have z32 : (32 : Int) < (str t.text).size := by omega
            rw [e0] at RD
            obtain ⟨tk, tt, tn, tlen⟩ := t
            simp only [readV, tokV] at RD z32
            clear e e0 h32 tsz
            go_wp2_with (go_at_call 38; refine RD.mono ?_; rintro e w1 ⟨rfl, B1⟩)
            rw [HX.out]
            exact bodyPost_ret (v := .tuple #[.slice none 0 0, .int .i64 k, .int .i64 21]) (by simp [results, Tryd.results21, go_sem]) rfl ⟨_, rfl, Row.nil _ _, BR.trans (Joins.below_le (B1.alloc B1.size _) BR.size)⟩
          have e : readT (s.data.toList.drop k) = .ok t := by rw [readT, e0]; simp only [h32, if_false]
          have z32 : ¬ (32 : Int) < (str t.text).size := by omega
          rw [e0, ← e] at RD
          clear e0 h32 tsz
          have tl := readT_len e
          simp only [List.length_drop, size_list] at tl
          obtain ⟨k2, hk2⟩ : ∃ k2, k + t.len + skipN false (s.data.toList.drop (k + t.len)) = k2 := ⟨_, rfl⟩
          have HX : Hid (ahead (ts ++ [⟨t.kind, t.text, t.num, k⟩]) (from' s.data.toList k2) = R) := ⟨by rw [← HF.out, from_ok _ _ (by rw [size_list]; exact hlt) HS.out e, ← hk2, from_skip, ahead_ahead]⟩
          have HY : Hid (skipN false (s.data.toList.drop k2) = 0) := ⟨by rw [← hk2, ← List.drop_drop]; exact skip_idem false _⟩
          have hle := skipN_le false (s.data.toList.drop (k + t.len))
          simp only [List.length_drop, size_list] at hle
          have N2 := fun w => skip_any s (k + t.len) (by omega) (by omega) w
          rw [hk2] at N2
          rw [e] at RD
          obtain ⟨tk, tt, tn, tlen⟩ := t
          simp only [readV, tokV] at RD HX HY N2 hle tl hk2 z32
          have hk2' : k2 ≤ s.size := by omega
          have hk3 : k < k2 := by omega
          obtain ⟨k1, hk1⟩ : ∃ k1, k + tlen = k1 := ⟨_, rfl⟩
          rw [hk1] at RD N2
          clear e hk2 hle hk1 tl HF HS
          have HR : Hid (Row wr w.heap.size u5 ts) := ⟨RW⟩
          have HB : Hid (Below w.heap.size w wr) := ⟨BR⟩
          clear RW BR LR L
          go_wp2_with (first
            | (go_at_call 38; refine RD.mono ?_; rintro e w1 ⟨rfl, B1⟩)
            | (at_builtin; obtain ⟨i0, hi, hz0, hz1, hz2⟩ := info_parts info38; refine wpList_append_own _ rfl _ _ 63 rfl w.heap.size 70 i0 _ 4 40 Tryd.underlying63 hi hz0 hz1 hz2 rfl (by decide) u5 ts.length (cellsT ts) rfl (HR.out.later (below2_of B1 _ _)) ⟨w1.heap.size + 1, 0, none⟩ 1 1 (tokC ⟨tk, tt, tn, k⟩) rfl rfl (news4 (new2 _ _ _)) (by simp [Value.oneCell', tokC]) (by unfold maxLen; omega) (by omega) (by have := HB.out.size; have := B1.size; simp; omega) ?_; intro v' w2 hown' hgrow' _; clear hi hz0 hz1 hz2; have RM := row_more (HB.out.trans (Joins.below_le (below2_of B1 _ _) HB.out.size)) (HR.out.later (below2_of B1 _ _)) hown' hgrow'; have HM : Hid (Row w2 w.heap.size v' (ts ++ [⟨tk, tt, tn, k⟩]) ∧ Below w.heap.size w w2) := ⟨RM⟩; clear RM hown' hgrow')
            | (go_at_call 37; refine (N2 _).mono ?_; rintro e w3 ⟨rfl, hw⟩; subst w3))
          go_roundw
          case rel => exact ⟨k2, ts ++ [⟨tk, tt, tn, k⟩], by go_num, hk2', by simp; omega, HM.out.1, HX, HY, HM.out.2⟩
          case measure => simp [intOf]; omega
      · obtain rfl : k = s.size := by omega
        have HX : Hid (R = .ok ts) := ⟨by rw [← HF.out, from_end _ _ (by rw [size_list]; exact Nat.le_refl _), ahead_end]⟩
        clear HF HS
        go_wp2
        rw [HX.out]
        exact bodyPost_ret (v := .tuple #[u5, .int .i64 0, .int .i64 0]) (by simp [results, Tryd.results21, go_sem]) rfl ⟨_, rfl, RW, BR⟩

end Go.Proofs.YtcbdolflgpmaoaaDoor


/- The document's Parse. -/
namespace Go.Proofs.YtcbdolflgpmaoaaDoor
open Go.RowKit
set_option linter.unusedVariables false
set_option linter.unusedSimpArgs false


/-- a program in the making: the result's block M, the reader b, the program's own block X -/
structure Po (w W : World) (b M X : Nat) (n : Int) (o : Option (List Tok)) (cs : Array Value) : Prop where
  rd : RdR W b o n
  be : Below w.heap.size w W
  m : Blk W M #[nil3, nil3] 25
  x : Blk W X cs 25
  lo : w.heap.size ≤ M ∧ M < b ∧ b < X
section
variable {w W W' : World} {b M X : Nat} {n : Int} {l l' : Option (List Tok)} {cs : Array Value}
theorem Po.kept {row : Option Nat} (h : Po w W b M X n l cs) (k : W.grownBy W' row) (hr : ∀ i, row = some i → X < i) : Po w W' b M X n l cs :=
  have lo := h.lo
  have sz := h.be.size
  ⟨h.rd.kept k (fun i e => by have := hr i e; omega), ⟨k.os.trans h.be.os, k.tape.trans h.be.tape, k.output.trans h.be.output, Nat.le_trans h.be.size k.size, fun i hi => (k.block i (by omega) (fun e => by have := hr i e.symm; omega)).trans (h.be.block i hi)⟩, h.m.kept k (fun e => by have := hr _ e; omega), h.x.kept k (fun e => by have := hr _ e; omega), h.lo⟩
theorem Po.alloc (h : Po w W b M X n l cs) (o : Obj) : Po w (W.alloc o) b M X n l cs := h.kept (grown_alloc _ _) (fun i e => by cases e)
theorem Po.drew (h : Po w W b M X n l cs) : Po w W.drew b M X n l cs := h.kept (grown_drew _) (fun i e => by cases e)
theorem Po.call (h : Po w W b M X n l cs) (F : Fr b W W') (R : RdR W' b l' n) : Po w W' b M X n l' cs :=
  have lo := h.lo
  have sz := h.be.size
  ⟨R, ⟨F.os.trans h.be.os, F.tape.trans h.be.tape, F.output.trans h.be.output, Nat.le_trans h.be.size F.size, fun i hi => (F.block i (by omega) (fun e => by cases e; omega)).trans (h.be.block i hi)⟩, h.m.kept F (fun e => by cases e; omega), h.x.kept F (fun e => by cases e; omega), h.lo⟩
theorem Po.below (h : Po w W b M X n l cs) (B : Below W.heap.size W W') : Po w W' b M X n l cs := h.call (Fr.of_below B) (h.rd.below B)
theorem Po.row {size m : Nat} {e : TypeId} {v : Value} {xs : List Value} (h : Po w W b M X n l cs) (o : W.ownsRow (X + 1) e size v m xs) (k : W.grownBy W' v.ownBlock) : Po w W' b M X n l cs :=
  h.kept k (fun i hi => (o.lt i hi).1)
theorem Po.store (h : Po w W b M X n l cs) (j : Nat) (v : Value) : Po w (W.setCell ⟨X, j, none⟩ v) b M X n l (cs.setIfInBounds j v) :=
  have g : W.grownBy (W.setCell ⟨X, j, none⟩ v) (some X) := z_grown_set W X j v
  have lo := h.lo
  have sz := h.be.size
  ⟨h.rd.kept g (fun i e => by cases e; omega), ⟨g.os.trans h.be.os, g.tape.trans h.be.tape, g.output.trans h.be.output, Nat.le_trans h.be.size g.size, fun i hi => (g.block i (by omega) (fun e => by cases e; omega)).trans (h.be.block i hi)⟩, h.m.kept g (fun e => by cases e; omega), Joins.block_setCell h.x v, h.lo⟩
theorem Po.lts (h : Po w W b M X n l cs) : b < W.heap.size ∧ M < W.heap.size ∧ X < W.heap.size := ⟨h.rd.lt, h.m.lt, h.x.lt⟩
end
theorem info62 : (Tryd.prog.info? 58).map (fun i => (i.zero, i.size, i.bytes)) = some (some (.agg #[.string ⟨#[]⟩, .int .i64 0, .int .i64 0]), 3, 32) := by kernel_rfl
theorem size25 : (Tryd.prog.info? 25).map (·.size) = some 2 := by kernel_rfl
theorem rd_start {w : World} {base : Nat} {ga : Option Addr} {cap : Nat} {ts : List Tok} {n : Int} (RW : Row w base (.slice ga ts.length cap) ts) (hl : ts.length ≤ 16384) (hg : Good ts) :
    RdR (w.alloc (.cells #[.slice ga ts.length cap, .int .i64 0, .int .i64 n, .bool false, .int .i64 0, .int .i64 0] 68)) w.heap.size (some ts) n := by
  obtain ⟨ga', cap', e, hle, hc⟩ := own_le RW
  cases e
  refine ⟨⟨ts, 0, ga, cap, 0, 0, Blk.fresh w _ _, ⟨hle, hl⟩, Nat.zero_le _, fun l h => by cases h; rfl, fun h => (by cases h), fun hn => ?_⟩, fun l h => by cases h; exact hg⟩
  obtain ⟨g, rfl, hcs⟩ := hc hn
  have hlt := (World.ownsRow.lt RW g rfl).2
  refine ⟨g, 0, rfl, hlt, fun j u hj => ?_⟩
  have h1 := hcs j u hj
  rw [show ((⟨g, 0, none⟩ : Addr).add j) = ⟨g, 0 + j, none⟩ by unfold Addr.add; split <;> simp_all] at h1
  exact (grown_alloc _ _).cell h1 (fun e => by cases e)
/-- what Parse answers: an error, or the text's program -/
def ParsesR (s : List UInt8) (w : World) (e : Ending) (w' : World) : Prop := Below w.heap.size w w' ∧ ∃ v a c, e = .returned (.tuple #[v, .int .i64 a, .int .i64 c]) ∧ ((c ≠ 0 ∧ v = .agg #[nil3, nil3] ∧ ∀ p, parseT s ≠ .ok p) ∨ (c = 0 ∧ a = 0 ∧ ∃ p, parseT s = .ok p ∧ isPV w' (new w w') p v))
set_option maxRecDepth 100000 in
set_option maxHeartbeats 8000000 in
theorem rparse_bad (s : ByteArray) (w : World) (L : Laid w) {a : Nat} {c : Int} (hs : scanAll s.data.toList = .error (a, c)) : Calls Tryd.prog 11 #[.string s] w (ParsesR s.data.toList w) := by
  have SC := rscan_any s (w.alloc (.cells #[nil3, nil3] 25)) (L.later (Joins.below_alloc1 w _))
  rw [hs] at SC
  simp only [scanA, scanE, scanL] at SC
  have hc := errs_scan hs
  have hp := parse_scan_err hs
  have M0 := Blk.fresh w #[nil3, nil3] 25
  have HP : Hid (c ≠ 0 ∧ ∀ p, parseT s.data.toList ≠ .ok p) := ⟨hc, fun p q => by rw [hp] at q; cases q⟩
  have hc' : (c == 0) = false := by simp [hc]
  have B0 := Joins.below_alloc1 w (.cells #[nil3, nil3] 25)
  clear hs hp L hc
  go_enter Tryd.func11, Tryd.ntmps11
  go_wp2_with (first
    | (go_at_call 21; refine SC.mono ?_; rintro e w1 ⟨v, rfl, RW, B1⟩; have M1 : Blk w1 w.heap.size #[nil3, nil3] 25 := (B1.block _ M0.lt).trans M0; have m0 : w1.cell? ⟨w.heap.size, 0, none⟩ = some nil3 := M1.cell 0; have m1 : w1.cell? ⟨w.heap.size, 1, none⟩ = some nil3 := M1.cell 1; have z0 := M1.z 0; have z1 := M1.z 1))
  refine bodyPost_ret (v := .tuple #[.agg #[nil3, nil3], .int .i64 a, .int .i64 c]) (by simp [results, Tryd.results11, go_sem, m0, m1]) rfl ⟨?_, _, _, _, rfl, .inl ⟨HP.out.1, rfl, HP.out.2⟩⟩
  have B2 := B0.trans (Joins.below_le B1 (by simp))
  exact ⟨B2.os, B2.tape, B2.output, by simpa using B2.size, fun k hk => by rw [setCell_block _ _ _ _ (by simp; omega), setCell_block _ _ _ _ (by simp; omega)]; exact B2.block k hk⟩
def DatI (w wr : World) (b M X : Nat) (n : Int) (o1 : Option (List Tok)) : Prop :=
  ∃ ds o' vd, Po w wr b M X n o' #[vd, nil3] ∧ Hid (DatJ o1 ds o') ∧ ds.length + leftO o' ≤ 16385 ∧ wr.ownsRow (X + 1) 58 3 vd ds.length (datC ds)
def BinI (w wr : World) (b M X : Nat) (n : Int) (oD : Option (List Tok)) (vd : Value) (ds : List D) : Prop :=
  ∃ bs o' vb xb, Po w wr b M X n o' #[vd, vb] ∧ Hid (BinJ oD bs o') ∧ bs.length + leftO o' ≤ 16385 ∧ wr.ownsRow (X + 1) 49 11 vb bs.length xb ∧ Hid (isBs wr (inn X wr vb) bs xb) ∧ Hid (IsRow wr (inn X wr vb) (datC ds) ds.length vd)
theorem left_data (q : List Tok) : leftO (runO pData (some q)) < leftO (some q) := left_lt (one := pData) (fun l a r h => pData_le h) q

set_option maxRecDepth 100000 in
set_option maxHeartbeats 8000000 in
theorem rparse_good (s : ByteArray) (w : World) (L : Laid w) {ts : List Tok} (hs : scanAll s.data.toList = .ok ts) : Calls Tryd.prog 11 #[.string s] w (ParsesR s.data.toList w) := by
  have SC := rscan_any s (w.alloc (.cells #[nil3, nil3] 25)) (L.later (Joins.below_alloc1 w _))
  rw [hs] at SC
  simp only [scanA, scanE, scanL] at SC
  have M0 := Blk.fresh w #[nil3, nil3] 25
  have B0 := Joins.below_alloc1 w (.cells #[nil3, nil3] 25)
  have HG : Hid (ts.length ≤ 16384 ∧ Good ts) := ⟨scan_len hs, scan_good hs⟩
  obtain ⟨Q, hQ⟩ : ∃ Q : Ending → World → Prop, Q = ParsesR s.data.toList w := ⟨_, rfl⟩
  have HB : Hid (∀ w' a c oD ds, Below w.heap.size w w' → c ≠ 0 → runO (datasK []) (some ts) = oD → Rt (datasK []) (some ts) ds → (∃ bs, BinJ oD bs none) → Q (.returned (.tuple #[.agg #[nil3, nil3], .int .i64 a, .int .i64 c])) w') := ⟨fun w' a c oD ds hb hc h1 h2 ⟨bs, h3⟩ => by
    rw [hQ]
    exact ⟨hb, _, _, _, rfl, .inl ⟨hc, rfl, parse_of_none hs (prog_rt h1 h2 h3.1 (h3.2 bs (fun y q => by cases q))).1⟩⟩⟩
  have HO : Hid (∀ w' v oD ds bs, Below w.heap.size w w' → runO (datasK []) (some ts) = oD → Rt (datasK []) (some ts) ds → BinJ oD bs (some []) → isPV w' (new w w') ⟨ds, bs⟩ v → Q (.returned (.tuple #[v, .int .i64 0, .int .i64 0])) w') := ⟨fun w' v oD ds bs hb h1 h2 h3 h4 => by
    rw [hQ]
    obtain ⟨h5, h6⟩ := prog_rt h1 h2 h3.close.1 h3.close.2
    exact ⟨hb, _, _, _, rfl, .inr ⟨rfl, rfl, _, parse_of_run hs h5 h6, h4⟩⟩⟩
  rw [← hQ]
  clear hs L hQ
  go_enter Tryd.func11, Tryd.ntmps11
  go_wp2_with (first
    | (go_at_call 21; refine SC.mono ?_; rintro e w1 ⟨v, rfl, RW, B1⟩; obtain ⟨ga, cap, rfl⟩ := own_form RW; have HRW : Hid (Row _ _ _ _) := ⟨RW⟩; have M1 : Blk w1 w.heap.size #[nil3, nil3] 25 := (B1.block _ M0.lt).trans M0; have B2 := B0.trans (Joins.below_le B1 (by simp)); clear RW B1))
  have O1 : Po w ((w1.alloc (.cells #[.slice ga ts.length cap, .int .i64 0, .int .i64 s.size, .bool false, .int .i64 0, .int .i64 0] 68)).alloc (.cells #[nil3, nil3] 25)) w1.heap.size w.heap.size (w1.heap.size + 1) s.size (some ts) #[nil3, nil3] :=
    ⟨(rd_start HRW.out HG.out.1 HG.out.2).alloc _, (B2.alloc B2.size _).alloc (by have := B2.size; simp; omega) _, (M1.alloc _).alloc _, (by have := Blk.fresh (w1.alloc (.cells #[.slice ga ts.length cap, .int .i64 0, .int .i64 s.size, .bool false, .int .i64 0, .int .i64 0] 68)) #[nil3, nil3] 25; simpa using this), ⟨Nat.le_refl _, M1.lt, by omega⟩⟩
  have HL1 : Hid (leftO (some ts) ≤ 16385) := ⟨O1.rd.left⟩
  generalize ((w1.alloc (.cells #[.slice ga ts.length cap, .int .i64 0, .int .i64 s.size, .bool false, .int .i64 0, .int .i64 0] 68)).alloc (.cells #[nil3, nil3] 25)) = W1 at *
  have hX := O1.lo
  generalize hXX : w1.heap.size + 1 = X at *
  generalize w1.heap.size = b at *
  clear SC M0 B0 M1 B2 HRW hXX
  generalize hn : (s.size : Int) = n at *
  generalize hM : w.heap.size = M at *
  go_loopw [] (fun wr => DatI w wr b M X n (some ts)) (fun wr => mz wr b)
  case atStart => exact ⟨[], some ts, nil3, by rw [← hM] at O1 ⊢; exact O1, ⟨⟨rfl, fun ys h => h⟩⟩, by simpa using HL1.out, World.ownsRow_nil _ _ _ _⟩
  case round =>
    clear O1
    obtain ⟨ds, o', vd, O, HJ, hl, OW⟩ := hrel
    have HM : Hid (mz wr b = leftO o') := ⟨O.rd.mz⟩
    have ST := is_any O.rd [100, 97, 116, 97]
    cases hst : isR [100, 97, 116, 97] o' with
    | true =>
      rw [hst, show str [100, 97, 116, 97] = ⟨#[100, 97, 116, 97]⟩ from rfl] at ST
      obtain ⟨t, q, rfl⟩ : ∃ t q, o' = some (t :: q) := by
        rcases o' with _ | (_ | ⟨t, q⟩)
        · cases hst
        · cases hst
        · exact ⟨t, q, rfl⟩
      have HST : Hid (isS [100, 97, 116, 97] (t :: q) = true) := ⟨hst⟩
      have HO1 : Hid (Po _ _ _ _ _ _ _ _) := ⟨O⟩
      have hlb : ds.length ≤ 16385 := by omega
      have HL : Hid (ds.length + leftO (some (t :: q)) ≤ 16385) := ⟨hl⟩
      obtain ⟨i0, hi, hz0, hz1, hz2⟩ := info_parts info62
      clear O hst hl
      go_wp2_with (first
        | (go_at_call 22; refine ST.mono ?_; rintro e w1 ⟨rfl, B1⟩; have O1 := HO1.out.below B1; have OW1 := own_fr OW (Fr.of_below (b := b) B1) (by omega); have ON := on_any O1.rd (fun l e z => by cases e; cases z); simp only [Option.map_some, List.tail_cons] at ON; clear B1 ST OW)
        | (go_at_call 23; refine ON.mono ?_; rintro e w2 ⟨rfl, F2, R2⟩; have O2 := O1.call F2 R2; have OW2 := own_fr OW1 F2 (by omega); have K1 := kind_any O2.rd 2 (by decide); clear F2 R2 O1 OW1 ON)
        | (go_at_call 24; refine K1.mono ?_; rintro e w3 ⟨F3, R3, c, rfl, hc⟩; have HC : Hid (Rt (pKind 2) (some q) c) := ⟨hc⟩; have O3 := (O2.call F3 R3).alloc (.cells #[.int .i64 c.kind, .string (str c.text), .int .i64 c.num, .int .i64 c.at'] 70); have OW3 := own_alloc (own_fr OW2 F3 (by omega)) (.cells #[.int .i64 c.kind, .string (str c.text), .int .i64 c.num, .int .i64 c.at'] 70); have L3 := Blk.fresh w3 #[.int .i64 c.kind, .string (str c.text), .int .i64 c.num, .int .i64 c.at'] 70; have lt3 := (O2.call F3 R3).lts.2.2; have K2 := kind_any O3.rd 4 (by decide); clear F3 R3 O2 OW2 K1 hc)
        | (go_at_call 24; refine K2.mono ?_; rintro e w4 ⟨F4, R4, m, rfl, hm⟩; have HN : Hid (Rt (pKind 4) (runO (pKind 2) (some q)) m) := ⟨hm⟩; have O4 := (O3.call F4 R4).alloc (.cells #[.int .i64 m.kind, .string (str m.text), .int .i64 m.num, .int .i64 m.at'] 70); have OW4 := own_alloc (own_fr OW3 F4 (by omega)) (.cells #[.int .i64 m.kind, .string (str m.text), .int .i64 m.num, .int .i64 m.at'] 70); have L4 := (L3.kept F4 (fun e => by cases e; omega)).alloc (.cells #[.int .i64 m.kind, .string (str m.text), .int .i64 m.num, .int .i64 m.at'] 70); have N4 := Blk.fresh w4 #[.int .i64 m.kind, .string (str m.text), .int .i64 m.num, .int .i64 m.at'] 70; have lt4 := (O3.call F4 R4).lts.2.2; clear F4 R4 O3 OW3 K2 hm)
        | (go_at_call 25; refine (want_any O4.rd [59]).mono ?_; rintro e w5 ⟨rfl, F5, R5⟩; have O5 := O4.call F5 R5; have OW5 := own_fr OW4 F5 (by omega); have L5 := L4.kept F5 (fun e => by cases e; omega); have N5 := N4.kept F5 (fun e => by cases e; omega); have c1 : w5.cell? ⟨w3.heap.size, 1, none⟩ = some (.string (str c.text)) := L5.cell 1; have c3 : w5.cell? ⟨w3.heap.size, 3, none⟩ = some (.int .i64 c.at') := L5.cell 3; have d2 : w5.cell? ⟨w4.heap.size, 2, none⟩ = some (.int .i64 m.num) := N5.cell 2; have x0 : w5.cell? ⟨X, 0, none⟩ = some vd := O5.x.cell 0; have lt5 := O5.lts.2.2; clear F5 R5 O4 OW4)
        | (at_builtin; refine wpList_append_lies _ rfl _ _ 22 rfl (X + 1) 58 i0 _ 3 32 Tryd.underlying22 hi hz0 hz1 hz2 rfl (by decide) vd ds.length (datC ds) rfl (own_alloc OW5 _) ⟨_, 0, none⟩ 1 1 [.string (str c.text), .int .i64 m.num, .int .i64 c.at'] rfl rfl (World.news_of_block (heap_alloc_new _ _)) (by simp [Value.oneCell']) (by decide) (by unfold maxLen; omega) (by omega) (by simp; omega) _ rfl ?_; intro q6 cap6 w6 ho hg hat hlt; have O6 := (O5.alloc (.cells #[.string (str c.text), .int .i64 m.num, .int .i64 c.at'] 58)).row (own_alloc OW5 _) hg; have y6 : w6.cell? ⟨X, 0, none⟩ = some vd := O6.x.cell 0; have z6 : w6.frozen? ⟨X, 0, none⟩ = false := O6.x.z 0; clear hg hat hlt))
      obtain ⟨e1, e2⟩ := data_rt HC.out HN.out
      have hlt := left_data q
      rw [e1] at hlt
      have hJ := DatJ.more HJ.out HST.out e2
      rw [e1] at hJ
      have hle := HL.out
      have hq1 : leftO (some q) = q.length + 1 := rfl
      have hq2 : leftO (some (t :: q)) = q.length + 1 + 1 := rfl
      rw [hq1] at hlt
      rw [hq2] at hle
      refine ⟨⟨ds ++ [⟨c.text, m.num, c.at'⟩], _, .slice (some ⟨q6, 0, none⟩) (ds.length + 1) cap6, O6.store 0 _, ⟨hJ⟩, by rw [List.length_append]; simp only [List.length_cons, List.length_nil]; omega, ?_⟩, ?_⟩
      · rw [datC_snoc, List.length_append]
        exact own_store ho 0 _
      · rw [(O6.store 0 _).rd.mz, HM.out, hq2]
        omega
    | false =>
      have HD : Hid (runO (datasK []) (some ts) = o' ∧ Rt (datasK []) (some ts) ds) := ⟨HJ.out.close hst⟩
      rw [hst, show str [100, 97, 116, 97] = ⟨#[100, 97, 116, 97]⟩ from rfl] at ST
      have HO1 : Hid (Po _ _ _ _ _ _ _ _) := ⟨O⟩
      have hlb : ds.length ≤ 16385 := by omega
      clear O hst hl HM HJ
      go_wp2_with (first | (go_at_call 22; refine ST.mono ?_; rintro e W2 ⟨rfl, B1⟩))
      have O2 := HO1.out.below B1
      have OW2 := own_fr OW (Fr.of_below (b := b) B1) (by omega)
      obtain ⟨gd, cd, rfl⟩ := own_form OW2
      have ID2 : Hid (IsRow W2 (inn X W2 nil3) (datC ds) ds.length (.slice gd ds.length cd)) := ⟨row_of_owns OW2 (fun g hg => ⟨by have := (OW2.lt g hg).1; omega, (OW2.lt g hg).2, by simp [Value.ownBlock]⟩) (by omega)⟩
      have HO2 : Hid (Po _ _ _ _ _ _ _ _) := ⟨O2⟩
      have HL2 : Hid (leftO o' ≤ 16385) := ⟨O2.rd.left⟩
      clear HO1 OW OW2 B1 ST HL1 O2
      go_loopw [] (fun wr => BinI w wr b M X n o' (.slice gd ds.length cd) ds) (fun wr => mz wr b)
      case atStart => exact ⟨[], o', nil3, [], HO2.out, ⟨⟨rfl, fun ys h => h⟩⟩, by simpa using HL2.out, World.ownsRow_nil _ _ _ _, ⟨by simp only [isBs]⟩, ID2⟩
      case round =>
        clear HO2 ID2 HL2
        obtain ⟨bs, o2, vb, xb, O, HJ, hl, OW, HIB, HID⟩ := hrel
        have HM : Hid (mz wr b = leftO o2) := ⟨O.rd.mz⟩
        have HO2 : Hid (Po _ _ _ _ _ _ _ _) := ⟨O⟩
        obtain ⟨us, k, ga, cap, e4, e5, XB, ⟨a0, a1⟩, a2, a3, a4, a5⟩ := O.rd.ex
        have c0 : wr.cell? ⟨b, 0, none⟩ = some (.slice ga us.length cap) := XB.cell 0
        have c1 : wr.cell? ⟨b, 1, none⟩ = some (.int .i64 k) := XB.cell 1
        have c3 : wr.cell? ⟨b, 3, none⟩ = some (.bool o2.isNone) := XB.cell 3
        have c4 : wr.cell? ⟨b, 4, none⟩ = some (.int .i64 e4) := XB.cell 4
        have c5 : wr.cell? ⟨b, 5, none⟩ = some (.int .i64 e5) := XB.cell 5
        obtain ⟨gb, cb, rfl⟩ := own_form OW
        have x0 : wr.cell? ⟨X, 0, none⟩ = some (.slice gd ds.length cd) := O.x.cell 0
        have x1 : wr.cell? ⟨X, 1, none⟩ = some (.slice gb bs.length cb) := O.x.cell 1
        have m0 : wr.cell? ⟨M, 0, none⟩ = some nil3 := O.m.cell 0
        have m1 : wr.cell? ⟨M, 1, none⟩ = some nil3 := O.m.cell 1
        have z0 : wr.frozen? ⟨M, 0, none⟩ = false := O.m.z 0
        have z1 : wr.frozen? ⟨M, 1, none⟩ = false := O.m.z 1
        have nb1 : ¬ M = b := by omega
        have nb2 : ¬ b = M := by omega
        have nb3 : ¬ M = X := by omega
        have nb4 : ¬ X = M := by omega
        rcases o2 with _ | (_ | ⟨t, q⟩)
        · simp only [Option.isNone_none] at c3
          have he4 := a4 rfl
          have HE4 : Hid (e4 ≠ 0) := ⟨he4⟩
          have HBE : Hid (∀ W', W'.heap.size = wr.heap.size → W'.os = wr.os → W'.tape = wr.tape → W'.output = wr.output → (∀ k, k < M → W'.heap[k]? = wr.heap[k]?) → Below M w W') := ⟨fun W' h1 h2 h3 h4 h5 => by
            have be := HO2.out.be
            exact ⟨h2.trans be.os, h3.trans be.tape, h4.trans be.output, by rw [h1]; exact be.size, fun k hk => (h5 k (by omega)).trans (be.block k (by omega))⟩⟩
          clear XB a3 a4 a5 O he4
          go_wp2
          go_quiet (fail)
          all_goals go_wp2
          all_goals go_region
          all_goals go_wp2
          all_goals exact bodyPost_ret (v := .tuple #[.agg #[nil3, nil3], .int .i64 e5, .int .i64 e4]) (by simp [results, Tryd.results11, go_sem, m0, m1]) rfl (HB.out _ _ _ _ ds (HBE.out _ (by simp) rfl rfl rfl (fun k hk => by rw [show (World.heap _) = _ from rfl]; rw [setCell_block _ _ _ _ (by simp; omega), setCell_block _ _ _ _ (by simp; omega)]; rfl)) HE4.out HD.out.1 HD.out.2 ⟨bs, HJ.out⟩)
        · simp only [Option.isNone_some] at c3
          have hk : k = us.length := by have := congrArg List.length (a3 [] rfl); simp at this; omega
          have hlt : ¬ (k : Int) < us.length := by omega
          clear XB a3 a4 a5 O hk
          go_wp2
          go_region_held3 (fun w' => w'.cell? ⟨b, 3, none⟩ = some (.bool false) ∧ w'.cell? ⟨b, 1, none⟩ = some (.int .i64 k) ∧ w'.cell? ⟨b, 0, none⟩ = some (.slice ga us.length cap)) (go_keep) (fail)
          all_goals go_wp2
          refine bodyPost_ret (v := .tuple #[.agg #[.slice gd ds.length cd, .slice gb bs.length cb], .int .i64 0, .int .i64 0]) (by simp [results, Tryd.results11, go_sem, m0, m1]) rfl (HO.out _ _ _ ds bs ?_ HD.out.1 HD.out.2 HJ.out ?_)
          · have be := HO2.out.be
            rw [hM] at be
            refine ⟨be.os, be.tape, be.output, ?_, fun k hk => ?_⟩
            · have := be.size
              simpa using this
            · show ((wr.setCell ⟨M, 0, none⟩ (.slice gd ds.length cd)).setCell ⟨M, 1, none⟩ (.slice gb bs.length cb)).heap[k]? = _
              rw [setCell_block _ _ _ _ (by simp; omega), setCell_block _ _ _ _ (by simp; omega)]
              exact be.block k hk
          · have K0 : Keeps (fun g => X < g ∧ g < wr.heap.size) (new w ((wr.setCell ⟨M, 0, none⟩ (.slice gd ds.length cd)).setCell ⟨M, 1, none⟩ (.slice gb bs.length cb)).drew) wr ((wr.setCell ⟨M, 0, none⟩ (.slice gd ds.length cd)).setCell ⟨M, 1, none⟩ (.slice gb bs.length cb)).drew := ⟨fun g off u hg hc => by
                have h1 := (z_grown_set wr M 0 (.slice gd ds.length cd)).cell hc (fun e => by have e' : g = M := Option.some.inj e; have := hg.1; omega)
                have h2 := (z_grown_set _ M 1 (.slice gb bs.length cb)).cell h1 (fun e => by have e' : g = M := Option.some.inj e; have := hg.1; omega)
                exact h2, fun g hg => ⟨by have := hg.1; omega, by have := hg.2; simpa using this⟩⟩
            have K1 : Keeps (inn X wr (.slice gb bs.length cb)) (new w ((wr.setCell ⟨M, 0, none⟩ (.slice gd ds.length cd)).setCell ⟨M, 1, none⟩ (.slice gb bs.length cb)).drew) wr ((wr.setCell ⟨M, 0, none⟩ (.slice gd ds.length cd)).setCell ⟨M, 1, none⟩ (.slice gb bs.length cb)).drew := ⟨fun g off u hg hc => K0.cell g off u ⟨hg.1, hg.2.1⟩ hc, fun g hg => K0.ok g ⟨hg.1, hg.2.1⟩⟩
            have RB : IsRow wr (fun g => X < g ∧ g < wr.heap.size) xb bs.length (.slice gb bs.length cb) := row_of_owns OW (fun g hg => ⟨by have := (OW.lt g hg).1; omega, (OW.lt g hg).2⟩) (by omega)
            exact ⟨_, _, xb, rfl, IsRow.keeps K1 HID.out, IsRow.keeps K0 RB, isBs_keeps K1 bs xb HIB.out⟩
        · simp only [Option.isNone_some] at c3
          have hk : k < us.length := by have := congrArg List.length (a3 _ rfl); simp at this; omega
          have hlt : (k : Int) < us.length := by omega
          clear XB a3 a4 a5 O hk
          go_wp2
          go_region_held3 (fun w' => w'.cell? ⟨b, 3, none⟩ = some (.bool false) ∧ w'.cell? ⟨b, 1, none⟩ = some (.int .i64 k) ∧ w'.cell? ⟨b, 0, none⟩ = some (.slice ga us.length cap)) (go_keep) (fail)
          all_goals go_wp2
          have O := HO2.out.drew
          have hbX : b ≤ X := by omega
          have F0 := (Fr.refl b wr).drew
          have KI := keeps_inn (v := .slice gb bs.length cb) F0 hbX
          have HIB : Hid (isBs wr.drew (inn X wr.drew (.slice gb bs.length cb)) bs xb) := ⟨isBs_keeps KI bs xb HIB.out⟩
          have HID : Hid (IsRow wr.drew (inn X wr.drew (.slice gb bs.length cb)) (datC ds) ds.length (.slice gd ds.length cd)) := ⟨IsRow.keeps KI HID.out⟩
          have OW := OW.drew
          rename_i hHeld
          clear HO2 F0 KI c0 c1 c3 c4 c5 x0 x1 m0 m1 z0 z1 hHeld
          generalize wr.drew = W at *
          have BI := rbind_any (exp_allR 60 (by omega)) (k := 1) (by omega) O.rd.drew
          have x5 : W.cell? ⟨X, 1, none⟩ = some (.slice gb bs.length cb) := O.x.cell 1
          have HO : Hid (Po _ _ _ _ _ _ _ _) := ⟨O⟩
          have hvb : ∀ i, (Value.slice gb bs.length cb : Value).ownBlock = some i → i < W.drew.heap.size := fun i hi => (OW.lt i hi).2
          have hXs : X < W.heap.size := O.lts.2.2
          obtain ⟨i0, hi, hz0, hz1, hz2⟩ := info_parts info51
          have hlb2 : bs.length ≤ 16385 := by omega
          have HL : Hid (bs.length + leftO (some (t :: q)) ≤ 16385) := ⟨hl⟩
          clear O hl
          go_region_law (first
            | (refine step_append_lies _ (by rfl) _ _ _ (by rfl) (X + 1) 49 i0 _ 11 184 Tryd.underlying23 hi hz0 hz1 hz2 rfl (by decide) (.slice gb bs.length cb) bs.length xb (by rfl) (own_alloc OW4 _) ⟨_, 0, none⟩ 1 1 [.string s0, .int .i64 a0, .slice g3 n3 c3, .int .i64 k0, .int .i64 a1, .string s1, .int .i64 m1, .slice g4 n4 c4, .slice g5 n5 c5, .slice g6 n6 c6, .slice g7 n7 c7] (by rfl) rfl (World.news_of_block (heap_alloc_new _ _)) (by simp [Value.oneCell']) (by decide) (by unfold maxLen; omega) (by omega) (by simp; omega) _ rfl ?_; intro q5 cap5 w5 ho hg hat hlt; have O5 := (O4.alloc _).row (own_alloc OW4 _) hg; have y5 : w5.cell? ⟨X, 1, none⟩ = some (.slice gb bs.length cb) := O5.x.cell 1; have z5 : w5.frozen? ⟨X, 1, none⟩ = false := O5.x.z 1; have KO := keeps_old (j := 1) (u := .slice (some ⟨q5, 0, none⟩) (bs.length + 1) cap5) (m := bs.length + 1) (cap := cap5) ((Fr.refl b W).drew.trans HF4.out) hbX hg hat; have KN := keeps_new (j := 1) (u := .slice (some ⟨q5, 0, none⟩) (bs.length + 1) cap5) (m := bs.length + 1) (cap := cap5) (X := X) hvb hXs HF4.out.size hg hat; clear hg hat hlt)
            | (go_simp; go_at_call 26; refine BI.mono ?_; rintro e w4 ⟨F4, R4, x4, v4, rfl, ⟨c, rfl, I4⟩, hx4⟩; obtain ⟨k0, a1, m1, a0, s1, s0, g3, g4, g5, g6, g7, n3, n4, n5, n6, n7, c3, c4, c5, c6, c7, rfl⟩ := isB_eleven I4; have HI4 : Hid (isB _ _ _ _) := ⟨I4⟩; have HX4 : Hid (Rt _ _ _) := ⟨hx4⟩; have O4 := (HO.out.drew).call F4 R4; have OW4 := own_call (OW.drew) F4 hbX; have HF4 : Hid (Fr b W.drew w4) := ⟨F4⟩; have y4 : w4.cell? ⟨X, 1, none⟩ = some (.slice gb bs.length cb) := O4.x.cell 1; have lt4 := O4.lts.2.2; clear F4 R4 I4 hx4))
          all_goals go_wp2
          all_goals
            have hlt := left_lt (bind_eats 60) (t :: q)
            refine ⟨⟨bs ++ [x4], _, .slice (some ⟨q5, 0, none⟩) (bs.length + 1) cap5, xb ++ [.string s0, .int .i64 a0, .slice g3 n3 c3, .int .i64 k0, .int .i64 a1, .string s1, .int .i64 m1, .slice g4 n4 c4, .slice g5 n5 c5, .slice g6 n6 c6, .slice g7 n7 c7], O5.store 1 _, ⟨BinJ.more HJ.out HX4.out⟩, by have := HL.out; rw [List.length_append]; simp only [List.length_cons, List.length_nil]; omega, by rw [List.length_append]; exact own_store ho 1 _, ⟨isBs_snoc bs x4 xb _ (isBs_keeps KO bs xb HIB.out) (isB_keeps KN x4 _ HI4.out)⟩, ⟨IsRow.keeps KO HID.out⟩⟩, ?_⟩
            rw [(O5.store 1 _).rd.mz, HM.out]
            exact hlt
theorem rparse_any (s : ByteArray) (w : World) (L : Laid w) : Calls Tryd.prog 11 #[.string s] w (ParsesR s.data.toList w) := by
  rcases hs : scanAll s.data.toList with ⟨a, c⟩ | ts
  · exact rparse_bad s w L hs
  · exact rparse_good s w L hs

end Go.Proofs.YtcbdolflgpmaoaaDoor

