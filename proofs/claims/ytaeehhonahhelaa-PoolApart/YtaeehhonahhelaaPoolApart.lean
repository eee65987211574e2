/-
  The statement PoolApart: for every number of blocks and every list of calls, groups and runs are apart, and together all blocks.
  Conditions: none on the input.
-/
import Derived.Test.YtaeehhonahhelaaMade
import Derived.Test.YtaeehhonahhelaaOnto
import Derived.Test.YtaeehhonahhelaaCover
namespace Go.Proofs.Ytaeehhonahhelaa.poolApart
open Go.ChangeShapes Go.WideShapes Go.ChangeAt Go.RowKit
set_option linter.unusedVariables false

theorem sl_form {w : World} {v : Value} {xs : List Int} (h : Sl w v xs) : ∃ ao c, v = .slice ao xs.length c ∧ ∀ j, j < xs.length → ∃ g, ao = some ⟨g, 0, none⟩ ∧ g < w.heap.size ∧ w.cell? ⟨g, j, none⟩ = some (.int .i64 (xs.getD j 0)) := by
  rcases h with ⟨rfl, rfl⟩ | ⟨g, c, rfl, h1, h2⟩
  · exact ⟨none, 0, rfl, fun j hj => by simp at hj⟩
  · exact ⟨_, c, rfl, fun j hj => ⟨g, rfl, h1, h2 j hj⟩⟩
theorem kept_far {w w' : World} {n S : Nat} {v : Value} {m : Nat} {xs : List Value} {r : Option Nat} (h : w.ownsRow n 3 1 v m xs) (G : w.grownBy w' r) (hr : ∀ g, r = some g → g < S) (hS : S ≤ n) : w'.ownsRow n 3 1 v m xs := by
  refine h.kept G ?_
  cases hv : v.ownBlock with
  | none => exact .inl rfl
  | some g => exact .inr (fun e => by have := hr g e.symm; have := (h.lt g hv).1; omega)
theorem alloc1 (w : World) (o : Obj) : Below w.heap.size w (w.alloc o) := (Below.refl _ w).alloc (Nat.le_refl _) _
theorem grown_drewN (w : World) (n : Nat) (r : Option Nat) : w.grownBy (w.drewN n) r := ⟨rfl, rfl, rfl, Nat.le_refl _, fun _ _ _ => rfl⟩
/-- A row of numbers in a block. -/
def Row1 (w : World) (M : Nat) (g : Nat → Int) (N : Nat) : Prop := w.heap[M]? = some (.cells (row g N).toArray 3 (0, 0))
theorem Row1.num {w : World} {M N : Nat} {g : Nat → Int} (h : Row1 w M g N) (i : Nat) (hi : i < N) : w.cell? ⟨M, i, none⟩ = some (.int .i64 (g i)) := by
  rw [Joins.cell_of_block h, List.getElem?_toArray, row_get g N i hi]
theorem Row1.free {w : World} {M N : Nat} {g : Nat → Int} (h : Row1 w M g N) (i : Nat) : w.frozen? ⟨M, i, none⟩ = false := Joins.unfrozen_of_block h i
theorem Row1.put {w : World} {M N : Nat} {g : Nat → Int} (h : Row1 w M g N) (i : Nat) (v : Int) : Row1 (w.setCell ⟨M, i, none⟩ (.int .i64 v)) M (mark g i 1 v) N := by
  unfold Row1
  rw [Joins.block_setCell h, row_set]
  simp
theorem Row1.congr {w : World} {M N : Nat} {g g' : Nat → Int} (h : Row1 w M g N) (e : ∀ k, g k = g' k) : Row1 w M g' N := by
  have : g = g' := funext e
  rw [← this]
  exact h

/-- The two lists of groups with the two lists of runs behind them. -/
theorem two_onto {w7 w8 w9 : World} {n5 n7 S : Nat} {va vb vc vd va' vb' : Value} {xs ys us vs : List Int} (L5 : Lists w7 n5 va vb xs ys) (L7 : Lists w7 n7 vc vd us vs) (hS : ∀ g, (va.ownBlock = some g ∨ vb.ownBlock = some g) → g < S) (hn : S ≤ n7)
    (A : w8.ownsRow n5 3 1 va' (xs ++ us).length (ints (xs ++ us))) (GA : w7.grownBy w8 va.ownBlock) (EA : va'.ownBlock = va.ownBlock ∨ va'.ownBlock = some w7.heap.size)
    (B : w9.ownsRow n5 3 1 vb' (ys ++ vs).length (ints (ys ++ vs))) (GB : w8.grownBy w9 vb.ownBlock) :
    w9.ownsRow n5 3 1 va' (xs ++ us).length (ints (xs ++ us)) ∧ (∀ k, k < n5 → k < w7.heap.size → w9.heap[k]? = w7.heap[k]?) ∧ Below n5 w7 w9 := by
  have blk : ∀ k, k < n5 → k < w7.heap.size → w9.heap[k]? = w7.heap[k]? := by
    intro k h1 h2
    have e1 := GA.block k h2 (fun e => by have := L5.oa.lt k e.symm; omega)
    have e2 := GB.block k (Nat.lt_of_lt_of_le h2 GA.size) (fun e => by have := L5.ob.lt k e.symm; omega)
    exact e2.trans e1
  refine ⟨A.kept GB ?_, blk, ⟨GB.os.trans GA.os, GB.tape.trans GA.tape, GB.output.trans GA.output, Nat.le_trans GA.size GB.size, fun k hk => ?_⟩⟩
  · by_cases e : va'.ownBlock = none
    · exact .inl e
    · right
      intro q
      rcases EA with r | r
      · rcases L5.ap with a | a
        · rw [q, a] at e; exact e rfl
        · exact a (by rw [← q, r])
      · rw [q] at r
        have := (L5.ob.lt _ r).2
        omega
  · rcases Nat.lt_or_ge k w7.heap.size with h | h
    · exact blk k hk h
    · have := L5.sz; omega

set_option maxRecDepth 100000 in
set_option maxHeartbeats 16000000 in
theorem walk (a0 : Int) (ad : Option Addr) (len cap : Nat) (w : World) (h0 : 0 ≤ a0 ∧ a0 ≤ 255) (hl : IsActs w ad len) :
    Calls Try.prog 4 #[.int .u8 a0, .slice ad len cap] w fun e w' => e = .returned (.bool true) ∧ Below w.heap.size w w' := by
  obtain ⟨k, rfl⟩ : ∃ k : Nat, a0 = k := ⟨a0.toNat, by omega⟩
  have MD := made_any k (by omega) ad len cap w hl
  have hk : k ≤ 255 := by omega
  clear hl h0
  have hmk := Go.run_make_row' (P := Try.prog) 38 3 (.int .i64 0) 8 Try.underlying38 info3 rfl .i64 .i64 (k + 1) (by omega) (by omega)
  rw [made_nums] at hmk
  rw [show ((k + 1 : Nat) : Int) = (k : Int) + 1 by omega] at hmk
  go_enter Try.func4, Try.ntmps4
  go_wp2_with (first
    | (go_at_call 14; refine MD.mono ?_; rintro e w1 ⟨rfl, ⟨f, H1, G⟩, B1⟩; clear MD)
    | (go_at_call 11; refine (awake_any w1).mono ?_; rintro e w2 ⟨rfl, B2⟩))
  have H3 := (H1.later B2).later (alloc1 w2 (.cells (row (fun _ => 0) (k + 1)).toArray 3))
  have D3 := (B1.trans (B2.mono B1.size)).trans ((alloc1 w2 (.cells (row (fun _ => 0) (k + 1)).toArray 3)).mono (Nat.le_trans B1.size B2.size))
  have M3 : Row1 (w2.alloc (.cells (row (fun _ => 0) (k + 1)).toArray 3)) w2.heap.size (fun _ => 0) (k + 1) := heap_alloc_new _ _
  have z3 : (w2.alloc (.cells (row (fun _ => 0) (k + 1)).toArray 3)).heap.size = w2.heap.size + 1 := World.size_alloc _ _
  obtain ⟨w3, hw3⟩ : ∃ w3, w2.alloc (.cells (row (fun _ => 0) (k + 1)).toArray 3) = w3 := ⟨_, rfl⟩
  have zb : w.heap.size + 1 ≤ w2.heap.size := Nat.le_trans (Nat.le_of_lt H1.lt.1) B2.size
  rw [hw3] at H3 D3 M3 z3 ⊢
  obtain ⟨M, hM⟩ : ∃ M, w2.heap.size = M := ⟨_, rfl⟩
  rw [hM] at M3 z3 zb ⊢
  have MM : Hid (Row1 w3 M (fun _ => 0) (k + 1)) := M3
  have DD : Hid (Below w.heap.size w w3) := D3
  have Z3 : Hid (w3.heap.size = M + 1) := z3
  clear hmk hw3 hM B1 B2 H1 M3 D3 z3
  go_wp2_with (first
    | (go_at_call 16; refine (groups_ok H3).mono ?_; rintro e w4 ⟨Z4, rfl, Q4, B4⟩; have H4 := H3.later B4; have P4 := pairs_ok Q4; clear H3)
    | (go_at_call 15; refine P4.mono ?_; clear P4; rintro e w5 ⟨va, vb, n5, rfl, hn5, L5, B5⟩; have H5 := H4.later B5)
    | (go_at_call 17; refine (runs_ok H5).mono ?_; rintro e w6 ⟨Z6, rfl, Q6, B6⟩; have P6 := pairs_ok Q6)
    | (go_at_call 15; refine P6.mono ?_; clear P6; rintro e w7 ⟨vc, vd, n7, rfl, hn7, L7, B7⟩; have B67 := B6.trans (B7.mono B6.size); have L57 := L5.later B67; have pf := parts_len f (k + 1) false; have pt := parts_len f (k + 1) true; have hS : ∀ g, (va.ownBlock = some g ∨ vb.ownBlock = some g) → g < w5.heap.size := (fun g hg => by rcases hg with e | e <;> first | exact (L5.oa.lt g e).2 | exact (L5.ob.lt g e).2); have HS : Hid (∀ g, (va.ownBlock = some g ∨ vb.ownBlock = some g) → g < w5.heap.size) := hS; clear hS)
    | (at_builtin; refine wpList_onto rfl (.tmp 41) (.tmp 42) rfl (va := va) (vc := vc) rfl rfl L57.oa (sl_of L7.oa) (by rw [fs_length, fs_length]; omega) L57.sz ?_; intro va' w8 A GA EA)
    | (at_builtin; refine wpList_onto rfl (.tmp 44) (.tmp 45) rfl (va := vb) (vc := vd) rfl rfl (L57.ob.kept GA L57.ap) (sl_of (kept_far L7.ob GA (fun g e => HS.out g (.inl e)) (Nat.le_trans B6.size hn7))) (by rw [ns_length, ns_length]; omega) (Nat.le_trans L57.sz GA.size) ?_; intro vb' w9 Bv GB EB))
  obtain ⟨A9, blk, Bl⟩ := two_onto L57 L7 HS.out (Nat.le_trans B6.size hn7) A GA EA Bv GB
  have nM : M < n5 := by have := Z3.out; have := B4.size; omega
  have s37 : w3.heap.size ≤ w7.heap.size := Nat.le_trans B4.size (Nat.le_trans B5.size B67.size)
  have C37 : Below w3.heap.size w3 w7 := (B4.trans (B5.mono B4.size)).trans (B67.mono (Nat.le_trans B4.size B5.size))
  have M9 : Row1 w9 M (fun _ => 0) (k + 1) := (blk M nM (by have := Z3.out; omega)).trans ((C37.block M (by have := Z3.out; omega)).trans MM.out)
  have D9 : Below w.heap.size w w9 := (DD.out.trans (C37.mono DD.out.size)).trans (Bl.mono (by omega))
  have efs : fs (parts f (k + 1) false) ++ fs (parts f (k + 1) true) = fs (parts f (k + 1) false ++ parts f (k + 1) true) := by simp [fs]
  have ens : ns (parts f (k + 1) false) ++ ns (parts f (k + 1) true) = ns (parts f (k + 1) false ++ parts f (k + 1) true) := by simp [ns]
  rw [efs] at A9
  rw [ens] at Bv
  have ca0 : ∀ t, t < k + 1 → cov (parts f (k + 1) false ++ parts f (k + 1) true) t = 1 := fun t ht => cov_all f ht
  have mem0 : ∀ s, s ∈ parts f (k + 1) false ++ parts f (k + 1) true → s.1 + s.2 ≤ k + 1 := by
    intro s hs
    rcases List.mem_append.1 hs with h | h
    all_goals
      obtain ⟨h1, h2, _⟩ := parts_mem h
      have := tog_le f (i := s.1) (N := k + 1) (by omega)
      omega
  obtain ⟨L, hL⟩ : ∃ L, parts f (k + 1) false ++ parts f (k + 1) true = L := ⟨_, rfl⟩
  have ll : L.length ≤ 1000 := by rw [← hL, List.length_append]; omega
  rw [hL] at A9 Bv ca0 mem0
  obtain ⟨ao, c, hva, ca⟩ := sl_form (sl_of A9)
  obtain ⟨bo, c', hvb, cb⟩ := sl_form (sl_of Bv)
  subst hva
  subst hvb
  rw [fs_length] at ca A9 ⊢
  rw [ns_length] at cb Bv ⊢
  have ga0 : ∀ g, ao = some ⟨g, 0, none⟩ → g ≠ M := fun g e => by subst e; have := (A9.lt g rfl).1; omega
  have gb0 : ∀ g, bo = some ⟨g, 0, none⟩ → g ≠ M := fun g e => by subst e; have := (Bv.lt g rfl).1; omega
  have CA : Hid (∀ j, j < L.length → ∃ g, ao = some ⟨g, 0, none⟩ ∧ g < w9.heap.size ∧ w9.cell? ⟨g, j, none⟩ = some (.int .i64 ((fs L).getD j 0))) := ca
  have CB : Hid (∀ j, j < L.length → ∃ g, bo = some ⟨g, 0, none⟩ ∧ g < w9.heap.size ∧ w9.cell? ⟨g, j, none⟩ = some (.int .i64 ((ns L).getD j 0))) := cb
  have C1 : Hid (∀ t, t < k + 1 → cov L t = 1) := ca0
  have C2 : Hid (∀ s, s ∈ L → s.1 + s.2 ≤ k + 1) := mem0
  have GA0 : Hid (∀ g, ao = some ⟨g, 0, none⟩ → g ≠ M) := ga0
  have GB0 : Hid (∀ g, bo = some ⟨g, 0, none⟩ → g ≠ M) := gb0
  have D : Hid (Below w.heap.size w w9) := D9
  clear ca cb ca0 mem0 ga0 gb0 D9 A9 Bv A GA EA GB EB blk Bl C37 hL efs ens L57 L5 L7 B4 B5 B6 B7 B67 H4 H5 Q4 Q6 hn5 hn7 HS
  obtain ⟨m, hm⟩ : ∃ m, L.length = m := ⟨_, rfl⟩
  rw [hm] at CA CB ll ⊢
  go_loopw [12] (fun i wr => ∃ (j : Nat) (pre post : List (Nat × Nat)), pre.length = j ∧ pre ++ post = L ∧ i = .int .i64 j ∧ Row1 wr M (met pre) (k + 1) ∧ w9.grownBy wr (some M)) (fun i _ => m - (intOf i).toNat)
  case atStart => exact ⟨0, [], L, rfl, rfl, rfl, M9, grown_refl _ _⟩
  case round =>
    obtain ⟨j, pre, post, hp1, hp2, rfl, MR, GR⟩ := hrel
    clear M9
    cases post with
    | cons s post =>
      have lj : j < m := by rw [← hm, ← hp2]; simp; omega
      obtain ⟨ga, rfl, lga, cga⟩ := CA.out j lj
      obtain ⟨gb, rfl, lgb, cgb⟩ := CB.out j lj
      have na := GA0.out ga rfl
      have nb := GB0.out gb rfl
      have e1 : (fs L).getD j 0 = s.1 := by rw [← hp2, ← hp1]; simp [fs]
      have e2 : (ns L).getD j 0 = s.2 := by rw [← hp2, ← hp1]; simp [ns]
      rw [e1] at cga
      rw [e2] at cgb
      have sb := C2.out s (by rw [← hp2]; simp)
      obtain ⟨x, y⟩ := s
      simp only at cga cgb sb
      have FA : Hid (∀ W : World, w9.grownBy W (some M) → W.cell? ⟨ga, j, none⟩ = some (.int .i64 x) ∧ W.cell? ⟨gb, j, none⟩ = some (.int .i64 y)) := fun W G0 => ⟨(World.grownBy.cell_far G0 ⟨ga, j, none⟩ lga (by simp; omega)).trans cga, (World.grownBy.cell_far G0 ⟨gb, j, none⟩ lgb (by simp; omega)).trans cgb⟩
      obtain ⟨f1, f2⟩ := FA.out _ GR
      have MS : Row1 wr M (metTo pre x x) (k + 1) := MR.congr (metTo_start pre x)
      have HP : Hid (pre ++ (x, y) :: post = L) := hp2
      have GR0 : Hid (w9.grownBy wr (some M)) := GR
      clear e1 e2 cga cgb MR hp2 GR
      go_wp2
      go_loopw [13] (fun q wr => ∃ t : Nat, x ≤ t ∧ t ≤ x + y ∧ q = .int .i64 t ∧ Row1 wr M (metTo pre x t) (k + 1) ∧ w9.grownBy wr (some M)) (fun q _ => x + y - (intOf q).toNat)
      case atStart => exact ⟨x, Nat.le_refl _, by omega, rfl, MS, GR0.out⟩
      case round =>
        obtain ⟨t, ht1, ht2, rfl, MQ, GQ⟩ := hrel
        clear MS f1 f2
        obtain ⟨f1, f2⟩ := FA.out _ GQ
        by_cases hlt : t < x + y
        · have cm := MQ.num t (by omega)
          have fz := MQ.free t
          have bv : 0 ≤ metTo pre x t t ∧ metTo pre x t t ≤ 1000 := by
            have := cov_le pre t
            unfold metTo met
            rw [if_neg (by omega)]
            omega
          have P := fun nq => (Row1.put (w := wr.drewN nq) MQ t (metTo pre x t t + 1)).congr (metTo_next pre x t ht1)
          obtain ⟨v, hv⟩ : ∃ v, metTo pre x t t = v := ⟨_, rfl⟩
          rw [hv] at cm bv P
          have b1 := bv.1
          have b2 := bv.2
          have HPP : Hid (∀ nq, Row1 ((wr.drewN nq).setCell ⟨M, t, none⟩ (.int .i64 (v + 1))) M (metTo pre x (t + 1)) (k + 1)) := P
          have GQ0 : Hid (w9.grownBy wr (some M)) := GQ
          clear hv P bv GQ
          have tk : (t : Int) < (k : Int) + 1 := by omega
          have tk2 : ¬ ((k : Int) + 1 ≤ t) := by omega
          go_wp2
          go_quiet (fail)
          go_wp2
          go_roundw
          case rel => exact ⟨t + 1, by omega, by omega, by go_num, HPP.out _, grown_trans GQ0.out (grown_trans (grown_drewN _ _ _) (grown_set _ _ _ _))⟩
          case measure => simp [intOf]; omega
        · obtain rfl : t = x + y := by omega
          have ME := MQ.congr (metTo_end pre (x, y))
          have GQ0 : Hid (w9.grownBy wr (some M)) := GQ
          clear GQ
          go_wp2
          go_quiet (fail)
          go_wp2
          go_roundw
          case rel => exact ⟨j + 1, pre ++ [(x, y)], post, by simp [hp1], by simpa using HP.out, by go_num, ME, grown_trans GQ0.out (grown_drewN _ _ _)⟩
          case measure => simp [intOf]; omega
    | nil =>
      have lj : j = m := by rw [← hm, ← hp2]; simp [hp1]
      subst lj
      rw [List.append_nil] at hp2
      subst hp2
      have DR := grown_own D.out GR (by omega)
      have HM : Hid (∀ t, t < k + 1 → wr.cell? ⟨M, t, none⟩ = some (.int .i64 1)) := fun t ht => by
        rw [MR.num t ht]
        unfold met
        rw [C1.out t ht]
        rfl
      clear MR GR
      go_wp2
      go_loop [14] (fun q => ∃ t : Nat, t ≤ k + 1 ∧ q = .int .i64 t) (fun q => k + 1 - (intOf q).toNat)
      case atStart => exact ⟨0, Nat.zero_le _, rfl⟩
      case round =>
        obtain ⟨t, ht, rfl⟩ := hrel
        by_cases hlt : t < k + 1
        · have cm := HM.out t hlt
          have tk : (t : Int) < (k : Int) + 1 := by omega
          go_wp2
          go_round
          case rel => exact ⟨t + 1, by omega, by go_num⟩
          case measure => simp [intOf]; omega
        · obtain rfl : t = k + 1 := by omega
          go_wp2
          go_ret
          exact ⟨rfl, DR⟩


set_option maxRecDepth 100000 in
theorem lifted (os : Os) (started : os.Started) (H : Type) (enc : TypeId × Value → H) :
    ReturnsInHanded {} Try.checked os 4 .any (Rows.poolApartSpec.pre6 enc Try.prog Try.f4 Rows.poolApartRow.domain false) (Rows.poolApartSpec.post enc Try.prog Try.f4 false true false false) := by
  refine returnsInHanded_of_change (C := Try.checked) own started (by kernel_rfl) Try.func4
    (ChangeSpec.witness6 (enc := enc) (C := Try.checked) false ⟨#[], #[.int .u8 0, .slice none 0 0], []⟩ 8 (by kernel_rfl) (by kernel_rfl) (by kernel_rfl) (by kernel_rfl)) ?_
  intro W base args ds gs before hval0 hW hcnd _
  have hval : ∀ (j : Nat) t v, Try.f4.params[j]? = some t → args[j]? = some v → Value.okWide Try.prog W .any base t v := hval0
  have hW' := hW
  obtain ⟨p, q, hA0, hV, rfl, hfz, hnd⟩ := hW
  have hA : DataW.TrodAll enc Try.prog W 0 (fun _ => true) true Try.f4.params.toList args.toList ds p := hA0
  rw [Try.params4] at hA hval
  obtain ⟨v0, vs0, d0, ds0, p0, q0, hargs, rfl, rfl, h0, r0⟩ := trodAll_cons hA
  obtain ⟨v1, vs1, d1, ds1, p1, q1, rfl, rfl, rfl, h1, r1⟩ := trodAll_cons r0
  obtain ⟨rfl, rfl, rfl⟩ := trodAll_nil r1
  obtain rfl : args = #[v0, v1] := by cases args; simp_all
  obtain ⟨rfl, rfl⟩ := trodVars_none hV
  have t0 := h0
  have lt0 : ∀ x ∈ p0, x.block < W.heap.size := by obtain ⟨m, hm⟩ := t0; exact DataW.trod_lt m _ _ _ hm
  obtain ⟨a0, rfl, hd0, hp0, w0⟩ := open_int Try.underlying5 (hval 0 5 v0 rfl rfl) h0
  have t1 := h1
  have lt1 : ∀ x ∈ p1, x.block < W.heap.size := by obtain ⟨m, hm⟩ := t1; exact DataW.trod_lt m _ _ _ hm
  obtain ⟨ad1, len1, cap1, rfl⟩ := okWide_slice Try.underlying22 (hval 1 22 v1 rfl rfl)
  have w1 := open_acts h1
  clear hA0 hval0
  refine (walk a0 ad1 len1 cap1 W (bounds_u8 w0) w1).mono fun e W' ⟨he, bel⟩ => ?_
  subst he
  exact ⟨_, rfl, _, _, _, [], _, [], hW', trodAll_mk1 (shut_bool Try.underlying4 _), (trodAll_cons_mk (Below.trod laidOut (by kernel_rfl) (of_decide_eq_true (by kernel_rfl)) t0 bel lt0) (trodAll_cons_mk (Below.trod laidOut (by kernel_rfl) (of_decide_eq_true (by kernel_rfl)) t1 bel lt1) trodAll_mk0)), rfl, bel.frame _, fun h => by cases h⟩

theorem over : Rows.poolApartRow.holds Try.pinned (OpenSpec.ofChange Rows.poolApartSpec) :=
  OpenClaim.holds_of_wide 4 Try.f4 rfl rfl rfl rfl rfl rfl rfl ⟨rfl, rfl, rfl, rfl, rfl⟩ rfl rfl rfl rfl rfl (by kernel_rfl) Try.func4 (by kernel_rfl)
    (of_decide_eq_true (by kernel_rfl)) (by unfold Func.isWrapper; first | (rw [if_pos (by decide +kernel)]; kernel_rfl) | (rw [if_neg (by decide +kernel)]; exact ⟨rfl, rfl⟩))
    (fun os started H enc _ => lifted os started H enc)
end Go.Proofs.Ytaeehhonahhelaa.poolApart

namespace Go.Proofs.Ytaeehhonahhelaa
theorem poolApart_holds : Rows.PoolApartSaid := poolApart.over
#print axioms poolApart_holds
end Go.Proofs.Ytaeehhonahhelaa
