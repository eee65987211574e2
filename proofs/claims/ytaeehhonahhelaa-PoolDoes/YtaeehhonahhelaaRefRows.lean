/- The document's own scan of a row: the two lists that it makes are the row's parts. -/
import Derived.Test.YtaeehhonahhelaaRef
import Derived.Test.YtaeehhonahhelaaPairs
import Derived.Test.YtaeehhonahhelaaSame
import Derived.OneCell
namespace Go.Proofs.Ytaeehhonahhelaa
open Go.RowKit
set_option linter.unusedVariables false

theorem lists_push {w W0 w1 W1 w2 : World} {n : Nat} {xs ys : List Int} {x y : Int} {va vb : Value} {q1 cap1 q2 cap2 : Nat} (L : Lists w n va vb xs ys)
    (B0 : w.grownBy W0 none) (G1 : W0.grownBy w1 va.ownBlock) (B1 : w1.grownBy W1 none) (G2 : W1.grownBy w2 vb.ownBlock)
    (o1 : w1.ownsRow n 3 1 (.slice (some ⟨q1, 0, none⟩) (xs.length + 1) cap1) (xs.length + 1) (ints xs ++ [.int .i64 x])) (a1 : va.ownBlock = some q1 ∨ q1 = W0.heap.size) (l1 : q1 < w1.heap.size)
    (o2 : w2.ownsRow n 3 1 (.slice (some ⟨q2, 0, none⟩) (ys.length + 1) cap2) (ys.length + 1) (ints ys ++ [.int .i64 y])) (a2 : vb.ownBlock = some q2 ∨ q2 = W1.heap.size) :
    Lists w2 n (.slice (some ⟨q1, 0, none⟩) (xs.length + 1) cap1) (.slice (some ⟨q2, 0, none⟩) (ys.length + 1) cap2) (xs ++ [x]) (ys ++ [y]) ∧ Below n w w2 := by
  obtain ⟨oa, ob, ap, sz⟩ := L
  have s0 := B0.size
  have s1 := G1.size
  have s2 := B1.size
  have s3 := G2.size
  have old : ∀ k, k < n → w2.heap[k]? = w.heap[k]? := by
    intro k hk
    have e1 : W0.heap[k]? = w.heap[k]? := B0.block k (by omega) (by simp)
    have e2 : w1.heap[k]? = W0.heap[k]? := G1.block k (by omega) (fun e => by have := oa.lt k e.symm; omega)
    have e3 : W1.heap[k]? = w1.heap[k]? := B1.block k (by omega) (by simp)
    have e4 : w2.heap[k]? = W1.heap[k]? := G2.block k (by omega) (fun e => by have := ob.lt k e.symm; omega)
    exact e4.trans (e3.trans (e2.trans e1))
  have nq : vb.ownBlock ≠ some q1 := by
    intro e
    have lb := ob.lt q1 e
    rcases a1 with h | h
    · rcases ap with h' | h'
      · rw [h'] at e; cases e
      · exact h' (by rw [e, h])
    · omega
  have o1' : w2.ownsRow n 3 1 (.slice (some ⟨q1, 0, none⟩) (xs.length + 1) cap1) (xs.length + 1) (ints xs ++ [.int .i64 x]) := (o1.kept B1 (Classical.em _)).kept G2 (.inr (fun e => nq e.symm))
  have qq : q2 ≠ q1 := by
    rcases a2 with h | h
    · intro e; rw [e] at h; exact nq h
    · omega
  refine ⟨⟨?_, ?_, .inr ?_, by omega⟩, ⟨?_, ?_, ?_, by omega, old⟩⟩
  · rw [ints_snoc, List.length_append]; exact o1'
  · rw [ints_snoc, List.length_append]; exact o2
  · simp [Value.ownBlock]; exact qq
  · exact G2.os.trans (B1.os.trans (G1.os.trans B0.os))
  · exact G2.tape.trans (B1.tape.trans (G1.tape.trans B0.tape))
  · exact G2.output.trans (B1.output.trans (G1.output.trans B0.output))

/-- The last of a list of numbers that a slice of its own holds, written anew. -/
theorem own_last {w : World} {n g m c : Nat} {zs : List Int} {y v : Int} (h : w.ownsRow n 3 1 (.slice (some ⟨g, 0, none⟩) (m + 1) c) (m + 1) (ints (zs ++ [y]))) (hm : zs.length = m) :
    (w.setCell ⟨g, m, none⟩ (.int .i64 v)).ownsRow n 3 1 (.slice (some ⟨g, 0, none⟩) (m + 1) c) (m + 1) (ints (zs ++ [v])) := by
  rcases h.2 with ⟨e0, _⟩ | ⟨g', cap', cur, e0, hb, hg, hn, hM, hs, ht⟩
  · cases e0
  · injection e0 with e1 _ e3
    injection e1 with e1
    injection e1 with e1
    subst e1 e3
    refine ⟨by simp [ints]; omega, .inr ⟨g, c, _, rfl, hb, Joins.block_setCell hg _, hn, hM, by simpa using hs, ?_⟩⟩
    apply List.ext_getElem?
    intro j
    have e : ∀ j, j < m + 1 → cur.toList[j]? = (ints (zs ++ [y]))[j]? := by
      intro j hj
      rw [← ht, Nat.mul_one, List.getElem?_take_of_lt hj]
    rw [Nat.mul_one]
    by_cases hj : j < m + 1
    · rw [List.getElem?_take_of_lt hj]
      by_cases q : m = j
      · subst q
        simp [ints, ← hm, show zs.length < cur.size by omega]
      · have e1 := e j hj
        rw [Array.toList_setIfInBounds, List.getElem?_set, if_neg q, e1]
        simp [ints, List.getElem?_append_left (show j < (zs.map (Value.int .i64)).length by simp; omega)]
    · rw [List.getElem?_eq_none (by simp; omega), List.getElem?_eq_none (by simp [ints]; omega)]
theorem lists_bump {w : World} {n g m c : Nat} {va : Value} {xs zs : List Int} {y v : Int} (L : Lists w n va (.slice (some ⟨g, 0, none⟩) (m + 1) c) xs (zs ++ [y])) (hm : zs.length = m) :
    Lists (w.setCell ⟨g, m, none⟩ (.int .i64 v)) n va (.slice (some ⟨g, 0, none⟩) (m + 1) c) xs (zs ++ [v]) ∧ Below n w (w.setCell ⟨g, m, none⟩ (.int .i64 v)) := by
  obtain ⟨oa, ob, ap, sz⟩ := L
  have ob1 : w.ownsRow n 3 1 (.slice (some ⟨g, 0, none⟩) (m + 1) c) (m + 1) (ints (zs ++ [y])) := by simpa [hm] using ob
  have gl := (ob1.lt g rfl).1
  refine ⟨⟨?_, by simpa [hm] using own_last ob1 hm, ap, by simpa using sz⟩, (Below.refl _ w).setCell gl _⟩
  refine ownsRow_setCell_other oa ?_ _
  rcases ap with h | h
  · simp [Value.ownBlock] at h
  · exact fun e => h (by rw [e]; rfl)
/-- The two slices of lists that aren't empty. -/
theorem lists_open {w : World} {n : Nat} {va vb : Value} {xs ys : List Int} {x y : Int} (L : Lists w n va vb (xs ++ [x]) (ys ++ [y])) (e : xs.length = ys.length) :
    ∃ g c g' c', va = .slice (some ⟨g, 0, none⟩) (xs.length + 1) c ∧ vb = .slice (some ⟨g', 0, none⟩) (xs.length + 1) c' ∧ w.cell? ⟨g, xs.length, none⟩ = some (.int .i64 x) ∧ w.cell? ⟨g', xs.length, none⟩ = some (.int .i64 y) ∧ w.frozen? ⟨g', xs.length, none⟩ = false := by
  rcases sl_of L.oa with ⟨_, h⟩ | ⟨g, c, rfl, _, hc⟩
  · simp at h
  rcases sl_of L.ob with ⟨_, h⟩ | ⟨g', c', rfl, _, hc'⟩
  · simp at h
  refine ⟨g, c, g', c', by simp, by simp [e], ?_, ?_, ?_⟩
  · have := hc xs.length (by simp)
    simpa using this
  · have := hc' ys.length (by simp)
    rw [e]
    simpa using this
  · rcases L.ob.2 with ⟨h, _⟩ | ⟨g2, cap, cur, hv, hb, hg, _⟩
    · cases h
    · injection hv with e1
      injection e1 with e1
      injection e1 with e1
      subst e1
      exact Joins.unfrozen_of_block hg _
theorem lists_none {w : World} {n : Nat} {va vb : Value} (L : Lists w n va vb [] []) : ∃ a c a' c', va = .slice a 0 c ∧ vb = .slice a' 0 c' := by
  rcases sl_of L.oa with ⟨h, _⟩ | ⟨g, c, h, _, hc⟩ <;> rcases sl_of L.ob with ⟨h', _⟩ | ⟨g', c', h', _, hc'⟩ <;> exact ⟨_, _, _, _, h, h'⟩
theorem fs_snoc (l : List (Nat × Nat)) (a t : Nat) : fs (l ++ [(a, t)]) = fs l ++ [(a : Int)] := by simp [fs]
theorem ns_snoc (l : List (Nat × Nat)) (a t : Nat) : ns (l ++ [(a, t)]) = ns l ++ [(t : Int)] := by simp [ns]

/-- What the scan has at block k. -/
structure Scans (w : World) (va vb : Value) (l : List (Nat × Nat)) (w' : World) : Prop where
  ls : Lists w' w.heap.size va vb (fs l) (ns l)
  bel : Below w.heap.size w w'
theorem g1N (w : World) (q : Nat) (o : Obj) : w.grownBy ((w.drewN q).alloc o) none := ⟨rfl, rfl, rfl, by simp, fun k hk _ => Below.heap_alloc _ _ _ hk⟩
theorem Scans.skip {w wr : World} {va vb : Value} {l l' : List (Nat × Nat)} (S : Scans w va vb l wr) (e : l' = l) : Scans w va vb l' wr := e ▸ S
theorem scans_push {w wr W0 w1 W1 w2 : World} {l l' : List (Nat × Nat)} {k : Nat} {va vb : Value} {q1 cap1 q2 cap2 : Nat} (S : Scans w va vb l wr) (e : l' = l ++ [(k, 1)])
    (B0 : wr.grownBy W0 none) (G1 : W0.grownBy w1 va.ownBlock) (B1 : w1.grownBy W1 none) (G2 : W1.grownBy w2 vb.ownBlock)
    (o1 : w1.ownsRow w.heap.size 3 1 (.slice (some ⟨q1, 0, none⟩) ((fs l).length + 1) cap1) ((fs l).length + 1) (ints (fs l) ++ [.int .i64 k])) (a1 : va.ownBlock = some q1 ∨ q1 = W0.heap.size) (l1 : q1 < w1.heap.size)
    (o2 : w2.ownsRow w.heap.size 3 1 (.slice (some ⟨q2, 0, none⟩) ((ns l).length + 1) cap2) ((ns l).length + 1) (ints (ns l) ++ [.int .i64 1])) (a2 : vb.ownBlock = some q2 ∨ q2 = W1.heap.size) :
    Scans w (.slice (some ⟨q1, 0, none⟩) ((fs l).length + 1) cap1) (.slice (some ⟨q2, 0, none⟩) ((ns l).length + 1) cap2) l' w2 := by
  obtain ⟨L2, B2⟩ := lists_push S.ls B0 G1 B1 G2 o1 a1 l1 o2 a2
  subst e
  exact ⟨by rw [fs_snoc, ns_snoc]; exact L2, S.bel.trans B2⟩
theorem own_second {w W0 w1 : World} {n : Nat} {va vb : Value} {xs ys : List Int} (L : Lists w n va vb xs ys) (B0 : w.grownBy W0 none) (G1 : W0.grownBy w1 va.ownBlock) : w1.ownsRow n 3 1 vb ys.length (ints ys) :=
  (L.ob.kept B0 (Classical.em _)).kept G1 L.ap

set_option maxRecDepth 100000 in
set_option maxHeartbeats 8000000 in
theorem rrows_ok {w : World} {p b N c : Nat} {f : Nat → Int} (h : Ref w p b f N c) (G : Good f N) (r : Bool) :
    Calls Try.prog 29 #[.pointer (some ⟨p, 0, none⟩), .bool r] w fun e w' => ∃ va vb, e = .returned (.tuple #[va, vb]) ∧ Lists w' w.heap.size va vb (fs (parts f N r)) (ns (parts f N r)) ∧ Below w.heap.size w w' := by
  have l := h.len
  have HH : Hid (Ref w p b f N c) := h
  have HG : Hid (Good f N) := G
  have hc := h.cell
  clear h G
  obtain ⟨i0, hi, hz0, hz1, hz2⟩ := info_parts info3
  go_enter Try.func29, Try.ntmps29
  go_wp2
  go_loopw [6, 7, 8] (fun va vb i wr => ∃ k : Nat, k ≤ N ∧ i = .int .i64 k ∧ Hid (Scans w va vb (parts f k r) wr)) (fun _ _ i _ => N - (intOf i).toNat)
  case atStart => exact ⟨0, Nat.zero_le _, rfl, ⟨World.ownsRow_nil _ _ _ _, World.ownsRow_nil _ _ _ _, .inl rfl, Nat.le_refl _⟩, Below.refl _ _⟩
  case round =>
    obtain ⟨k, hk, rfl, S⟩ := hrel
    have H := HH.out.later S.out.bel
    have cc := H.cell
    clear hc
    by_cases hlt : k < N
    · have cv := H.num k hlt
      have bd := HG.out.bounds hlt
      have RS := row_step (r := r) HG.out hlt
      have SK := parts_skip (f := f) (N := k) (r := r)
      have hl1 : (fs (parts f k r)).length ≤ 4096 := by rw [fs_length]; have := parts_len f k r; omega
      have hl2 : (ns (parts f k r)).length ≤ 4096 := by rw [ns_length]; have := parts_len f k r; omega
      have PM : ∀ pre a t, parts f k r = pre ++ [(a, t)] → a < k ∧ t ≤ k := by
        intro pre a t e
        have ms : (a, t) ∈ parts f k r := by rw [e]; simp
        obtain ⟨m1, m2, _⟩ := parts_mem ms
        have tl := tog_le f (N := k) (i := a) (Nat.le_of_lt m1)
        simp only at m2
        exact ⟨m1, by omega⟩
      clear H
      cases r with
      | true =>
        by_cases q : f k = -1
        · have HK := RS (by simp [kind, q])
          rw [q] at cv
          clear RS SK bd
          rcases HK with ⟨e, e0 | ⟨pre, a, t, e1, ne⟩⟩ | ⟨pre, a, t, e1, e2, e3, e4⟩
          · have L0 : Lists wr w.heap.size u6 u7 [] [] := by have := S.out.ls; rw [e0] at this; exact this
            obtain ⟨ao, ca, ao', ca', rfl, rfl⟩ := lists_none L0
            have S2 : Hid (Scans w (.slice ao 0 ca) (.slice ao' 0 ca') [] wr) := by have := S.out; rw [e0] at this; exact this
            rw [e0] at e hl1 hl2
            clear S L0 e0 PM
            go_wp2
            go_quiet (fail)
            go_wp2_with (first
              | (at_builtin; refine wpList_append_lies _ rfl (.tmp 64) (.tmp 66) 38 rfl w.heap.size 3 i0 (.int .i64 0) 1 8 Try.underlying38 hi hz0 hz1 hz2 rfl (by decide) _ _ _ rfl (S2.out.ls.oa.kept (g1N _ _ _) (Classical.em _)) ⟨_, 0, none⟩ 1 1 [.int .i64 k] rfl rfl (news_one (nb4 _ _)) (by simp [Value.oneCell']) (by decide) (by unfold maxLen; omega) (by omega) (Nat.le_trans S2.out.ls.sz (by simp)) _ rfl ?_; intro q1 cap1 w1 o1 G1 a1 l1; have OB := own_second S2.out.ls (g1N _ _ _) G1; have sz1 := G1.size)
              | (at_builtin; refine wpList_append_lies _ rfl (.tmp 68) (.tmp 69) 38 rfl w.heap.size 3 i0 (.int .i64 0) 1 8 Try.underlying38 hi hz0 hz1 hz2 rfl (by decide) _ _ _ rfl (OB.kept (g3 _ _) (Classical.em _)) ⟨_, 0, none⟩ 1 1 [.int .i64 1] rfl rfl (news_one (nb4 _ _)) (by simp [Value.oneCell']) (by decide) (by unfold maxLen; omega) (by omega) (by have := S2.out.ls.sz; simp at sz1 ⊢; omega) _ rfl ?_; intro q2 cap2 w2 o2 G2 a2 l2; have HS : Hid (Scans w _ _ (parts f (k + 1) true) w2) := scans_push S2.out e (g1N _ _ _) G1 (g3 _ _) G2 o1 a1 l1 o2 a2; clear o1 G1 a1 l1 o2 G2 a2 l2 OB sz1))
            go_roundw
            case rel => exact ⟨k + 1, by omega, by go_num, HS⟩
            case measure => simp [intOf]; omega
          · have ne2 : ¬ ((a : Int) + t = k) := fun z => ne.elim (fun h => h (by omega)) (fun h => absurd h.1 (by simp))
            clear ne
            have ne5 : ((a : Int) + t != (k : Int)) = true := by simpa using ne2
            have ne6 : ((a : Int) + t == (k : Int)) = false := by simpa using ne2
            obtain ⟨b1, b2⟩ := PM pre a t e1
            have L0 : Lists wr w.heap.size u6 u7 (fs pre ++ [(a : Int)]) (ns pre ++ [(t : Int)]) := by have := S.out.ls; rw [e1, fs_snoc, ns_snoc] at this; exact this
            obtain ⟨g, ca, g', ca', rfl, rfl, x1, x2, x3⟩ := lists_open L0 (by rw [fs_length, ns_length])
            have hm1 : (fs pre).length ≤ 4096 := by rw [e1, fs_snoc] at hl1; simp at hl1; omega
            have S2 : Hid (Scans w (.slice (some ⟨g, 0, none⟩) ((fs pre).length + 1) ca) (.slice (some ⟨g', 0, none⟩) ((fs pre).length + 1) ca') (parts f k true) wr) := S
            obtain ⟨m, hm⟩ : ∃ m, (fs pre).length = m := ⟨_, rfl⟩
            rw [hm] at S2 x1 x2 x3 hm1 ⊢
            have y0 : decide ((m : Int) < 0) = false := by simp
            clear S L0 e1 PM hm
            go_wp2
            go_quiet (fail)
            go_wp2_with (first
              | (at_builtin; refine wpList_append_lies _ rfl (.tmp 64) (.tmp 66) 38 rfl w.heap.size 3 i0 (.int .i64 0) 1 8 Try.underlying38 hi hz0 hz1 hz2 rfl (by decide) _ _ _ rfl (S2.out.ls.oa.kept (g1N _ _ _) (Classical.em _)) ⟨_, 0, none⟩ 1 1 [.int .i64 k] rfl rfl (news_one (nb4 _ _)) (by simp [Value.oneCell']) (by decide) (by unfold maxLen; omega) (by omega) (Nat.le_trans S2.out.ls.sz (by simp)) _ rfl ?_; intro q1 cap1 w1 o1 G1 a1 l1; have OB := own_second S2.out.ls (g1N _ _ _) G1; have sz1 := G1.size)
              | (at_builtin; refine wpList_append_lies _ rfl (.tmp 68) (.tmp 69) 38 rfl w.heap.size 3 i0 (.int .i64 0) 1 8 Try.underlying38 hi hz0 hz1 hz2 rfl (by decide) _ _ _ rfl (OB.kept (g3 _ _) (Classical.em _)) ⟨_, 0, none⟩ 1 1 [.int .i64 1] rfl rfl (news_one (nb4 _ _)) (by simp [Value.oneCell']) (by decide) (by unfold maxLen; omega) (by omega) (by have := S2.out.ls.sz; simp at sz1 ⊢; omega) _ rfl ?_; intro q2 cap2 w2 o2 G2 a2 l2; have HS : Hid (Scans w _ _ (parts f (k + 1) true) w2) := scans_push S2.out e (g1N _ _ _) G1 (g3 _ _) G2 o1 a1 l1 o2 a2; clear o1 G1 a1 l1 o2 G2 a2 l2 OB sz1))
            go_roundw
            case rel => exact ⟨k + 1, by omega, by go_num, HS⟩
            case measure => simp [intOf]; omega
          · have e5 : (a : Int) + t = k := by omega
            clear e4 e2
            obtain ⟨b1, b2⟩ := PM pre a t e1
            have L0 : Lists wr w.heap.size u6 u7 (fs pre ++ [(a : Int)]) (ns pre ++ [(t : Int)]) := by have := S.out.ls; rw [e1, fs_snoc, ns_snoc] at this; exact this
            obtain ⟨g, ca, g', ca', rfl, rfl, x1, x2, x3⟩ := lists_open L0 (by rw [fs_length, ns_length])
            have hm1 : (fs pre).length ≤ 4096 := by rw [e1, fs_snoc] at hl1; simp at hl1; omega
            have HM : Hid ((ns pre).length = (fs pre).length) := by show _ = _; rw [fs_length, ns_length]
            have L1 : Hid (Lists wr w.heap.size (.slice (some ⟨g, 0, none⟩) ((fs pre).length + 1) ca) (.slice (some ⟨g', 0, none⟩) ((fs pre).length + 1) ca') (fs pre ++ [(a : Int)]) (ns pre ++ [(t : Int)])) := L0
            have HE : Hid (parts f (k + 1) true = pre ++ [(a, t + 1)]) := e3
            have HB : Hid (Below w.heap.size w wr) := S.out.bel
            obtain ⟨m, hm⟩ : ∃ m, (fs pre).length = m := ⟨_, rfl⟩
            rw [hm] at L1 HM x1 x2 x3 hm1 ⊢
            have y0 : decide ((m : Int) < 0) = false := by simp
            clear S L0 e1 e3 PM hm
            go_wp2
            go_quiet (fail)
            go_wp2
            go_roundw
            case rel => exact ⟨k + 1, by omega, by go_num, by
              rw [HE.out]
              obtain ⟨L2, B2⟩ := lists_bump (v := (t : Int) + 1) (L1.out.later (below_drewN (Below.refl _ _) _)) HM.out
              exact ⟨by rw [fs_snoc, ns_snoc]; simpa using L2, (below_drewN HB.out _).trans B2⟩⟩
            case measure => simp [intOf]; omega

        · obtain ⟨x, hx⟩ : ∃ x, f k = x := ⟨_, rfl⟩
          rw [hx] at cv bd q
          have e := SK (by simp [kind, hx, q])
          have HS : Hid (Scans w u6 u7 (parts f (k + 1) true) wr) := S.out.skip e
          have q2 : decide (x < 0) = false := by simp; omega
          clear RS SK S e bd hx PM
          go_wp2
          go_roundw
          case rel => exact ⟨k + 1, by omega, by go_num, HS⟩
          case measure => simp [intOf]; omega
      | false =>
        by_cases q : f k = -1
        · have hx : f k = -1 := q
          rw [hx] at cv
          have e := SK (by simp [kind, hx])
          have HS : Hid (Scans w u6 u7 (parts f (k + 1) false) wr) := S.out.skip e
          clear RS SK S e bd hx PM
          go_wp2
          go_roundw
          case rel => exact ⟨k + 1, by omega, by go_num, HS⟩
          case measure => simp [intOf]; omega
        · have HK := RS (by simp [kind, q])
          obtain ⟨x, hx⟩ : ∃ x, f k = x := ⟨_, rfl⟩
          rw [hx] at cv bd q
          have q2 : decide (x < 0) = false := by simp; omega
          clear RS SK
          rcases HK with ⟨e, e0 | ⟨pre, a, t, e1, ne⟩⟩ | ⟨pre, a, t, e1, e2, e3, e4⟩
          · have L0 : Lists wr w.heap.size u6 u7 [] [] := by have := S.out.ls; rw [e0] at this; exact this
            obtain ⟨ao, ca, ao', ca', rfl, rfl⟩ := lists_none L0
            have S2 : Hid (Scans w (.slice ao 0 ca) (.slice ao' 0 ca') [] wr) := by have := S.out; rw [e0] at this; exact this
            rw [e0] at e hl1 hl2
            clear S L0 e0 PM
            go_wp2
            go_quiet (fail)
            go_wp2_with (first
              | (at_builtin; refine wpList_append_lies _ rfl (.tmp 64) (.tmp 66) 38 rfl w.heap.size 3 i0 (.int .i64 0) 1 8 Try.underlying38 hi hz0 hz1 hz2 rfl (by decide) _ _ _ rfl (S2.out.ls.oa.kept (g1N _ _ _) (Classical.em _)) ⟨_, 0, none⟩ 1 1 [.int .i64 k] rfl rfl (news_one (nb4 _ _)) (by simp [Value.oneCell']) (by decide) (by unfold maxLen; omega) (by omega) (Nat.le_trans S2.out.ls.sz (by simp)) _ rfl ?_; intro q1 cap1 w1 o1 G1 a1 l1; have OB := own_second S2.out.ls (g1N _ _ _) G1; have sz1 := G1.size)
              | (at_builtin; refine wpList_append_lies _ rfl (.tmp 68) (.tmp 69) 38 rfl w.heap.size 3 i0 (.int .i64 0) 1 8 Try.underlying38 hi hz0 hz1 hz2 rfl (by decide) _ _ _ rfl (OB.kept (g3 _ _) (Classical.em _)) ⟨_, 0, none⟩ 1 1 [.int .i64 1] rfl rfl (news_one (nb4 _ _)) (by simp [Value.oneCell']) (by decide) (by unfold maxLen; omega) (by omega) (by have := S2.out.ls.sz; simp at sz1 ⊢; omega) _ rfl ?_; intro q2 cap2 w2 o2 G2 a2 l2; have HS : Hid (Scans w _ _ (parts f (k + 1) false) w2) := scans_push S2.out e (g1N _ _ _) G1 (g3 _ _) G2 o1 a1 l1 o2 a2; clear o1 G1 a1 l1 o2 G2 a2 l2 OB sz1))
            go_roundw
            case rel => exact ⟨k + 1, by omega, by go_num, HS⟩
            case measure => simp [intOf]; omega
          · by_cases ne2 : ¬ ((a : Int) + t = k)
            · clear ne
              have ne5 : ((a : Int) + t != (k : Int)) = true := by simpa using ne2
              have ne6 : ((a : Int) + t == (k : Int)) = false := by simpa using ne2
              obtain ⟨b1, b2⟩ := PM pre a t e1
              have L0 : Lists wr w.heap.size u6 u7 (fs pre ++ [(a : Int)]) (ns pre ++ [(t : Int)]) := by have := S.out.ls; rw [e1, fs_snoc, ns_snoc] at this; exact this
              obtain ⟨g, ca, g', ca', rfl, rfl, x1, x2, x3⟩ := lists_open L0 (by rw [fs_length, ns_length])
              have hm1 : (fs pre).length ≤ 4096 := by rw [e1, fs_snoc] at hl1; simp at hl1; omega
              have S2 : Hid (Scans w (.slice (some ⟨g, 0, none⟩) ((fs pre).length + 1) ca) (.slice (some ⟨g', 0, none⟩) ((fs pre).length + 1) ca') (parts f k false) wr) := S
              obtain ⟨m, hm⟩ : ∃ m, (fs pre).length = m := ⟨_, rfl⟩
              rw [hm] at S2 x1 x2 x3 hm1 ⊢
              have y0 : decide ((m : Int) < 0) = false := by simp
              clear S L0 e1 PM hm
              go_wp2
              go_quiet (fail)
              go_wp2_with (first
                | (at_builtin; refine wpList_append_lies _ rfl (.tmp 64) (.tmp 66) 38 rfl w.heap.size 3 i0 (.int .i64 0) 1 8 Try.underlying38 hi hz0 hz1 hz2 rfl (by decide) _ _ _ rfl (S2.out.ls.oa.kept (g1N _ _ _) (Classical.em _)) ⟨_, 0, none⟩ 1 1 [.int .i64 k] rfl rfl (news_one (nb4 _ _)) (by simp [Value.oneCell']) (by decide) (by unfold maxLen; omega) (by omega) (Nat.le_trans S2.out.ls.sz (by simp)) _ rfl ?_; intro q1 cap1 w1 o1 G1 a1 l1; have OB := own_second S2.out.ls (g1N _ _ _) G1; have sz1 := G1.size)
                | (at_builtin; refine wpList_append_lies _ rfl (.tmp 68) (.tmp 69) 38 rfl w.heap.size 3 i0 (.int .i64 0) 1 8 Try.underlying38 hi hz0 hz1 hz2 rfl (by decide) _ _ _ rfl (OB.kept (g3 _ _) (Classical.em _)) ⟨_, 0, none⟩ 1 1 [.int .i64 1] rfl rfl (news_one (nb4 _ _)) (by simp [Value.oneCell']) (by decide) (by unfold maxLen; omega) (by omega) (by have := S2.out.ls.sz; simp at sz1 ⊢; omega) _ rfl ?_; intro q2 cap2 w2 o2 G2 a2 l2; have HS : Hid (Scans w _ _ (parts f (k + 1) false) w2) := scans_push S2.out e (g1N _ _ _) G1 (g3 _ _) G2 o1 a1 l1 o2 a2; clear o1 G1 a1 l1 o2 G2 a2 l2 OB sz1))
              go_roundw
              case rel => exact ⟨k + 1, by omega, by go_num, HS⟩
              case measure => simp [intOf]; omega
            · have ne3 : x = k := ne.elim (fun h => absurd (by omega) h) (fun h => hx ▸ h.2)
              have ne4 : (a : Int) + t = k := Decidable.not_not.1 ne2
              subst ne3
              clear ne ne2
              obtain ⟨b1, b2⟩ := PM pre a t e1
              have L0 : Lists wr w.heap.size u6 u7 (fs pre ++ [(a : Int)]) (ns pre ++ [(t : Int)]) := by have := S.out.ls; rw [e1, fs_snoc, ns_snoc] at this; exact this
              obtain ⟨g, ca, g', ca', rfl, rfl, x1, x2, x3⟩ := lists_open L0 (by rw [fs_length, ns_length])
              have hm1 : (fs pre).length ≤ 4096 := by rw [e1, fs_snoc] at hl1; simp at hl1; omega
              have S2 : Hid (Scans w (.slice (some ⟨g, 0, none⟩) ((fs pre).length + 1) ca) (.slice (some ⟨g', 0, none⟩) ((fs pre).length + 1) ca') (parts f k false) wr) := S
              obtain ⟨m, hm⟩ : ∃ m, (fs pre).length = m := ⟨_, rfl⟩
              rw [hm] at S2 x1 x2 x3 hm1 ⊢
              have y0 : decide ((m : Int) < 0) = false := by simp
              clear S L0 e1 PM hm
              go_wp2
              go_quiet (fail)
              go_wp2_with (first
                | (at_builtin; refine wpList_append_lies _ rfl (.tmp 64) (.tmp 66) 38 rfl w.heap.size 3 i0 (.int .i64 0) 1 8 Try.underlying38 hi hz0 hz1 hz2 rfl (by decide) _ _ _ rfl (S2.out.ls.oa.kept (g1N _ _ _) (Classical.em _)) ⟨_, 0, none⟩ 1 1 [.int .i64 k] rfl rfl (news_one (nb4 _ _)) (by simp [Value.oneCell']) (by decide) (by unfold maxLen; omega) (by omega) (Nat.le_trans S2.out.ls.sz (by simp)) _ rfl ?_; intro q1 cap1 w1 o1 G1 a1 l1; have OB := own_second S2.out.ls (g1N _ _ _) G1; have sz1 := G1.size)
                | (at_builtin; refine wpList_append_lies _ rfl (.tmp 68) (.tmp 69) 38 rfl w.heap.size 3 i0 (.int .i64 0) 1 8 Try.underlying38 hi hz0 hz1 hz2 rfl (by decide) _ _ _ rfl (OB.kept (g3 _ _) (Classical.em _)) ⟨_, 0, none⟩ 1 1 [.int .i64 1] rfl rfl (news_one (nb4 _ _)) (by simp [Value.oneCell']) (by decide) (by unfold maxLen; omega) (by omega) (by have := S2.out.ls.sz; simp at sz1 ⊢; omega) _ rfl ?_; intro q2 cap2 w2 o2 G2 a2 l2; have HS : Hid (Scans w _ _ (parts f (k + 1) false) w2) := scans_push S2.out e (g1N _ _ _) G1 (g3 _ _) G2 o1 a1 l1 o2 a2; clear o1 G1 a1 l1 o2 G2 a2 l2 OB sz1))
              go_roundw
              case rel => exact ⟨k + 1, by omega, by go_num, HS⟩
              case measure => simp [intOf]; omega
          · have e5 : (a : Int) + t = k := by omega
            have e6 : ¬ (x = (k : Int)) := e4.elim (fun h => absurd h (by simp)) (fun h => hx ▸ h)
            clear e4 e2
            obtain ⟨b1, b2⟩ := PM pre a t e1
            have L0 : Lists wr w.heap.size u6 u7 (fs pre ++ [(a : Int)]) (ns pre ++ [(t : Int)]) := by have := S.out.ls; rw [e1, fs_snoc, ns_snoc] at this; exact this
            obtain ⟨g, ca, g', ca', rfl, rfl, x1, x2, x3⟩ := lists_open L0 (by rw [fs_length, ns_length])
            have hm1 : (fs pre).length ≤ 4096 := by rw [e1, fs_snoc] at hl1; simp at hl1; omega
            have HM : Hid ((ns pre).length = (fs pre).length) := by show _ = _; rw [fs_length, ns_length]
            have L1 : Hid (Lists wr w.heap.size (.slice (some ⟨g, 0, none⟩) ((fs pre).length + 1) ca) (.slice (some ⟨g', 0, none⟩) ((fs pre).length + 1) ca') (fs pre ++ [(a : Int)]) (ns pre ++ [(t : Int)])) := L0
            have HE : Hid (parts f (k + 1) false = pre ++ [(a, t + 1)]) := e3
            have HB : Hid (Below w.heap.size w wr) := S.out.bel
            obtain ⟨m, hm⟩ : ∃ m, (fs pre).length = m := ⟨_, rfl⟩
            rw [hm] at L1 HM x1 x2 x3 hm1 ⊢
            have y0 : decide ((m : Int) < 0) = false := by simp
            clear S L0 e1 e3 PM hm
            go_wp2
            go_quiet (fail)
            go_wp2
            go_roundw
            case rel => exact ⟨k + 1, by omega, by go_num, by
              rw [HE.out]
              obtain ⟨L2, B2⟩ := lists_bump (v := (t : Int) + 1) (L1.out.later (below_drewN (Below.refl _ _) _)) HM.out
              exact ⟨by rw [fs_snoc, ns_snoc]; simpa using L2, (below_drewN HB.out _).trans B2⟩⟩
            case measure => simp [intOf]; omega

    · obtain rfl : k = N := by omega
      go_wp2
      go_ret2
      exact ⟨_, _, rfl, S.out.ls, S.out.bel⟩
end Go.Proofs.Ytaeehhonahhelaa
