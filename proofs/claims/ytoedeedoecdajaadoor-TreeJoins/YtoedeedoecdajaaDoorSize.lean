/- Package tree's Size: what stands next in an expression. -/
import Derived.Test.YtoedeedoecdajaaDoorWithinA
import Derived.Test.YtoedeedoecdajaaDoorProgs
namespace Go.Proofs.YtoedeedoecdajaaDoor
open Go.RowKit
set_option linter.unusedVariables false
set_option linter.unusedSimpArgs false

theorem isB_body {w : World} {ok : Nat → Prop} {x : B} {c : List Value} (h : isB w ok x c) : ∃ (a0 : Int) (s0 : ByteArray) (g3 : Option Addr) (n3 c3 : Nat) (d : List Value), c = [.string s0, .int .i64 a0, .slice g3 n3 c3] ++ d ∧ isE w ok (bodyB x) d := by
  obtain ⟨n, a, al, x⟩ := x
  simp only [isB] at h
  obtain ⟨va, d, rfl, ⟨_, _, rfl, _⟩, h⟩ := h
  exact ⟨_, _, _, _, _, d, rfl, h⟩
theorem isA_body {w : World} {ok : Nat → Prop} {x : A} {c : List Value} (h : isA w ok x c) : ∃ (a9 m9 : Int) (s9 : ByteArray) (g3 : Option Addr) (n3 c3 : Nat) (d : List Value), c = [.int .i64 (kindA x), .int .i64 a9, .string s9, .int .i64 m9, .slice g3 n3 c3] ++ d ∧ isE w ok (bodyA x) d := by
  obtain ⟨k, a, n, m, vs, x⟩ := x
  simp only [isA] at h
  obtain ⟨va, d, rfl, ⟨_, _, rfl, _⟩, h⟩ := h
  exact ⟨_, _, _, _, _, _, d, rfl, h⟩
theorem take_more {α : Type} (l : List α) (k : Nat) (h : k < l.length) : l.take (k + 1) = l.take k ++ [l[k]'h] := List.take_succ_eq_append_getElem h
/-- blocks that were there -/
theorem keeps_row {w wr w3 : World} {ok : Nat → Prop} {row : Option Nat} (hok : ∀ g, ok g → g < w.heap.size) (G : wr.grownBy w3 row) (hr : ∀ i, row = some i → w.heap.size ≤ i) : Keeps ok ok wr w3 :=
  keeps_grown G (fun g hg e => by have := hok g hg; have := hr g e.symm; omega) (fun _ h => h)
def Nxt (w w' : World) (ok : Nat → Prop) (l : List E) (v : Value) : Prop := ∃ xs, Below w.heap.size w w' ∧ w'.ownsRow w.heap.size 46 8 v l.length xs ∧ isEs w' ok l xs
/-- on the way: the box with the expression stays -/
def NxtB (w w' : World) (ok : Nat → Prop) (q6 q7 : Value) (l : List E) (v : Value) : Prop :=
  ∃ xs, Below w.heap.size w w' ∧ w'.ownsRow (w.heap.size + 1) 46 8 v l.length xs ∧ isEs w' ok l xs ∧ w'.cell? ⟨w.heap.size, 6, none⟩ = some q6 ∧ w'.cell? ⟨w.heap.size, 7, none⟩ = some q7
theorem NxtB.next {w w' : World} {ok : Nat → Prop} {q6 q7 : Value} {l : List E} {v : Value} (h : NxtB w w' ok q6 q7 l v) : Nxt w w' ok l v := by
  obtain ⟨xs, B, ⟨h1, h2⟩, I, _⟩ := h
  refine ⟨xs, B, ⟨h1, ?_⟩, I⟩
  rcases h2 with h | ⟨g, cap, cur, e, hb, r⟩
  · exact .inl h
  · exact .inr ⟨g, cap, cur, e, by omega, r⟩
/-- one more -/
theorem NxtB.more {w wr w1 w3 : World} {ok : Nat → Prop} {q6 q7 : Value} {l : List E} {x : E} {v : Value} {g cap : Nat} {xs d : List Value} (hok : ∀ g, ok g → g < w.heap.size) (B : Below w.heap.size w wr) (H : isEs wr ok l xs) (O : wr.ownsRow (w.heap.size + 1) 46 8 v l.length xs)
    (x6 : wr.cell? ⟨w.heap.size, 6, none⟩ = some q6) (x7 : wr.cell? ⟨w.heap.size, 7, none⟩ = some q7) (BB : Below wr.heap.size wr w1)
    (G : w1.grownBy w3 v.ownBlock) (ho : w3.ownsRow (w.heap.size + 1) 46 8 (.slice (some ⟨g, 0, none⟩) (l.length + 1) cap) (l.length + 1) (xs ++ d)) (hd : isE w ok x d) : NxtB w w3 ok q6 q7 (l ++ [x]) (.slice (some ⟨g, 0, none⟩) (l.length + 1) cap) := by
  have hv : ∀ i, v.ownBlock = some i → w.heap.size + 1 ≤ i := fun i hi => (O.lt i hi).1
  have hv' : ∀ i, v.ownBlock = some i → w.heap.size ≤ i := fun i hi => by have := hv i hi; omega
  have B1 : Below w.heap.size w w1 := B.trans (Joins.below_le BB B.size)
  have B3 : Below w.heap.size w w3 := B1.grown G B1.size hv'
  refine ⟨xs ++ d, B3, by rw [List.length_append]; exact ho, isEs_snoc l x xs d ?_ ?_, ?_, ?_⟩
  · exact isEs_keeps (keeps_row hok G hv') l xs (isEs_keeps (keeps_below BB (fun _ h => h)) l xs H)
  · exact isE_keeps (keeps_below B3 (fun _ h => h)) x d hd
  · exact G.cell ((BB.cell (World.block_lt_of_cell? _ _ x6)).trans x6) (fun e => by have := hv _ e.symm; simp only at this; omega)
  · exact G.cell ((BB.cell (World.block_lt_of_cell? _ _ x7)).trans x7) (fun e => by have := hv _ e.symm; simp only at this; omega)
theorem new_1 (w : World) (o o' : Obj) : ((w.alloc o).alloc o').heap[w.heap.size + 1]? = some o' := by have := heap_alloc_new (w.alloc o) o'; simpa using this
theorem own_le {W : World} {base size m : Nat} {e : TypeId} {v : Value} {xs : List Value} (h : W.ownsRow base e size v m xs) : ∃ ga cap, v = .slice ga m cap ∧ m ≤ cap := by
  rcases h.2 with ⟨rfl, h0⟩ | ⟨g, cap, cur, rfl, _, _, hc, _⟩
  · exact ⟨none, 0, by rw [h0], by omega⟩
  · exact ⟨_, _, rfl, hc⟩
theorem two_allocs {wr : World} (o o' : Obj) : Below wr.heap.size wr ((wr.alloc o).alloc o') := ((Below.refl _ wr).alloc (Nat.le_refl _) o).alloc (by simp) o'
theorem own_two {wr : World} {base n : Nat} {e : TypeId} {size : Nat} {v : Value} {xs : List Value} (O : wr.ownsRow base e size v n xs) (o o' : Obj) : ((wr.alloc o).alloc o').ownsRow base e size v n xs := (O.alloc o).alloc o'

set_option maxRecDepth 100000 in
set_option maxHeartbeats 4000000 in
theorem within_let {w : World} {ok : Nat → Prop} (hok : ∀ g, ok g → g < w.heap.size) {a m : Int} {nm : List UInt8} {ts : List Atm} {bs : List B} {ks : List E} {al : List A} {c : List Value} (I : isE w ok (.mk 5 a nm m ts bs ks al) c) :
    Calls Tryd.prog 38 #[.agg c.toArray] w fun e w' => ∃ v, e = .returned v ∧ Nxt w w' ok (withinE (.mk 5 a nm m ts bs ks al)) v := by
  rw [show withinE (.mk 5 a nm m ts bs ks al) = bs.map bodyB ++ ks.take 1 by simp [withinE]]
  simp only [isE] at I
  obtain ⟨vt, vb, vk, va, xb, xk, xa, rfl, IT, IB, IBS, IK, IKS, IA, IAS⟩ := I
  obtain ⟨gb, cb, rfl, hb1, hb2⟩ := row_parts IB
  obtain ⟨gk, ck, rfl, hk1, hk2⟩ := row_parts IK
  obtain ⟨gl, cl, rfl, hl1, hl2⟩ := row_parts IA
  obtain ⟨gt, ct, rfl, ht1, ht2⟩ := row_parts IT
  obtain ⟨n, hn⟩ : ∃ n, bs.length = n := ⟨_, rfl⟩
  have HN : Hid (bs.length = n) := ⟨hn⟩
  obtain ⟨nk, hnk⟩ : ∃ nk, ks.length = nk := ⟨_, rfl⟩
  have HNK : Hid (ks.length = nk) := ⟨hnk⟩
  rw [hn] at IB hb1 hb2 ⊢
  rw [hnk] at IK hk1 hk2 ⊢
  have FI := fun W => first_any W gk nk ck hk1
  have HK : Hid (IsRow w ok xk nk (.slice gk nk ck)) := ⟨IK⟩
  have HB : Hid (IsRow w ok xb n (.slice gb n cb)) := ⟨IB⟩
  have HBS : Hid (isBs w ok bs xb) := ⟨IBS⟩
  have HKS : Hid (isEs w ok ks xk) := ⟨IKS⟩
  have HOK : Hid (∀ g, ok g → g < w.heap.size) := ⟨hok⟩
  clear IT IA IAS IK IB IBS IKS hn hnk hok
  go_enter Tryd.func38, Tryd.ntmps38
  go_wp2
  have B0 : Below w.heap.size w (w.alloc (.cells #[.int .i64 5, .int .i64 a, .string (str nm), .int .i64 m, .slice gt ts.length ct, .slice gb n cb, .slice gk nk ck, .slice gl al.length cl] 46)) := (Below.refl _ w).alloc (Nat.le_refl _) _
  have z6 : (w.alloc (.cells #[.int .i64 5, .int .i64 a, .string (str nm), .int .i64 m, .slice gt ts.length ct, .slice gb n cb, .slice gk nk ck, .slice gl al.length cl] 46)).cell? ⟨w.heap.size, 6, none⟩ = some (.slice gk nk ck) := (Blk.fresh w #[.int .i64 5, .int .i64 a, .string (str nm), .int .i64 m, .slice gt ts.length ct, .slice gb n cb, .slice gk nk ck, .slice gl al.length cl] 46).cell 6
  have z7 : (w.alloc (.cells #[.int .i64 5, .int .i64 a, .string (str nm), .int .i64 m, .slice gt ts.length ct, .slice gb n cb, .slice gk nk ck, .slice gl al.length cl] 46)).cell? ⟨w.heap.size, 7, none⟩ = some (.slice gl al.length cl) := (Blk.fresh w #[.int .i64 5, .int .i64 a, .string (str nm), .int .i64 m, .slice gt ts.length ct, .slice gb n cb, .slice gk nk ck, .slice gl al.length cl] 46).cell 7
  generalize w.alloc _ = w0 at *
  obtain ⟨i0, hi, hz0, hz1, hz2⟩ := info_parts info46
  go_loopw [3, 15] (fun v c wr => ∃ k : Nat, c = .int .i64 k ∧ k ≤ n ∧ NxtB w wr ok (.slice gk nk ck) (.slice gl al.length cl) ((bs.take k).map bodyB) v) (fun _ c _ => n - (intOf c).toNat)
  case atStart => exact ⟨0, rfl, Nat.zero_le _, [], B0, World.ownsRow_nil _ _ _ _, by simp only [List.take_zero, List.map_nil, isEs], z6, z7⟩
  case round =>
    clear z6 z7 B0
    obtain ⟨k, rfl, hk, xs, BW, OW, IS, y6, y7⟩ := hrel
    have HIS : Hid (isEs wr ok ((bs.take k).map bodyB) xs) := ⟨IS⟩
    clear IS
    by_cases hlt : k < n
    · have kb : k < bs.length := by rw [HN.out]; exact hlt
      obtain ⟨g, off, rfl, hx⟩ := row_cell HB.out (by omega)
      obtain ⟨d, hd0, hd⟩ := isBs_get bs xb HBS.out k kb
      obtain ⟨a0, s0, g3, n3, c3, de, rfl, hde⟩ := isB_body hd0
      obtain ⟨k0, a1, m1, s1, g4, g5, g6, g7, n4, n5, n6, n7, c4, c5, c6, c7, rfl⟩ := isE_eight hde
      have HD : Hid (isE w ok (bodyB (bs[k]'kb)) [.int .i64 k0, .int .i64 a1, .string s1, .int .i64 m1, .slice g4 n4 c4, .slice g5 n5 c5, .slice g6 n6 c6, .slice g7 n7 c7]) := ⟨hde⟩
      have x0 : wr.cell? ⟨g, off + k * 11, none⟩ = some (.string s0) := by have h0 := hx (k * 11 + 0) _ (hd 0 _ rfl); have h1 := (BW.cell (World.block_lt_of_cell? _ _ h0)).trans h0; simpa only [Nat.add_zero, ← Nat.add_assoc] using h1
      have x1 : wr.cell? ⟨g, off + k * 11 + 1, none⟩ = some (.int .i64 a0) := by have h0 := hx (k * 11 + 1) _ (hd 1 _ rfl); have h1 := (BW.cell (World.block_lt_of_cell? _ _ h0)).trans h0; simpa only [Nat.add_zero, ← Nat.add_assoc] using h1
      have x2 : wr.cell? ⟨g, off + k * 11 + 2, none⟩ = some (.slice g3 n3 c3) := by have h0 := hx (k * 11 + 2) _ (hd 2 _ rfl); have h1 := (BW.cell (World.block_lt_of_cell? _ _ h0)).trans h0; simpa only [Nat.add_zero, ← Nat.add_assoc] using h1
      have x3 : wr.cell? ⟨g, off + k * 11 + 3, none⟩ = some (.int .i64 k0) := by have h0 := hx (k * 11 + 3) _ (hd 3 _ rfl); have h1 := (BW.cell (World.block_lt_of_cell? _ _ h0)).trans h0; simpa only [Nat.add_zero, ← Nat.add_assoc] using h1
      have x4 : wr.cell? ⟨g, off + k * 11 + 4, none⟩ = some (.int .i64 a1) := by have h0 := hx (k * 11 + 4) _ (hd 4 _ rfl); have h1 := (BW.cell (World.block_lt_of_cell? _ _ h0)).trans h0; simpa only [Nat.add_zero, ← Nat.add_assoc] using h1
      have x5 : wr.cell? ⟨g, off + k * 11 + 5, none⟩ = some (.string s1) := by have h0 := hx (k * 11 + 5) _ (hd 5 _ rfl); have h1 := (BW.cell (World.block_lt_of_cell? _ _ h0)).trans h0; simpa only [Nat.add_zero, ← Nat.add_assoc] using h1
      have x6 : wr.cell? ⟨g, off + k * 11 + 6, none⟩ = some (.int .i64 m1) := by have h0 := hx (k * 11 + 6) _ (hd 6 _ rfl); have h1 := (BW.cell (World.block_lt_of_cell? _ _ h0)).trans h0; simpa only [Nat.add_zero, ← Nat.add_assoc] using h1
      have x7 : wr.cell? ⟨g, off + k * 11 + 7, none⟩ = some (.slice g4 n4 c4) := by have h0 := hx (k * 11 + 7) _ (hd 7 _ rfl); have h1 := (BW.cell (World.block_lt_of_cell? _ _ h0)).trans h0; simpa only [Nat.add_zero, ← Nat.add_assoc] using h1
      have x8 : wr.cell? ⟨g, off + k * 11 + 8, none⟩ = some (.slice g5 n5 c5) := by have h0 := hx (k * 11 + 8) _ (hd 8 _ rfl); have h1 := (BW.cell (World.block_lt_of_cell? _ _ h0)).trans h0; simpa only [Nat.add_zero, ← Nat.add_assoc] using h1
      have x9 : wr.cell? ⟨g, off + k * 11 + 9, none⟩ = some (.slice g6 n6 c6) := by have h0 := hx (k * 11 + 9) _ (hd 9 _ rfl); have h1 := (BW.cell (World.block_lt_of_cell? _ _ h0)).trans h0; simpa only [Nat.add_zero, ← Nat.add_assoc] using h1
      have x10 : wr.cell? ⟨g, off + k * 11 + 10, none⟩ = some (.slice g7 n7 c7) := by have h0 := hx (k * 11 + 10) _ (hd 10 _ rfl); have h1 := (BW.cell (World.block_lt_of_cell? _ _ h0)).trans h0; simpa only [Nat.add_zero, ← Nat.add_assoc] using h1
      have hs6 : w.heap.size < wr.heap.size := World.block_lt_of_cell? _ _ y6
      have hlt' : (k : Int) < n := by omega
      have LL : ((bs.take k).map bodyB).length = k := by simp; omega
      have HT : Hid ((bs.take (k + 1)).map bodyB = (bs.take k).map bodyB ++ [bodyB (bs[k]'kb)]) := ⟨by rw [take_more bs k kb, List.map_append]; rfl⟩
      obtain ⟨L, hL⟩ : ∃ L, (bs.take k).map bodyB = L := ⟨_, rfl⟩
      rw [hL] at OW HIS HT LL
      obtain ⟨xk0, hxk⟩ : ∃ x, bodyB (bs[k]'kb) = x := ⟨_, rfl⟩
      rw [hxk] at HD HT
      have HLL : Hid (L.length = k) := ⟨LL⟩
      have hL2 : L.length ≤ 1000000000 := by omega
      clear hx hd hd0 hde hL hxk LL
      go_wp2_with (first
        | (at_builtin; refine wpList_append_lies _ rfl _ _ 43 rfl (w.heap.size + 1) 46 i0 _ 8 136 Tryd.underlying43 hi hz0 hz1 hz2 rfl (by decide) u3 L.length xs rfl (own_two OW _ _) ⟨_, 0, none⟩ 1 1 [.int .i64 k0, .int .i64 a1, .string s1, .int .i64 m1, .slice g4 n4 c4, .slice g5 n5 c5, .slice g6 n6 c6, .slice g7 n7 c7] rfl rfl (World.news_of_block (new_1 _ _ _)) (by simp [Value.oneCell']) (by decide) (by unfold maxLen; omega) (by omega) (by simp; omega) _ rfl ?_; intro q5 cap5 w3 ho hg hat hlt; have HM : Hid (NxtB w w3 ok (.slice gk nk ck) (.slice gl al.length cl) (L ++ [xk0]) (.slice (some ⟨q5, 0, none⟩) (L.length + 1) cap5)) := ⟨NxtB.more HOK.out BW HIS.out OW y6 y7 (two_allocs _ _) hg ho HD.out⟩; clear ho hg hat hlt))
      go_roundw
      case rel => exact ⟨k + 1, by go_num, by omega, by rw [HT.out]; exact HM.out⟩
      case measure => simp [intOf]; omega
    · obtain rfl : k = n := by omega
      have LL : (bs.take k).map bodyB = bs.map bodyB := by rw [← HN.out, List.take_length]
      rw [LL] at OW HIS
      have hL : (bs.map bodyB).length = k := by rw [List.length_map, HN.out]
      have hs6 : w.heap.size < wr.heap.size := World.block_lt_of_cell? _ _ y6
      obtain ⟨gu, cu, rfl, hcu⟩ := own_le OW
      rw [hL] at hcu
      obtain ⟨L, hLe⟩ : ∃ L, bs.map bodyB = L := ⟨_, rfl⟩
      have HLe : Hid (bs.map bodyB = L) := ⟨hLe⟩
      rw [hLe] at OW HIS hL ⊢
      rw [hL] at OW ⊢
      cases ks with
      | nil =>
        have h0 : nk = 0 := by rw [← HNK.out]; rfl
        subst h0
        have FI := FI wr
        rw [show min 1 0 = 0 from rfl] at FI
        have HX : Hid (Nxt w wr ok (L ++ List.take 1 []) (.slice gu k cu)) := ⟨by
          have : NxtB w wr ok (.slice gk 0 ck) (.slice gl al.length cl) L (.slice gu k cu) := ⟨xs, BW, by rw [hL]; exact OW, HIS.out, y6, y7⟩
          have := this.next
          simpa using this⟩
        clear LL hLe hL
        go_wp2_with (first
          | (go_at_call 51; refine FI.mono ?_; rintro e w5 ⟨rfl, rfl⟩)
          | (at_builtin; refine wpList_append_zero rfl _ _ 43 rfl 46 i0 Tryd.underlying43 hi gu k cu rfl hcu gk ck rfl ?_))
        go_ret
        exact ⟨_, rfl, by have h := HX.out; rw [← HLe.out] at h; exact h⟩
      | cons y r =>
        have h0 : nk = r.length + 1 := by rw [← HNK.out]; rfl
        have FI := FI wr
        rw [show min 1 nk = 1 by omega] at FI
        obtain ⟨g, off, rfl, hx⟩ := row_cell HK.out (by omega)
        have hks := HKS.out
        simp only [isEs] at hks
        obtain ⟨d1, d2, rfl, hd1, _⟩ := hks
        obtain ⟨k0, a1, m1, s1, g4, g5, g6, g7, n4, n5, n6, n7, c4, c5, c6, c7, rfl⟩ := isE_eight hd1
        have HD : Hid (isE w ok y [.int .i64 k0, .int .i64 a1, .string s1, .int .i64 m1, .slice g4 n4 c4, .slice g5 n5 c5, .slice g6 n6 c6, .slice g7 n7 c7]) := ⟨hd1⟩
        have hnews : ∀ j u, ([.int .i64 k0, .int .i64 a1, .string s1, .int .i64 m1, .slice g4 n4 c4, .slice g5 n5 c5, .slice g6 n6 c6, .slice g7 n7 c7] : List Value)[j]? = some u → wr.cell? ((⟨g, off, none⟩ : Addr).add j) = some u := fun j u hj => by
          have hj8 : j < 8 := (List.getElem?_eq_some_iff.1 hj).1
          have h1 := hx j u (by rw [List.getElem?_append_left (by simpa using hj8)]; exact hj)
          have h2 := (BW.cell (World.block_lt_of_cell? _ _ h1)).trans h1
          rw [show ((⟨g, off, none⟩ : Addr).add j) = ⟨g, off + j, none⟩ by unfold Addr.add; split <;> simp_all]
          exact h2
        have HX : ∀ q5 cap5 w3, w3.ownsRow (w.heap.size + 1) 46 8 (.slice (some ⟨q5, 0, none⟩) (k + 1) cap5) (k + 1) (xs ++ [.int .i64 k0, .int .i64 a1, .string s1, .int .i64 m1, .slice g4 n4 c4, .slice g5 n5 c5, .slice g6 n6 c6, .slice g7 n7 c7]) → wr.grownBy w3 (Value.slice gu k cu).ownBlock → Nxt w w3 ok (L ++ List.take 1 (y :: r)) (.slice (some ⟨q5, 0, none⟩) (k + 1) cap5) := fun q5 cap5 w3 ho hg => by
          have := NxtB.more (l := L) HOK.out BW HIS.out (by rw [hL]; exact OW) y6 y7 (Below.refl _ _) hg (by rw [hL]; exact ho) HD.out
          rw [hL] at this
          exact this.next
        have HHX : Hid (∀ q5 cap5 w3, w3.ownsRow (w.heap.size + 1) 46 8 (.slice (some ⟨q5, 0, none⟩) (k + 1) cap5) (k + 1) (xs ++ [.int .i64 k0, .int .i64 a1, .string s1, .int .i64 m1, .slice g4 n4 c4, .slice g5 n5 c5, .slice g6 n6 c6, .slice g7 n7 c7]) → wr.grownBy w3 (Value.slice gu k cu).ownBlock → Nxt w w3 ok (L ++ List.take 1 (y :: r)) (.slice (some ⟨q5, 0, none⟩) (k + 1) cap5)) := ⟨HX⟩
        clear HX LL hLe hL hx hd1 h0
        go_wp2_with (first
          | (go_at_call 51; refine FI.mono ?_; rintro e w5 ⟨rfl, rfl⟩)
          | (at_builtin; refine wpList_append_lies _ rfl _ _ 43 rfl (w.heap.size + 1) 46 i0 _ 8 136 Tryd.underlying43 hi hz0 hz1 hz2 rfl (by decide) (.slice gu k cu) k xs rfl OW ⟨g, off, none⟩ 1 ck [.int .i64 k0, .int .i64 a1, .string s1, .int .i64 m1, .slice g4 n4 c4, .slice g5 n5 c5, .slice g6 n6 c6, .slice g7 n7 c7] rfl rfl hnews (by simp [Value.oneCell']) (by decide) (by unfold maxLen; omega) (by omega) (by omega) _ rfl ?_; intro q5 cap5 w3 ho hg hat hlt; have HM := HHX.out q5 cap5 w3 ho hg; clear ho hg hat hlt))
        go_ret
        exact ⟨_, rfl, by rw [← HLe.out] at HM; exact HM⟩

set_option maxRecDepth 100000 in
set_option maxHeartbeats 4000000 in
theorem within_case {w : World} {ok : Nat → Prop} (hok : ∀ g, ok g → g < w.heap.size) {a m : Int} {nm : List UInt8} {ts : List Atm} {bs : List B} {ks : List E} {al : List A} {c : List Value} (I : isE w ok (.mk 6 a nm m ts bs ks al) c) :
    Calls Tryd.prog 38 #[.agg c.toArray] w fun e w' => ∃ v, e = .returned v ∧ Nxt w w' ok (withinE (.mk 6 a nm m ts bs ks al)) v := by
  rw [show withinE (.mk 6 a nm m ts bs ks al) = ks.take 1 ++ (al.filter goodA).map bodyA by simp [withinE]]
  simp only [isE] at I
  obtain ⟨vt, vb, vk, va, xb, xk, xa, rfl, IT, IB, IBS, IK, IKS, IA, IAS⟩ := I
  obtain ⟨gb, cb, rfl, hb1, hb2⟩ := row_parts IB
  obtain ⟨gk, ck, rfl, hk1, hk2⟩ := row_parts IK
  obtain ⟨gl, cl, rfl, hl1, hl2⟩ := row_parts IA
  obtain ⟨gt, ct, rfl, ht1, ht2⟩ := row_parts IT
  obtain ⟨n, hn⟩ : ∃ n, al.length = n := ⟨_, rfl⟩
  have HN : Hid (al.length = n) := ⟨hn⟩
  obtain ⟨nk, hnk⟩ : ∃ nk, ks.length = nk := ⟨_, rfl⟩
  have HNK : Hid (ks.length = nk) := ⟨hnk⟩
  rw [hn] at IA hl1 hl2 ⊢
  rw [hnk] at IK hk1 hk2 ⊢
  have FI := fun W => first_any W gk nk ck hk1
  have HK : Hid (IsRow w ok xk nk (.slice gk nk ck)) := ⟨IK⟩
  have HA : Hid (IsRow w ok xa n (.slice gl n cl)) := ⟨IA⟩
  have HAS : Hid (isAs w ok al xa) := ⟨IAS⟩
  have HKS : Hid (isEs w ok ks xk) := ⟨IKS⟩
  have HOK : Hid (∀ g, ok g → g < w.heap.size) := ⟨hok⟩
  clear IT IA IAS IK IB IBS IKS hn hnk hok
  go_enter Tryd.func38, Tryd.ntmps38
  go_upto_region 11 with fail
  have B0 : Below w.heap.size w (w.alloc (.cells #[.int .i64 6, .int .i64 a, .string (str nm), .int .i64 m, .slice gt ts.length ct, .slice gb bs.length cb, .slice gk nk ck, .slice gl n cl] 46)) := (Below.refl _ w).alloc (Nat.le_refl _) _
  have z6 : (w.alloc (.cells #[.int .i64 6, .int .i64 a, .string (str nm), .int .i64 m, .slice gt ts.length ct, .slice gb bs.length cb, .slice gk nk ck, .slice gl n cl] 46)).cell? ⟨w.heap.size, 6, none⟩ = some (.slice gk nk ck) := (Blk.fresh w #[.int .i64 6, .int .i64 a, .string (str nm), .int .i64 m, .slice gt ts.length ct, .slice gb bs.length cb, .slice gk nk ck, .slice gl n cl] 46).cell 6
  have z7 : (w.alloc (.cells #[.int .i64 6, .int .i64 a, .string (str nm), .int .i64 m, .slice gt ts.length ct, .slice gb bs.length cb, .slice gk nk ck, .slice gl n cl] 46)).cell? ⟨w.heap.size, 7, none⟩ = some (.slice gl n cl) := (Blk.fresh w #[.int .i64 6, .int .i64 a, .string (str nm), .int .i64 m, .slice gt ts.length ct, .slice gb bs.length cb, .slice gk nk ck, .slice gl n cl] 46).cell 7
  generalize w.alloc _ = w0 at *
  obtain ⟨i0, hi, hz0, hz1, hz2⟩ := info_parts info46
  have hs6 : w.heap.size < w0.heap.size := World.block_lt_of_cell? _ _ z6
  go_cut [3] from 33 to 37 (fun v wx => NxtB w wx ok (.slice gk nk ck) (.slice gl n cl) (ks.take 1) v)
  case first =>
    cases ks with
    | nil =>
      have h0 : nk = 0 := by rw [← HNK.out]; rfl
      subst h0
      have FI := FI w0
      rw [show min 1 0 = 0 from rfl] at FI
      go_wp2_with (first
        | (go_at_call 51; refine FI.mono ?_; rintro e w5 ⟨rfl, rfl⟩)
        | (at_builtin; refine wpList_append_zero rfl _ _ 43 rfl 46 i0 Tryd.underlying43 hi none 0 0 rfl (Nat.le_refl _) gk ck rfl ?_))
      go_meet
      exact ⟨[], B0, World.ownsRow_nil _ _ _ _, by simp only [List.take_nil, isEs], z6, z7⟩
    | cons y r =>
      have h0 : nk = r.length + 1 := by rw [← HNK.out]; rfl
      have FI := FI w0
      rw [show min 1 nk = 1 by omega] at FI
      obtain ⟨g, off, rfl, hx⟩ := row_cell HK.out (by omega)
      have hks := HKS.out
      simp only [isEs] at hks
      obtain ⟨d1, d2, rfl, hd1, _⟩ := hks
      obtain ⟨k0, a1, m1, s1, g4, g5, g6, g7, n4, n5, n6, n7, c4, c5, c6, c7, rfl⟩ := isE_eight hd1
      have HD : Hid (isE w ok y [.int .i64 k0, .int .i64 a1, .string s1, .int .i64 m1, .slice g4 n4 c4, .slice g5 n5 c5, .slice g6 n6 c6, .slice g7 n7 c7]) := ⟨hd1⟩
      have hnews : ∀ j u, ([.int .i64 k0, .int .i64 a1, .string s1, .int .i64 m1, .slice g4 n4 c4, .slice g5 n5 c5, .slice g6 n6 c6, .slice g7 n7 c7] : List Value)[j]? = some u → w0.cell? ((⟨g, off, none⟩ : Addr).add j) = some u := fun j u hj => by
        have hj8 : j < 8 := (List.getElem?_eq_some_iff.1 hj).1
        have h1 := hx j u (by rw [List.getElem?_append_left (by simpa using hj8)]; exact hj)
        have h2 := (B0.cell (World.block_lt_of_cell? _ _ h1)).trans h1
        rw [show ((⟨g, off, none⟩ : Addr).add j) = ⟨g, off + j, none⟩ by unfold Addr.add; split <;> simp_all]
        exact h2
      clear hx hd1 h0
      go_wp2_with (first
        | (go_at_call 51; refine FI.mono ?_; rintro e w5 ⟨rfl, rfl⟩)
        | (at_builtin; refine wpList_append_lies _ rfl _ _ 43 rfl (w.heap.size + 1) 46 i0 _ 8 136 Tryd.underlying43 hi hz0 hz1 hz2 rfl (by decide) nil3 0 [] rfl (World.ownsRow_nil _ _ _ _) ⟨g, off, none⟩ 1 ck [.int .i64 k0, .int .i64 a1, .string s1, .int .i64 m1, .slice g4 n4 c4, .slice g5 n5 c5, .slice g6 n6 c6, .slice g7 n7 c7] rfl rfl hnews (by simp [Value.oneCell']) (by decide) (by unfold maxLen; omega) (by omega) (by omega) _ rfl ?_; intro q5 cap5 w3 ho hg hat hlt; have HM : Hid (NxtB w w3 ok (.slice (some ⟨g, off, none⟩) nk ck) (.slice gl n cl) ([] ++ [y]) (.slice (some ⟨q5, 0, none⟩) 1 cap5)) := ⟨NxtB.more (l := []) (v := nil3) HOK.out B0 (by simp only [isEs]) (World.ownsRow_nil _ _ _ _) z6 z7 (Below.refl _ _) hg ho HD.out⟩; clear ho hg hat hlt))
      go_meet
      exact HM.out
  case rest =>
    clear z6 z7 B0 hs6
    have hx7 : wc.cell? ⟨w.heap.size, 7, none⟩ = some (.slice gl n cl) := by obtain ⟨xs, _, _, _, _, h⟩ := hcut; exact h
    have HC : Hid (NxtB w wc ok (.slice gk nk ck) (.slice gl n cl) (ks.take 1) u3) := ⟨hcut⟩
    clear hcut
    go_wp2
    go_loopw [3, 41] (fun v c wr => ∃ k : Nat, c = .int .i64 k ∧ k ≤ n ∧ NxtB w wr ok (.slice gk nk ck) (.slice gl n cl) (ks.take 1 ++ ((al.take k).filter goodA).map bodyA) v) (fun _ c _ => n - (intOf c).toNat)
    case atStart => exact ⟨0, rfl, Nat.zero_le _, by simpa using HC.out⟩
    case round =>
      clear hx7 HC
      obtain ⟨k, rfl, hk, xs, BW, OW, IS, y6, y7⟩ := hrel
      have HIS : Hid (isEs wr ok (ks.take 1 ++ ((al.take k).filter goodA).map bodyA) xs) := ⟨IS⟩
      clear IS
      by_cases hlt : k < n
      · have kb : k < al.length := by rw [HN.out]; exact hlt
        obtain ⟨g, off, rfl, hx⟩ := row_cell HA.out (by omega)
        obtain ⟨d, hd0, hd⟩ := isAs_get al xa HAS.out k kb
        obtain ⟨a9, m9, s9, g3, n3, c3, de, rfl, hde⟩ := isA_body hd0
        obtain ⟨k0, a1, m1, s1, g4, g5, g6, g7, n4, n5, n6, n7, c4, c5, c6, c7, rfl⟩ := isE_eight hde
        have HD : Hid (isE w ok (bodyA (al[k]'kb)) [.int .i64 k0, .int .i64 a1, .string s1, .int .i64 m1, .slice g4 n4 c4, .slice g5 n5 c5, .slice g6 n6 c6, .slice g7 n7 c7]) := ⟨hde⟩
        obtain ⟨k9, hk9⟩ : ∃ k9, kindA (al[k]'kb) = k9 := ⟨_, rfl⟩
        rw [hk9] at hd
        have x0 : wr.cell? ⟨g, off + k * 13, none⟩ = some (.int .i64 k9) := by have h0 := hx (k * 13 + 0) _ (hd 0 _ rfl); have h1 := (BW.cell (World.block_lt_of_cell? _ _ h0)).trans h0; simpa only [Nat.add_zero, ← Nat.add_assoc] using h1
        have x1 : wr.cell? ⟨g, off + k * 13 + 1, none⟩ = some (.int .i64 a9) := by have h0 := hx (k * 13 + 1) _ (hd 1 _ rfl); have h1 := (BW.cell (World.block_lt_of_cell? _ _ h0)).trans h0; simpa only [Nat.add_zero, ← Nat.add_assoc] using h1
        have x2 : wr.cell? ⟨g, off + k * 13 + 2, none⟩ = some (.string s9) := by have h0 := hx (k * 13 + 2) _ (hd 2 _ rfl); have h1 := (BW.cell (World.block_lt_of_cell? _ _ h0)).trans h0; simpa only [Nat.add_zero, ← Nat.add_assoc] using h1
        have x3 : wr.cell? ⟨g, off + k * 13 + 3, none⟩ = some (.int .i64 m9) := by have h0 := hx (k * 13 + 3) _ (hd 3 _ rfl); have h1 := (BW.cell (World.block_lt_of_cell? _ _ h0)).trans h0; simpa only [Nat.add_zero, ← Nat.add_assoc] using h1
        have x4 : wr.cell? ⟨g, off + k * 13 + 4, none⟩ = some (.slice g3 n3 c3) := by have h0 := hx (k * 13 + 4) _ (hd 4 _ rfl); have h1 := (BW.cell (World.block_lt_of_cell? _ _ h0)).trans h0; simpa only [Nat.add_zero, ← Nat.add_assoc] using h1
        have x5 : wr.cell? ⟨g, off + k * 13 + 5, none⟩ = some (.int .i64 k0) := by have h0 := hx (k * 13 + 5) _ (hd 5 _ rfl); have h1 := (BW.cell (World.block_lt_of_cell? _ _ h0)).trans h0; simpa only [Nat.add_zero, ← Nat.add_assoc] using h1
        have x6 : wr.cell? ⟨g, off + k * 13 + 6, none⟩ = some (.int .i64 a1) := by have h0 := hx (k * 13 + 6) _ (hd 6 _ rfl); have h1 := (BW.cell (World.block_lt_of_cell? _ _ h0)).trans h0; simpa only [Nat.add_zero, ← Nat.add_assoc] using h1
        have x7 : wr.cell? ⟨g, off + k * 13 + 7, none⟩ = some (.string s1) := by have h0 := hx (k * 13 + 7) _ (hd 7 _ rfl); have h1 := (BW.cell (World.block_lt_of_cell? _ _ h0)).trans h0; simpa only [Nat.add_zero, ← Nat.add_assoc] using h1
        have x8 : wr.cell? ⟨g, off + k * 13 + 8, none⟩ = some (.int .i64 m1) := by have h0 := hx (k * 13 + 8) _ (hd 8 _ rfl); have h1 := (BW.cell (World.block_lt_of_cell? _ _ h0)).trans h0; simpa only [Nat.add_zero, ← Nat.add_assoc] using h1
        have x9 : wr.cell? ⟨g, off + k * 13 + 9, none⟩ = some (.slice g4 n4 c4) := by have h0 := hx (k * 13 + 9) _ (hd 9 _ rfl); have h1 := (BW.cell (World.block_lt_of_cell? _ _ h0)).trans h0; simpa only [Nat.add_zero, ← Nat.add_assoc] using h1
        have x10 : wr.cell? ⟨g, off + k * 13 + 10, none⟩ = some (.slice g5 n5 c5) := by have h0 := hx (k * 13 + 10) _ (hd 10 _ rfl); have h1 := (BW.cell (World.block_lt_of_cell? _ _ h0)).trans h0; simpa only [Nat.add_zero, ← Nat.add_assoc] using h1
        have x11 : wr.cell? ⟨g, off + k * 13 + 11, none⟩ = some (.slice g6 n6 c6) := by have h0 := hx (k * 13 + 11) _ (hd 11 _ rfl); have h1 := (BW.cell (World.block_lt_of_cell? _ _ h0)).trans h0; simpa only [Nat.add_zero, ← Nat.add_assoc] using h1
        have x12 : wr.cell? ⟨g, off + k * 13 + 12, none⟩ = some (.slice g7 n7 c7) := by have h0 := hx (k * 13 + 12) _ (hd 12 _ rfl); have h1 := (BW.cell (World.block_lt_of_cell? _ _ h0)).trans h0; simpa only [Nat.add_zero, ← Nat.add_assoc] using h1
        have hs6 : w.heap.size < wr.heap.size := World.block_lt_of_cell? _ _ y6
        have hlt' : (k : Int) < n := by omega
        have hT : (al.take (k + 1)) = al.take k ++ [al[k]'kb] := take_more al k kb
        have LL : (ks.take 1 ++ ((al.take k).filter goodA).map bodyA).length ≤ 1 + k := by
          rw [List.length_append, List.length_map]
          have h1 := List.length_filter_le goodA (al.take k)
          have h2 : (al.take k).length ≤ k := List.length_take_le k al
          have h3 : (ks.take 1).length ≤ 1 := List.length_take_le 1 ks
          omega
        have HT : Hid ((k9 = 1 ∨ k9 = 2 ∨ k9 = 3) → ks.take 1 ++ ((al.take (k + 1)).filter goodA).map bodyA = (ks.take 1 ++ ((al.take k).filter goodA).map bodyA) ++ [bodyA (al[k]'kb)]) := ⟨fun z => by
          have hg : goodA (al[k]'kb) = true := by simp only [goodA, hk9]; exact decide_eq_true z
          rw [hT, List.filter_append, List.map_append, List.filter_cons_of_pos hg, List.append_assoc]
          rfl⟩
        have HF : Hid (¬ (k9 = 1 ∨ k9 = 2 ∨ k9 = 3) → ks.take 1 ++ ((al.take (k + 1)).filter goodA).map bodyA = ks.take 1 ++ ((al.take k).filter goodA).map bodyA) := ⟨fun z => by
          have hg : ¬ goodA (al[k]'kb) = true := by simp only [goodA, hk9]; exact fun q => z (of_decide_eq_true q)
          rw [hT, List.filter_append, List.filter_cons_of_neg hg]
          simp⟩
        obtain ⟨L, hL⟩ : ∃ L, ks.take 1 ++ ((al.take k).filter goodA).map bodyA = L := ⟨_, rfl⟩
        rw [hL] at OW HIS HT LL HF
        obtain ⟨xk0, hxk⟩ : ∃ x, bodyA (al[k]'kb) = x := ⟨_, rfl⟩
        rw [hxk] at HD HT
        have hL2 : L.length ≤ 1000000001 := by omega
        clear hx hd hd0 hde hL hxk LL hT hk9
        by_cases z : k9 = 1 ∨ k9 = 2 ∨ k9 = 3
        · have HZ : Hid (ks.take 1 ++ ((al.take (k + 1)).filter goodA).map bodyA = L ++ [xk0]) := ⟨HT.out z⟩
          clear HT HF
          rcases z with z | z | z
          all_goals
            subst z
            go_wp2_with (first
              | (at_builtin; refine wpList_append_lies _ rfl _ _ 43 rfl (w.heap.size + 1) 46 i0 _ 8 136 Tryd.underlying43 hi hz0 hz1 hz2 rfl (by decide) u3 L.length xs rfl (own_two OW _ _) ⟨_, 0, none⟩ 1 1 [.int .i64 k0, .int .i64 a1, .string s1, .int .i64 m1, .slice g4 n4 c4, .slice g5 n5 c5, .slice g6 n6 c6, .slice g7 n7 c7] rfl rfl (World.news_of_block (new_1 _ _ _)) (by simp [Value.oneCell']) (by decide) (by unfold maxLen; omega) (by omega) (by simp; omega) _ rfl ?_; intro q5 cap5 w3 ho hg hat hlt; have HM : Hid (NxtB w w3 ok (.slice gk nk ck) (.slice (some ⟨g, off, none⟩) n cl) (L ++ [xk0]) (.slice (some ⟨q5, 0, none⟩) (L.length + 1) cap5)) := ⟨NxtB.more HOK.out BW HIS.out OW y6 y7 (two_allocs _ _) hg ho HD.out⟩; clear ho hg hat hlt))
            go_roundw
            case rel => exact ⟨k + 1, by go_num, by omega, by rw [HZ.out]; exact HM.out⟩
            case measure => simp [intOf]; omega
        · have HZ : Hid (ks.take 1 ++ ((al.take (k + 1)).filter goodA).map bodyA = L) := ⟨HF.out z⟩
          have z1 : (k9 == 1) = false := by simp; omega
          have z2 : (k9 == 2) = false := by simp; omega
          have z3 : (k9 == 3) = false := by simp; omega
          have HM : Hid (∀ o, NxtB w (wr.alloc o) ok (.slice gk nk ck) (.slice (some ⟨g, off, none⟩) n cl) L u3) := ⟨fun o => by
            have B1 := (Below.refl wr.heap.size wr).alloc (Nat.le_refl _) o
            exact ⟨xs, BW.trans (Joins.below_le B1 BW.size), OW.alloc o, isEs_keeps (keeps_below B1 (fun _ h => h)) L xs HIS.out, (B1.cell (World.block_lt_of_cell? _ _ y6)).trans y6, (B1.cell (World.block_lt_of_cell? _ _ y7)).trans y7⟩⟩
          clear HT HF z
          go_wp2
          go_roundw
          case rel => exact ⟨k + 1, by go_num, by omega, by rw [HZ.out]; exact HM.out _⟩
          case measure => simp [intOf]; omega
      · obtain rfl : k = n := by omega
        have LL : al.take k = al := by rw [← HN.out, List.take_length]
        rw [LL] at OW HIS
        have HX : Hid (Nxt w wr ok (ks.take 1 ++ (al.filter goodA).map bodyA) u3) := ⟨NxtB.next ⟨xs, BW, OW, HIS.out, y6, y7⟩⟩
        clear LL OW HIS
        go_wp2
        go_ret
        exact ⟨_, rfl, HX.out⟩
set_option maxRecDepth 100000 in
set_option maxHeartbeats 4000000 in
theorem within_none {w : World} {ok : Nat → Prop} {k a m : Int} {nm : List UInt8} {ts : List Atm} {bs : List B} {ks : List E} {al : List A} {c : List Value} (h5 : k ≠ 5) (h6 : k ≠ 6) (I : isE w ok (.mk k a nm m ts bs ks al) c) :
    Calls Tryd.prog 38 #[.agg c.toArray] w fun e w' => ∃ v, e = .returned v ∧ Nxt w w' ok (withinE (.mk k a nm m ts bs ks al)) v := by
  rw [show withinE (.mk k a nm m ts bs ks al) = [] by simp [withinE, h5, h6]]
  obtain ⟨k', a', m', s', g4, g5, g6, g7, n4, n5, n6, n7, c4, c5, c6, c7, e⟩ := isE_eight I
  simp only [isE] at I
  obtain ⟨vt, vb, vk, va, xb, xk, xa, e', _⟩ := I
  rw [e'] at e
  simp only [List.cons.injEq, Value.int.injEq, true_and] at e
  obtain ⟨_, _, _, _, rfl, rfl, rfl, rfl, _⟩ := e
  subst e'
  have z1 : (k == 5) = false := by simp [h5]
  have z2 : (k == 6) = false := by simp [h6]
  go_enter Tryd.func38, Tryd.ntmps38
  go_wp2
  go_ret
  exact ⟨_, rfl, [], (Below.refl _ w).alloc (Nat.le_refl _) _, World.ownsRow_nil _ _ _ _, by simp only [isEs]⟩
theorem within_any {w : World} {ok : Nat → Prop} (hok : ∀ g, ok g → g < w.heap.size) {x : E} {c : List Value} (I : isE w ok x c) :
    Calls Tryd.prog 38 #[.agg c.toArray] w fun e w' => ∃ v, e = .returned v ∧ Nxt w w' ok (withinE x) v := by
  obtain ⟨k, a, nm, m, ts, bs, ks, al⟩ := x
  by_cases h5 : k = 5
  · subst h5; exact within_let hok I
  · by_cases h6 : k = 6
    · subst h6; exact within_case hok I
    · exact within_none h5 h6 I

end Go.Proofs.YtoedeedoecdajaaDoor

/- Package tree's Size. -/
namespace Go.Proofs.YtoedeedoecdajaaDoor
open Go.RowKit
set_option linter.unusedVariables false
set_option linter.unusedSimpArgs false

def SizeOK (x : E) : Prop := ∀ (w : World) (ok : Nat → Prop) (c : List Value), (∀ g, ok g → g < w.heap.size) → isE w ok x c → Calls Tryd.prog 24 #[.agg c.toArray] w fun e w' => e = .returned (.int .i64 (szI (cntE x))) ∧ Below w.heap.size w w'
theorem own_cells {W : World} {base size m : Nat} {e : TypeId} {v : Value} {xs : List Value} (h : W.ownsRow base e size v m xs) (hm : 0 < m) : ∃ g cap, v = .slice (some ⟨g, 0, none⟩) m cap ∧ m ≤ cap ∧ ∀ j u, xs[j]? = some u → W.cell? ⟨g, j, none⟩ = some u := by
  obtain ⟨g, cap, rfl, hc⟩ := own_some h hm
  obtain ⟨_, _, e, hle⟩ := own_le h
  cases e
  refine ⟨g, cap, rfl, hle, fun j u hj => ?_⟩
  have := hc j u hj
  rw [show ((⟨g, 0, none⟩ : Addr).add j) = ⟨g, j, none⟩ by unfold Addr.add; split <;> simp_all] at this
  exact this

theorem own_max {W : World} {base size m : Nat} {e : TypeId} {v : Value} {xs : List Value} (h : W.ownsRow base e size v m xs) : m ≤ 9223372036854775807 := by
  rcases h.2 with ⟨rfl, h0⟩ | ⟨g, cap, cur, rfl, _, _, hc, hm, _⟩
  · omega
  · unfold maxLen at hm; omega

set_option maxRecDepth 100000 in
set_option maxHeartbeats 4000000 in
theorem sizeOf_step (x : E) (IH : ∀ y ∈ withinE x, SizeOK y) : SizeOK x := by
  intro w ok c hok I
  have B0 := fun o => (Below.refl w.heap.size w).alloc (Nat.le_refl _) o
  have WI := fun o => within_any (w := w.alloc o) (fun g hg => by have := hok g hg; simp; omega) (isE_keeps (keeps_below (B0 o) (fun _ h => h)) x c I)
  have HC : Hid (cntE x = 1 + sumC (withinE x)) := ⟨cnt_within x⟩
  obtain ⟨R, hR⟩ : ∃ R, szI (cntE x) = R := ⟨_, rfl⟩
  have HR : Hid (szI (cntE x) = R) := ⟨hR⟩
  rw [hR]
  obtain ⟨k', a', m', s', h4, h5, h6, h7, n4', n5', n6', n7', c4', c5', c6', c7', rfl⟩ := isE_eight I
  obtain ⟨L, hL⟩ : ∃ L, withinE x = L := ⟨_, rfl⟩
  rw [hL] at HC IH WI
  have HIH : Hid (∀ y ∈ L, SizeOK y) := ⟨IH⟩
  have HOK : Hid (∀ g, ok g → g < w.heap.size) := ⟨hok⟩
  clear hR hL IH I hok
  go_enter Tryd.func24, Tryd.ntmps24
  go_wp2_with (first
    | (go_at_call 38; refine (WI _).mono ?_; rintro e w1 ⟨v, rfl, xs, B1, OW, IS⟩; obtain ⟨gv, cv, rfl, hcv⟩ := own_le OW; have HIS : Hid (isEs w1 ok L xs) := ⟨IS⟩; have HOW : Hid (w1.ownsRow _ 46 8 (.slice gv L.length cv) L.length xs) := ⟨OW⟩; have HB1 : Hid (Below w.heap.size w w1) := ⟨(B0 _).trans (Joins.below_le B1 (by simp))⟩; clear IS OW B1))
  obtain ⟨n, hn⟩ : ∃ n, L.length = n := ⟨_, rfl⟩
  have HN : Hid (L.length = n) := ⟨hn⟩
  rw [hn] at HOW hcv ⊢
  have hn63 : n ≤ 9223372036854775807 := own_max HOW.out
  clear hn WI B0
  go_loopw [3, 9] (fun v c wr => ∃ k : Nat, c = .int .i64 k ∧ k ≤ n ∧ v = .int .i64 (szI (1 + sumC (L.take k))) ∧ Below w1.heap.size w1 wr) (fun _ c _ => n - (intOf c).toNat)
  case atStart => exact ⟨0, rfl, Nat.zero_le _, by simp [sumC]; rfl, Below.refl _ _⟩
  case round =>
    obtain ⟨k, rfl, hk, rfl, BW⟩ := hrel
    by_cases hlt : k < n
    · have kb : k < L.length := by rw [HN.out]; exact hlt
      obtain ⟨g, cap, e, _, hx⟩ := own_cells HOW.out (by omega)
      cases e
      obtain ⟨d, hd0, hd⟩ := isEs_get L xs HIS.out k kb
      obtain ⟨k0, a1, m1, s1, g4, g5, g6, g7, n4, n5, n6, n7, c4, c5, c6, c7, rfl⟩ := isE_eight hd0
      have x0 : wr.cell? ⟨g, k * 8, none⟩ = some (.int .i64 k0) := by have h0 := hx (k * 8 + 0) _ (hd 0 _ rfl); have h1 := (BW.cell (World.block_lt_of_cell? _ _ h0)).trans h0; simpa only [Nat.add_zero, ← Nat.add_assoc] using h1
      have x1 : wr.cell? ⟨g, k * 8 + 1, none⟩ = some (.int .i64 a1) := by have h0 := hx (k * 8 + 1) _ (hd 1 _ rfl); have h1 := (BW.cell (World.block_lt_of_cell? _ _ h0)).trans h0; simpa only [Nat.add_zero, ← Nat.add_assoc] using h1
      have x2 : wr.cell? ⟨g, k * 8 + 2, none⟩ = some (.string s1) := by have h0 := hx (k * 8 + 2) _ (hd 2 _ rfl); have h1 := (BW.cell (World.block_lt_of_cell? _ _ h0)).trans h0; simpa only [Nat.add_zero, ← Nat.add_assoc] using h1
      have x3 : wr.cell? ⟨g, k * 8 + 3, none⟩ = some (.int .i64 m1) := by have h0 := hx (k * 8 + 3) _ (hd 3 _ rfl); have h1 := (BW.cell (World.block_lt_of_cell? _ _ h0)).trans h0; simpa only [Nat.add_zero, ← Nat.add_assoc] using h1
      have x4 : wr.cell? ⟨g, k * 8 + 4, none⟩ = some (.slice g4 n4 c4) := by have h0 := hx (k * 8 + 4) _ (hd 4 _ rfl); have h1 := (BW.cell (World.block_lt_of_cell? _ _ h0)).trans h0; simpa only [Nat.add_zero, ← Nat.add_assoc] using h1
      have x5 : wr.cell? ⟨g, k * 8 + 5, none⟩ = some (.slice g5 n5 c5) := by have h0 := hx (k * 8 + 5) _ (hd 5 _ rfl); have h1 := (BW.cell (World.block_lt_of_cell? _ _ h0)).trans h0; simpa only [Nat.add_zero, ← Nat.add_assoc] using h1
      have x6 : wr.cell? ⟨g, k * 8 + 6, none⟩ = some (.slice g6 n6 c6) := by have h0 := hx (k * 8 + 6) _ (hd 6 _ rfl); have h1 := (BW.cell (World.block_lt_of_cell? _ _ h0)).trans h0; simpa only [Nat.add_zero, ← Nat.add_assoc] using h1
      have x7 : wr.cell? ⟨g, k * 8 + 7, none⟩ = some (.slice g7 n7 c7) := by have h0 := hx (k * 8 + 7) _ (hd 7 _ rfl); have h1 := (BW.cell (World.block_lt_of_cell? _ _ h0)).trans h0; simpa only [Nat.add_zero, ← Nat.add_assoc] using h1
      have hlt' : (k : Int) < n := by omega
      have SO : ∀ o, Calls Tryd.prog 24 #[.agg #[.int .i64 k0, .int .i64 a1, .string s1, .int .i64 m1, .slice g4 n4 c4, .slice g5 n5 c5, .slice g6 n6 c6, .slice g7 n7 c7]] (wr.alloc o) fun e w' => e = .returned (.int .i64 (szI (cntE (L[k]'kb)))) ∧ Below (wr.alloc o).heap.size (wr.alloc o) w' := fun o =>
        HIH.out (L[k]'kb) (List.getElem_mem kb) (wr.alloc o) ok _ (fun g hg => by have := HOK.out g hg; have := HB1.out.size; have := BW.size; simp; omega) (isE_keeps (keeps_below ((Below.refl wr.heap.size wr).alloc (Nat.le_refl _) o) (fun _ h => h)) _ _ (isE_keeps (keeps_below BW (fun _ h => h)) _ _ hd0))
      have HA : Hid (1 + sumC (L.take (k + 1)) = (1 + sumC (L.take k)) + cntE (L[k]'kb)) := ⟨by rw [take_more L k kb, sumC_app, sumC_cons]; simp [sumC]; omega⟩
      have ha := szI_add (1 + sumC (L.take k)) (cntE (L[k]'kb))
      rw [← HA.out] at ha
      obtain ⟨r, hr⟩ : ∃ r, szI (1 + sumC (L.take (k + 1))) = r := ⟨_, rfl⟩
      have HR2 : Hid (szI (1 + sumC (L.take (k + 1))) = r) := ⟨hr⟩
      rw [hr] at ha
      generalize szI (1 + sumC (L.take k)) = p at *
      generalize szI (cntE (L[k]'kb)) = q at *
      clear hr hx hd hd0
      go_wp2_with (first
        | (go_at_call 24; refine (SO _).mono ?_; rintro e w2 ⟨rfl, B2⟩; have BW2 := BW.trans (Joins.below_le (((Below.refl wr.heap.size wr).alloc (Nat.le_refl _) _).trans (Joins.below_le B2 (by simp))) BW.size)))
      go_roundw
      case rel => exact ⟨k + 1, by go_num, by omega, by rw [HR2.out], BW2⟩
      case measure => simp [intOf]; omega
    · obtain rfl : k = n := by omega
      have HX : Hid (szI (1 + sumC (L.take k)) = R) := ⟨by rw [← HR.out, HC.out, ← HN.out, List.take_length]⟩
      have HZ : Hid (Below w.heap.size w wr) := ⟨HB1.out.trans (Joins.below_le BW HB1.out.size)⟩
      generalize szI (1 + sumC (L.take k)) = p at *
      go_wp2
      go_ret
      exact ⟨by rw [← HX.out]; rfl, HZ.out⟩
theorem sizeOf_all : ∀ (n : Nat) (x : E), cntE x ≤ n → SizeOK x
  | 0, x, h => by have := cnt_within x; omega
  | n + 1, x, h => sizeOf_step x fun y hy => sizeOf_all n y (by have := within_less hy; omega)
theorem sizeOf_any (x : E) : SizeOK x := sizeOf_all _ x (Nat.le_refl _)
theorem sizeP_eq (p : Pg) : sizeP p = sumC (p.binds.map bodyB) := cnt_bs p.binds

set_option maxRecDepth 100000 in
set_option maxHeartbeats 4000000 in
theorem size_any {w : World} {ok : Nat → Prop} (hok : ∀ g, ok g → g < w.heap.size) {p : Pg} {v : Value} (I : isPV w ok p v) :
    Calls Tryd.prog 11 #[v] w fun e w' => e = .returned (.int .i64 (szI (sizeP p))) ∧ Below w.heap.size w w' := by
  obtain ⟨vd, vb, xb, rfl, ID, IB, IBS⟩ := I
  obtain ⟨gd, cd, rfl, _, _⟩ := row_parts ID
  obtain ⟨gb, cb, rfl, hb1, hb2⟩ := row_parts IB
  rw [sizeP_eq]
  obtain ⟨bs, hbs⟩ : ∃ bs, p.binds = bs := ⟨_, rfl⟩
  rw [hbs] at IB IBS hb1 hb2 ⊢
  obtain ⟨R, hR⟩ : ∃ R, szI (sumC (bs.map bodyB)) = R := ⟨_, rfl⟩
  have HR : Hid (szI (sumC (bs.map bodyB)) = R) := ⟨hR⟩
  rw [hR]
  obtain ⟨n, hn⟩ : ∃ n, bs.length = n := ⟨_, rfl⟩
  have HN : Hid (bs.length = n) := ⟨hn⟩
  rw [hn] at IB hb1 hb2 ⊢
  have HB : Hid (IsRow w ok xb n (.slice gb n cb)) := ⟨IB⟩
  have HBS : Hid (isBs w ok bs xb) := ⟨IBS⟩
  have HOK : Hid (∀ g, ok g → g < w.heap.size) := ⟨hok⟩
  clear hR hn IB IBS ID hok hbs
  go_enter Tryd.func11, Tryd.ntmps11
  go_wp2
  have HB0 : Hid (Below w.heap.size w (w.alloc (.cells #[.slice gd p.datas.length cd, .slice gb n cb] 25))) := ⟨(Below.refl _ w).alloc (Nat.le_refl _) _⟩
  generalize w.alloc _ = w0 at *
  go_loopw [3, 9] (fun v c wr => ∃ k : Nat, c = .int .i64 k ∧ k ≤ n ∧ v = .int .i64 (szI (sumC ((bs.take k).map bodyB))) ∧ Below w.heap.size w wr) (fun _ c _ => n - (intOf c).toNat)
  case atStart => exact ⟨0, rfl, Nat.zero_le _, by simp [sumC]; rfl, HB0.out⟩
  case round =>
    obtain ⟨k, rfl, hk, rfl, BW⟩ := hrel
    by_cases hlt : k < n
    · have kb : k < bs.length := by rw [HN.out]; exact hlt
      obtain ⟨g, off, rfl, hx⟩ := row_cell HB.out (by omega)
      obtain ⟨d, hd0, hd⟩ := isBs_get bs xb HBS.out k kb
      obtain ⟨a0, s0, g3, n3, c3, de, rfl, hde⟩ := isB_body hd0
      obtain ⟨k0, a1, m1, s1, g4, g5, g6, g7, n4, n5, n6, n7, c4, c5, c6, c7, rfl⟩ := isE_eight hde
      have x0 : wr.cell? ⟨g, off + k * 11, none⟩ = some (.string s0) := by have h0 := hx (k * 11 + 0) _ (hd 0 _ rfl); have h1 := (BW.cell (World.block_lt_of_cell? _ _ h0)).trans h0; simpa only [Nat.add_zero, ← Nat.add_assoc] using h1
      have x1 : wr.cell? ⟨g, off + k * 11 + 1, none⟩ = some (.int .i64 a0) := by have h0 := hx (k * 11 + 1) _ (hd 1 _ rfl); have h1 := (BW.cell (World.block_lt_of_cell? _ _ h0)).trans h0; simpa only [Nat.add_zero, ← Nat.add_assoc] using h1
      have x2 : wr.cell? ⟨g, off + k * 11 + 2, none⟩ = some (.slice g3 n3 c3) := by have h0 := hx (k * 11 + 2) _ (hd 2 _ rfl); have h1 := (BW.cell (World.block_lt_of_cell? _ _ h0)).trans h0; simpa only [Nat.add_zero, ← Nat.add_assoc] using h1
      have x3 : wr.cell? ⟨g, off + k * 11 + 3, none⟩ = some (.int .i64 k0) := by have h0 := hx (k * 11 + 3) _ (hd 3 _ rfl); have h1 := (BW.cell (World.block_lt_of_cell? _ _ h0)).trans h0; simpa only [Nat.add_zero, ← Nat.add_assoc] using h1
      have x4 : wr.cell? ⟨g, off + k * 11 + 4, none⟩ = some (.int .i64 a1) := by have h0 := hx (k * 11 + 4) _ (hd 4 _ rfl); have h1 := (BW.cell (World.block_lt_of_cell? _ _ h0)).trans h0; simpa only [Nat.add_zero, ← Nat.add_assoc] using h1
      have x5 : wr.cell? ⟨g, off + k * 11 + 5, none⟩ = some (.string s1) := by have h0 := hx (k * 11 + 5) _ (hd 5 _ rfl); have h1 := (BW.cell (World.block_lt_of_cell? _ _ h0)).trans h0; simpa only [Nat.add_zero, ← Nat.add_assoc] using h1
      have x6 : wr.cell? ⟨g, off + k * 11 + 6, none⟩ = some (.int .i64 m1) := by have h0 := hx (k * 11 + 6) _ (hd 6 _ rfl); have h1 := (BW.cell (World.block_lt_of_cell? _ _ h0)).trans h0; simpa only [Nat.add_zero, ← Nat.add_assoc] using h1
      have x7 : wr.cell? ⟨g, off + k * 11 + 7, none⟩ = some (.slice g4 n4 c4) := by have h0 := hx (k * 11 + 7) _ (hd 7 _ rfl); have h1 := (BW.cell (World.block_lt_of_cell? _ _ h0)).trans h0; simpa only [Nat.add_zero, ← Nat.add_assoc] using h1
      have x8 : wr.cell? ⟨g, off + k * 11 + 8, none⟩ = some (.slice g5 n5 c5) := by have h0 := hx (k * 11 + 8) _ (hd 8 _ rfl); have h1 := (BW.cell (World.block_lt_of_cell? _ _ h0)).trans h0; simpa only [Nat.add_zero, ← Nat.add_assoc] using h1
      have x9 : wr.cell? ⟨g, off + k * 11 + 9, none⟩ = some (.slice g6 n6 c6) := by have h0 := hx (k * 11 + 9) _ (hd 9 _ rfl); have h1 := (BW.cell (World.block_lt_of_cell? _ _ h0)).trans h0; simpa only [Nat.add_zero, ← Nat.add_assoc] using h1
      have x10 : wr.cell? ⟨g, off + k * 11 + 10, none⟩ = some (.slice g7 n7 c7) := by have h0 := hx (k * 11 + 10) _ (hd 10 _ rfl); have h1 := (BW.cell (World.block_lt_of_cell? _ _ h0)).trans h0; simpa only [Nat.add_zero, ← Nat.add_assoc] using h1
      have hlt' : (k : Int) < n := by omega
      have SO : ∀ o, Calls Tryd.prog 24 #[.agg #[.int .i64 k0, .int .i64 a1, .string s1, .int .i64 m1, .slice g4 n4 c4, .slice g5 n5 c5, .slice g6 n6 c6, .slice g7 n7 c7]] (wr.alloc o) fun e w' => e = .returned (.int .i64 (szI (cntE (bodyB (bs[k]'kb))))) ∧ Below (wr.alloc o).heap.size (wr.alloc o) w' := fun o =>
        sizeOf_any (bodyB (bs[k]'kb)) (wr.alloc o) ok _ (fun g hg => by have := HOK.out g hg; have := BW.size; simp; omega) (isE_keeps (keeps_below ((Below.refl wr.heap.size wr).alloc (Nat.le_refl _) o) (fun _ h => h)) _ _ (isE_keeps (keeps_below BW (fun _ h => h)) _ _ hde))
      have HA : Hid (sumC ((bs.take (k + 1)).map bodyB) = sumC ((bs.take k).map bodyB) + cntE (bodyB (bs[k]'kb))) := ⟨by rw [take_more bs k kb, List.map_append, sumC_app]; simp [sumC]⟩
      have ha := szI_add (sumC ((bs.take k).map bodyB)) (cntE (bodyB (bs[k]'kb)))
      rw [← HA.out] at ha
      obtain ⟨r, hr⟩ : ∃ r, szI (sumC ((bs.take (k + 1)).map bodyB)) = r := ⟨_, rfl⟩
      have HR2 : Hid (szI (sumC ((bs.take (k + 1)).map bodyB)) = r) := ⟨hr⟩
      rw [hr] at ha
      generalize szI (sumC ((bs.take k).map bodyB)) = p at *
      generalize szI (cntE (bodyB (bs[k]'kb))) = q at *
      clear hr hx hd hd0 hde
      go_wp2_with (first
        | (go_at_call 24; refine (SO _).mono ?_; rintro e w2 ⟨rfl, B2⟩; have BW2 := BW.trans (Joins.below_le (((Below.refl wr.heap.size wr).alloc (Nat.le_refl _) _).trans (Joins.below_le B2 (by simp))) BW.size)))
      go_roundw
      case rel => exact ⟨k + 1, by go_num, by omega, by rw [HR2.out], BW2⟩
      case measure => simp [intOf]; omega
    · obtain rfl : k = n := by omega
      have HX : Hid (szI (sumC ((bs.take k).map bodyB)) = R) := ⟨by rw [← HR.out, ← HN.out, List.take_length]⟩
      generalize szI (sumC ((bs.take k).map bodyB)) = p at *
      go_wp2
      go_ret
      exact ⟨by rw [← HX.out]; rfl, BW⟩

end Go.Proofs.YtoedeedoecdajaaDoor
