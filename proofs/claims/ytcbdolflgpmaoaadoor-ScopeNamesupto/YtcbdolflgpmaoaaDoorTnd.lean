/- ScopeNames: a name turned, a list of names turned; append, with what it leaves as it was. -/
import Derived.Test.YtcbdolflgpmaoaaDoorWok
import Derived.Deep.MidRow
namespace Go.Proofs.YtcbdolflgpmaoaaDoor
open Go.RowKit
set_option linter.unusedVariables false
set_option linter.unusedSimpArgs false

theorem str_quote (s : Nm) : str s ++ ⟨#[39]⟩ = str (s ++ [39]) := by
  unfold str
  apply ByteArray.ext
  simp [ByteArray.data_append]
theorem str_toList (s : Nm) : (str s).toList = s := by
  rw [ByteArray.toList_eq, str_list]
set_option maxHeartbeats 400000 in
theorem turned_any (s : Nm) (hl : s.length ≤ 1048576) (w : World) :
    Calls Tryd.prog 27 #[.string (str s)] w fun e w' => e = .returned (.string (str (turn s))) ∧ w' = w := by
  have hz : ¬ 9223372036854775807 < (str s).size + 1 := by
    have : (str s).size = s.length := by simp [str, ByteArray.size]
    rw [this]
    skip
    omega
  have hq := str_quote s
  have g1 : ((str s).toList == [109, 97, 105, 110]) = (s == mainN) := by rw [str_toList]; rfl
  have g2 : (str s).toList.isEmpty = List.isEmpty s := by rw [str_toList]
  obtain ⟨z, ez⟩ : ∃ z, z = str s := ⟨_, rfl⟩
  rw [← ez] at hz hq g1 g2 ⊢
  clear hl
  by_cases h1 : s = mainN
  · have q : turn s = s := by unfold turn; rw [if_pos (.inl h1)]
    have k1 : (s == mainN) = true := by rw [h1]; rfl
    rw [q, ← ez]
    rw [k1] at g1
    clear h1 q k1 ez hq g2
    go_enter Tryd.func27, Tryd.ntmps27
    go_wp2
    go_ret
    exact ⟨rfl, rfl⟩
  · by_cases h2 : s = []
    · have q : turn s = s := by unfold turn; rw [if_pos (.inr h2)]
      have k1 : (s == mainN) = false := beq_eq_false_iff_ne.2 h1
      have k2 : List.isEmpty s = true := by rw [h2]; rfl
      rw [q, ← ez]
      rw [k1] at g1
      rw [k2] at g2
      clear h1 h2 q k1 k2 ez hq
      go_enter Tryd.func27, Tryd.ntmps27
      go_wp2
      go_ret
      exact ⟨rfl, rfl⟩
    · have k1 : (s == mainN) = false := beq_eq_false_iff_ne.2 h1
      have k2 : List.isEmpty s = false := by cases s with | nil => exact absurd rfl h2 | cons => rfl
      have q : turn s = s ++ [39] := by unfold turn; rw [if_neg (fun h => h.elim h1 h2)]
      rw [q, ← hq]
      rw [k1] at g1
      rw [k2] at g2
      clear h1 h2 q k1 k2 ez hq
      go_enter Tryd.func27, Tryd.ntmps27
      go_wp2
      go_ret
      exact ⟨rfl, rfl⟩
set_option maxRecDepth 100000 in
set_option maxHeartbeats 1000000 in
theorem turnall_any {w : World} {ok : Nat → Prop} (bs : List Nm) (v : Value) (R : IsRow w ok (strC bs) bs.length v) (I : ∀ s ∈ bs, s.length ≤ 1048576) :
    Calls Tryd.prog 28 #[v] w fun e w' => ∃ r, e = .returned r ∧ Below w.heap.size w w' ∧ Nw w' w.heap.size r (bs.map turn) := by
  obtain ⟨ga, cap, rfl, hc, hx⟩ := R
  have HX : Hid ((0 < bs.length → ∃ g off, ga = some ⟨g, off, none⟩ ∧ ok g ∧ ∀ (j : Nat) (u : Value), (strC bs)[j]? = some u → w.cell? ⟨g, off + j, none⟩ = some u) ∧ ∀ s ∈ bs, s.length ≤ 1048576) := ⟨hx, I⟩
  obtain ⟨n, hn⟩ : ∃ n, bs.length = n := ⟨_, rfl⟩
  have HN : Hid (bs.length = n) := ⟨hn⟩
  rw [hn] at hc ⊢
  clear hn hx I
  obtain ⟨i0, hi, hz0, hz1, hz2⟩ := info_parts info9
  go_enter Tryd.func28, Tryd.ntmps28
  go_wp2
  go_loopw [3, 4] (fun v c wr => ∃ k : Nat, c = .int .i64 k ∧ k ≤ n ∧ Below w.heap.size w wr ∧ Nw wr w.heap.size v ((bs.take k).map turn)) (fun _ c _ => n - (intOf c).toNat)
  case atStart => exact ⟨0, rfl, Nat.zero_le _, Below.refl _ _, by rw [List.take_zero]; exact Nw.nil _ _⟩
  case round =>
    obtain ⟨k, rfl, hk, BW, OW⟩ := hrel
    by_cases hlt : k < n
    · have kl : k < bs.length := by rw [HN.out]; exact hlt
      obtain ⟨g, off, rfl, _, hx⟩ := HX.out.1 (by omega)
      have c0 := hx k _ (strC_get bs k kl)
      have hsl := HX.out.2 (bs[k]'kl) (List.getElem_mem kl)
      replace c0 := (BW.cell (World.block_lt_of_cell? _ _ c0)).trans c0
      have hlt' : (k : Int) < n := by omega
      have e1 : (bs.take (k + 1)).map turn = (bs.take k).map turn ++ [turn (bs[k]'kl)] := by rw [← List.take_append_getElem kl, List.map_append, List.map_cons, List.map_nil]
      have HE : Hid ((bs.take (k + 1)).map turn = (bs.take k).map turn ++ [turn (bs[k]'kl)]) := ⟨e1⟩
      have e2 : ((bs.take k).map turn).length = k := by rw [List.length_map, List.length_take]; omega
      have HO : Hid (RowS wr w.heap.size 9 1 u3 k (strC ((bs.take k).map turn))) := ⟨by have := OW; unfold Nw at this; rwa [e2] at this⟩
      have HBW : Hid (Below w.heap.size w wr) := ⟨BW⟩
      have sB := BW.size
      have HM : Hid (k + 1 ≤ maxLen ∧ (k + 1) * 16 ≤ 140737488355328) := ⟨by unfold maxLen; omega, by omega⟩
      generalize bs[k]'kl = s0 at c0 HE hsl
      have TC := turned_any s0 hsl wr
      generalize turn s0 = nm at TC HE
      clear hx OW BW e1 e2 hsl
      have HS : Hid (0 < 1 → ∃ ad, some (⟨wr.heap.size, 0, none⟩ : Addr) = some ad ∧ ∀ j u, [Value.string (str nm)][j]? = some u → (wr.alloc (.cells #[.string (str nm)] 9)).cell? (ad.add j) = some u) := ⟨fun _ => ⟨_, rfl, new_one⟩⟩
      have HA : Hid (Below wr.heap.size wr (wr.alloc (.cells #[.string (str nm)] 9))) := ⟨Joins.below_alloc1 wr _⟩
      go_wp2_with (first | (go_at_call 27; refine TC.mono ?_; rintro e w9 ⟨rfl, h9⟩; obtain rfl : wr = w9 := h9.symm; clear h9 TC) | (at_builtin; refine wpList_append_T rfl (.tmp 11) (.tmp 17) 38 rfl w.heap.size 9 i0 _ 1 16 Tryd.underlying38 hi hz0 hz1 hz2 rfl (by decide) u3 k (strC ((bs.take k).map turn)) rfl (RowS.kept HO.out HA.out) (some ⟨wr.heap.size, 0, none⟩) 1 1 [.string (str nm)] rfl rfl HS.out one_cell (k + 1) rfl (strC ((bs.take k).map turn) ++ [.string (str nm)]) rfl HM.out.1 HM.out.2 (Nat.le_trans sB HA.out.size) ?_; intro g1 c1 w1 R1 B1; have HR1 : Hid (RowS w1 w.heap.size 9 1 (.slice g1 (k + 1) c1) (k + 1) (strC ((bs.take k).map turn) ++ [.string (str nm)])) := ⟨R1⟩; have HB1 : Hid (Below w.heap.size w w1) := ⟨(HBW.out.trans (Joins.below_le HA.out sB)).trans B1⟩; clear R1 B1))
      refine ⟨⟨k + 1, by go_num, by omega, HB1.out, ?_⟩, by simp [intOf]; omega⟩
      unfold Nw
      rw [HE.out, strC_snoc, List.length_append, List.length_map, List.length_take, Nat.min_eq_left (by omega)]
      exact HR1.out
    · obtain rfl : k = n := by omega
      have HO : Hid (Nw wr w.heap.size u3 (bs.map turn)) := ⟨by have := OW; rwa [List.take_of_length_le (by rw [HN.out]; exact Nat.le_refl _)] at this⟩
      have HBW : Hid (Below w.heap.size w wr) := ⟨BW⟩
      clear BW OW
      go_wp2
      go_ret
      exact ⟨_, rfl, HBW.out, HO.out⟩

theorem wpList_append_G {P : Program} {w : World} {ops : Array Oper} {rest : List Oper} {o : Oper} {a : Act} {Q : Exit → Act → World → Prop} (hgd : o.guard = none) (s x : Operand) (t : TypeId)
    (ho : o.op = .call { callee := .builtin .append, args := #[s, x], argTypes := #[t, t] })
    (base : Nat) (e : TypeId) (i : TypeInfo) (z : Value) (size bytes : Nat) (ht : P.underlying t = some (.slice e)) (hi : P.info? e = some i) (hz : i.zero = some z)
    (hsize : i.size = size) (hby : i.bytes = bytes) (hzs : z.cells.size = size) (hsz : 0 < size)
    (v : Value) (n : Nat) (xs : List Value) (hs : a.eval s = v) (hown : w.ownsRow base e size v n xs)
    (ad : Addr) (c : Nat) (news : List Value) (hx : a.eval x = .slice (some ad) 1 c) (hl : news.length = 1 * size) (hnews : ∀ j u, news[j]? = some u → w.cell? (ad.add j) = some u) (h1 : ∀ u ∈ news, u.oneCell' = true)
    (h63 : n + 1 ≤ maxLen) (hbytes : (n + 1) * bytes ≤ 140737488355328) (hbase : base ≤ w.heap.size)
    (h : ∀ g cap' w', w'.ownsRow base e size (.slice (some ⟨g, 0, none⟩) (n + 1) cap') (n + 1) (xs ++ news) → w.grownBy w' v.ownBlock → (v.ownBlock = some g ∨ g = w.heap.size) → wpList P ops Q rest (a.put o.dst (.slice (some ⟨g, 0, none⟩) (n + 1) cap')) w') : wpList P ops Q (o :: rest) a w := by
  refine wpList_plain hgd fun K hK => ?_
  obtain ⟨g, cap, w', hr, h2, h3, h4, _⟩ := run_append_lies (P := P) w t o.type base e i z size bytes ht hi hz hsize hby hzs hsz v n xs hown ad 1 c news hl hnews h1 (by decide) h63 hbytes hbase _ rfl
  unfold Oper.wp
  simp [execOp, ho, resolve, invoke, builtin, hs, hx, hr, Result.andThen]
  exact hK _ _ (h g cap w' h2 h3 h4)
/-- what the row that is being made points to: made by the call, and not the row's own block -/
def inz (z : Nat) (w : World) (v : Value) : Nat → Prop := fun g => z ≤ g ∧ g < w.heap.size ∧ v.ownBlock ≠ some g
/-- what lies at B or above stays -/
structure Up (B : Nat) (w w' : World) : Prop where
  size : w.heap.size ≤ w'.heap.size
  blk : ∀ i, B ≤ i → i < w.heap.size → w'.heap[i]? = w.heap[i]?
section
variable {B : Nat} {w w1 w2 : World}
theorem Up.refl (B : Nat) (w : World) : Up B w w := ⟨Nat.le_refl _, fun _ _ _ => rfl⟩
theorem Up.grown {row : Option Nat} (h : Up B w w1) (k : w1.grownBy w2 row) (hr : ∀ i, row = some i → i < B) : Up B w w2 :=
  ⟨Nat.le_trans h.size k.size, fun i hB hi => (k.block i (Nat.lt_of_lt_of_le hi h.size) (fun e => by have := hr i e.symm; omega)).trans (h.blk i hB hi)⟩
theorem Up.below (h : Up B w w1) (k : Below w1.heap.size w1 w2) : Up B w w2 := ⟨Nat.le_trans h.size k.size, fun i hB hi => (k.block i (Nat.lt_of_lt_of_le hi h.size)).trans (h.blk i hB hi)⟩
theorem Up.alloc (h : Up B w w1) (o : Obj) : Up B w (w1.alloc o) := h.below (Joins.below_alloc1 w1 o)
theorem Up.set (h : Up B w w1) {X : Nat} (hX : X < B) (j : Nat) (v : Value) : Up B w (w1.setCell ⟨X, j, none⟩ v) := h.grown (row := some X) (grown_set w1 X j v) (fun i e => by cases e; exact hX)
end
theorem keeps_inz_old {W W1 W2 : World} {z g cap m : Nat} {v : Value} (B : Below W.heap.size W W1) (G : W1.grownBy W2 v.ownBlock) (hat : v.ownBlock = some g ∨ g = W1.heap.size) :
    Keeps (inz z W v) (inz z W2 (.slice (some ⟨g, 0, none⟩) m cap)) W W2 := by
  have s1 := B.size
  have s2 := G.size
  refine ⟨fun q off u hq hc => ?_, fun q hq => ⟨hq.1, by have := hq.2.1; omega, fun e => ?_⟩⟩
  · have e1 := B.block q hq.2.1
    have e2 := G.block q (by have := hq.2.1; omega) (fun e => hq.2.2 e.symm)
    have e : W2.cell? ⟨q, off, none⟩ = W.cell? ⟨q, off, none⟩ := by simp only [World.cell?, e2, e1]
    rw [e]; exact hc
  · simp only [Value.ownBlock, Option.some.injEq] at e
    rcases hat with h | h
    · exact hq.2.2 (by rw [h, e])
    · have := hq.2.1; omega
theorem keeps_inz_new {wc wd W1 W2 : World} {z Y g cap m : Nat} {v : Value} (hY : Y < wc.heap.size) (A : Up (Y + 1) wd W1) (G : W1.grownBy W2 v.ownBlock) (hv : ∀ i, v.ownBlock = some i → i ≤ Y) (hat : v.ownBlock = some g ∨ g = W1.heap.size) (hz : z ≤ Y) :
    Keeps (new wc wd) (inz z W2 (.slice (some ⟨g, 0, none⟩) m cap)) wd W2 := by
  have s1 := A.size
  have s2 := G.size
  refine ⟨fun q off u hq hc => ?_, fun q hq => ⟨by have := hq.1; omega, by have := hq.2; omega, fun e => ?_⟩⟩
  · have e1 := A.blk q (by have := hq.1; omega) hq.2
    have e2 := G.block q (by have := hq.2; omega) (fun e => by have := hv q e.symm; have := hq.1; omega)
    have e : W2.cell? ⟨q, off, none⟩ = wd.cell? ⟨q, off, none⟩ := by simp only [World.cell?, e2, e1]
    rw [e]; exact hc
  · simp only [Value.ownBlock, Option.some.injEq] at e
    rcases hat with h | h
    · have := hv g h; have := hq.1; omega
    · have := hq.2; omega
theorem Nw.new {w w' : World} {v : Value} {l : List Nm} (h : Nw w' w.heap.size v l) (hl : l.length ≤ 1000000000) : IsRow w' (new w w') (strC l) l.length v := by
  unfold Nw at h
  generalize l.length = n at h hl ⊢
  generalize strC l = xs at h ⊢
  rcases h with ⟨rfl, rfl, ga, rfl⟩ | h
  · exact ⟨ga, 0, rfl, ⟨Nat.le_refl _, by omega⟩, fun z => absurd z (Nat.lt_irrefl 0)⟩
  · exact row_of_owns h (fun g e => h.lt g e) hl
end Go.Proofs.YtcbdolflgpmaoaaDoor

/- ScopeNames: binds with other names. -/
namespace Go.Proofs.YtcbdolflgpmaoaaDoor
open Go.RowKit
set_option linter.unusedVariables false
set_option linter.unusedSimpArgs false

abbrev all (w : World) : Nat → Prop := fun g => g < w.heap.size
/-- an expression with other names: made anew -/
def TE (x : E) : Prop := ∀ (w : World) (c : List Value), isE w (all w) x c → Calls Tryd.prog 29 #[.agg c.toArray] w fun e w' => Below w.heap.size w w' ∧ ∃ c', e = .returned (.agg c'.toArray) ∧ isE w' (new w w') (turnE x) c'
def TBs (bs : List B) : Prop := ∀ (w : World) (v : Value) (xb : List Value), IsRow w (all w) xb bs.length v → isBs w (all w) bs xb → Calls Tryd.prog 14 #[v] w fun e w' => Below w.heap.size w w' ∧ ∃ v' xb', e = .returned v' ∧ IsRow w' (new w w') xb' bs.length v' ∧ isBs w' (new w w') (turnBs bs) xb'
def bodB : B → E | .mk _ _ _ x => x
theorem keeps_all {w w' : World} (h : Below w.heap.size w w') : Keeps (all w) (all w') w w' := keeps_below h (fun g hg => Nat.lt_of_lt_of_le hg h.size)
theorem Bx.store {W : World} {Y : Nat} {cs : Array Value} {t : TypeId} (h : Bx W Y cs t) (j : Nat) (v : Value) : Bx (W.setCell ⟨Y, j, none⟩ v) Y (cs.setIfInBounds j v) t := Joins.block_setCell h v
theorem Bx.z {w : World} {m : Nat} {cs : Array Value} {t : TypeId} (h : Bx w m cs t) (j : Nat) : w.frozen? ⟨m, j, none⟩ = false := Joins.unfrozen_of_block h j
theorem Bx.store11 {W : World} {Y : Nat} {t : TypeId} {a0 a1 a2 a3 a4 a5 a6 a7 a8 a9 a10 : Value} (h : Bx W Y #[a0, a1, a2, a3, a4, a5, a6, a7, a8, a9, a10] t) (v0 v1 v2 v3 v4 v5 v6 v7 : Value) : Bx ((((((((W.setCell ⟨Y, 3, none⟩ v0).setCell ⟨Y, 4, none⟩ v1).setCell ⟨Y, 5, none⟩ v2).setCell ⟨Y, 6, none⟩ v3).setCell ⟨Y, 7, none⟩ v4).setCell ⟨Y, 8, none⟩ v5).setCell ⟨Y, 9, none⟩ v6).setCell ⟨Y, 10, none⟩ v7) Y #[a0, a1, a2, v0, v1, v2, v3, v4, v5, v6, v7] t := by
  have h0 : Bx (W.setCell ⟨Y, 3, none⟩ v0) Y #[a0, a1, a2, v0, a4, a5, a6, a7, a8, a9, a10] t := Bx.store h 3 v0
  have h1 : Bx ((W.setCell ⟨Y, 3, none⟩ v0).setCell ⟨Y, 4, none⟩ v1) Y #[a0, a1, a2, v0, v1, a5, a6, a7, a8, a9, a10] t := Bx.store h0 4 v1
  have h2 : Bx (((W.setCell ⟨Y, 3, none⟩ v0).setCell ⟨Y, 4, none⟩ v1).setCell ⟨Y, 5, none⟩ v2) Y #[a0, a1, a2, v0, v1, v2, a6, a7, a8, a9, a10] t := Bx.store h1 5 v2
  have h3 : Bx ((((W.setCell ⟨Y, 3, none⟩ v0).setCell ⟨Y, 4, none⟩ v1).setCell ⟨Y, 5, none⟩ v2).setCell ⟨Y, 6, none⟩ v3) Y #[a0, a1, a2, v0, v1, v2, v3, a7, a8, a9, a10] t := Bx.store h2 6 v3
  have h4 : Bx (((((W.setCell ⟨Y, 3, none⟩ v0).setCell ⟨Y, 4, none⟩ v1).setCell ⟨Y, 5, none⟩ v2).setCell ⟨Y, 6, none⟩ v3).setCell ⟨Y, 7, none⟩ v4) Y #[a0, a1, a2, v0, v1, v2, v3, v4, a8, a9, a10] t := Bx.store h3 7 v4
  have h5 : Bx ((((((W.setCell ⟨Y, 3, none⟩ v0).setCell ⟨Y, 4, none⟩ v1).setCell ⟨Y, 5, none⟩ v2).setCell ⟨Y, 6, none⟩ v3).setCell ⟨Y, 7, none⟩ v4).setCell ⟨Y, 8, none⟩ v5) Y #[a0, a1, a2, v0, v1, v2, v3, v4, v5, a9, a10] t := Bx.store h4 8 v5
  have h6 : Bx (((((((W.setCell ⟨Y, 3, none⟩ v0).setCell ⟨Y, 4, none⟩ v1).setCell ⟨Y, 5, none⟩ v2).setCell ⟨Y, 6, none⟩ v3).setCell ⟨Y, 7, none⟩ v4).setCell ⟨Y, 8, none⟩ v5).setCell ⟨Y, 9, none⟩ v6) Y #[a0, a1, a2, v0, v1, v2, v3, v4, v5, v6, a10] t := Bx.store h5 9 v6
  have h7 : Bx ((((((((W.setCell ⟨Y, 3, none⟩ v0).setCell ⟨Y, 4, none⟩ v1).setCell ⟨Y, 5, none⟩ v2).setCell ⟨Y, 6, none⟩ v3).setCell ⟨Y, 7, none⟩ v4).setCell ⟨Y, 8, none⟩ v5).setCell ⟨Y, 9, none⟩ v6).setCell ⟨Y, 10, none⟩ v7) Y #[a0, a1, a2, v0, v1, v2, v3, v4, v5, v6, v7] t := Bx.store h6 10 v7
  exact h7

theorem Bx.there {W : World} {Y : Nat} {cs : Array Value} {t : TypeId} (h : Bx W Y cs t) (o n : Nat) (hn : o + n ≤ cs.size) : W.there Y o n := fun j hj => ⟨by rw [h.cell, Array.getElem?_eq_getElem (by omega)]; rfl, h.z _⟩
theorem Bx.mid11 {W : World} {Y : Nat} {t : TypeId} {a0 a1 a2 a3 a4 a5 a6 a7 a8 a9 a10 : Value} (h : Bx W Y #[a0, a1, a2, a3, a4, a5, a6, a7, a8, a9, a10] t) (v0 v1 v2 v3 v4 v5 v6 v7 : Value) : Bx (W.setCells Y 3 [v0, v1, v2, v3, v4, v5, v6, v7]) Y #[a0, a1, a2, v0, v1, v2, v3, v4, v5, v6, v7] t := h.store11 v0 v1 v2 v3 v4 v5 v6 v7
theorem grown_setCells (W : World) (Y o : Nat) (vs : List Value) : W.grownBy (W.setCells Y o vs) (some Y) := by
  induction vs generalizing W o with
  | nil => exact ⟨rfl, rfl, rfl, Nat.le_refl _, fun _ _ _ => rfl⟩
  | cons v r ih =>
    have g := grown_set W Y o v
    have k := ih (W.setCell ⟨Y, o, none⟩ v) (o + 1)
    exact ⟨k.os.trans g.os, k.tape.trans g.tape, k.output.trans g.output, Nat.le_trans g.size k.size, fun i hi he => (k.block i (Nat.lt_of_lt_of_le hi g.size) he).trans (g.block i hi he)⟩
theorem size45b : (Tryd.prog.info? 45).map (·.size) = some 8 := by kernel_rfl
theorem blw_set {w W : World} (h : Below w.heap.size w W) {X : Nat} (hX : w.heap.size ≤ X) (j : Nat) (v : Value) : Below w.heap.size w (W.setCell ⟨X, j, none⟩ v) :=
  have g := grown_set W X j v
  ⟨g.os.trans h.os, g.tape.trans h.tape, g.output.trans h.output, Nat.le_trans h.size g.size, fun i hi => (g.block i (Nat.lt_of_lt_of_le hi h.size) (fun e => by have e' : i = X := Option.some.inj e; omega)).trans (h.block i hi)⟩
theorem blw_grown {w W W' : World} {row : Option Nat} (h : Below w.heap.size w W) (g : W.grownBy W' row) (hr : ∀ i, row = some i → w.heap.size ≤ i) : Below w.heap.size w W' :=
  ⟨g.os.trans h.os, g.tape.trans h.tape, g.output.trans h.output, Nat.le_trans h.size g.size, fun i hi => (g.block i (Nat.lt_of_lt_of_le hi h.size) (fun e => by have := hr i e.symm; omega)).trans (h.block i hi)⟩
theorem blw_below {w W W' : World} (h : Below w.heap.size w W) (k : Below W.heap.size W W') : Below w.heap.size w W' := h.trans (Joins.below_le k h.size)
theorem own_blw {w w' : World} {base size n : Nat} {e : TypeId} {v : Value} {xs : List Value} (h : w.ownsRow base e size v n xs) (hb : Below w.heap.size w w') : w'.ownsRow base e size v n xs :=
  World.ownsRow.kept (row := none) h ⟨hb.os, hb.tape, hb.output, hb.size, fun k hk _ => hb.block k hk⟩ (by cases v.ownBlock <;> simp)
theorem turnBs_snoc (l : List B) (x : B) : turnBs (l ++ [x]) = turnBs l ++ [turnB x] := by
  induction l with
  | nil => rfl
  | cons y r ih => simp only [List.cons_append, turnBs, ih]
theorem turnBs_take (l : List B) (k : Nat) (h : k < l.length) : turnBs (l.take (k + 1)) = turnBs (l.take k) ++ [turnB (l[k]'h)] := by rw [List.take_succ_eq_append_getElem h, turnBs_snoc]
theorem wtBs_get : ∀ (l : List B) (x : B), x ∈ l → wtB x ≤ wtBs l
  | [], s, h => by cases h
  | y :: r, s, h => by
    rcases List.mem_cons.1 h with rfl | h
    · simp only [wtBs]; omega
    · have := wtBs_get r s h; simp only [wtBs]; omega
theorem isB_open {w : World} {ok : Nat → Prop} {x : B} {c : List Value} (h : isB w ok x c) : ∃ (nm : Nm) (a : Int) (al : List Nm) (y : E) (hA : Option Addr) (zA : Nat) (k1 xa1 xm : Int) (xs : ByteArray) (h4 h5 h6 h7 : Option Addr) (m4 m5 m6 m7 z4 z5 z6 z7 : Nat),
    x = .mk nm a al y ∧ c = [.string (str nm), .int .i64 a, .slice hA al.length zA, .int .i64 k1, .int .i64 xa1, .string xs, .int .i64 xm, .slice h4 m4 z4, .slice h5 m5 z5, .slice h6 m6 z6, .slice h7 m7 z7] ∧ IsRow w ok (strC al) al.length (.slice hA al.length zA) ∧ isE w ok y [.int .i64 k1, .int .i64 xa1, .string xs, .int .i64 xm, .slice h4 m4 z4, .slice h5 m5 z5, .slice h6 m6 z6, .slice h7 m7 z7] := by
  obtain ⟨nm, a, al, y⟩ := x
  simp only [isB] at h
  obtain ⟨va, d, rfl, hr, h⟩ := h
  obtain ⟨k, xa, m, s, g4, g5, g6, g7, n4, n5, n6, n7, c4, c5, c6, c7, rfl⟩ := isE_eight h
  have hr0 := hr
  obtain ⟨hA, zA, rfl, _⟩ := hr
  exact ⟨nm, a, al, y, hA, zA, _, _, _, _, _, _, _, _, _, _, _, _, _, _, _, _, rfl, rfl, hr0, h⟩
theorem size49b : (Tryd.prog.info? 49).map (·.size) = some 11 := by kernel_rfl
theorem Nw.slice {w : World} {z : Nat} {v : Value} {l : List Nm} (h : Nw w z v l) : ∃ ga cap, v = .slice ga l.length cap := by
  obtain ⟨ga, cap, e, _⟩ := RowS.le h
  exact ⟨ga, cap, e⟩
set_option maxRecDepth 100000 in
set_option maxHeartbeats 8000000 in
theorem tbinds_any (bs : List B) (hw : wtBs bs ≤ 1048576) (HB : ∀ x ∈ bs, TE (bodB x)) : TBs bs := by
  intro w v xb R I
  obtain ⟨ga, cap, rfl, hc, hx⟩ := R
  have HX := Hid.mk (And.intro hx I)
  have HW := Hid.mk hw
  have HHB := Hid.mk HB
  obtain ⟨n, hn⟩ : ∃ n, bs.length = n := ⟨_, rfl⟩
  have HN : Hid (bs.length = n) := ⟨hn⟩
  rw [hn] at hc
  rw [hn]
  clear hn hx I hw HB
  obtain ⟨i0, hi, hz0, hz1, hz2⟩ := info_parts info49
  go_enter Tryd.func14, Tryd.ntmps14
  go_wp2
  go_loopw [3, 4] (fun v c wr => ∃ (k : Nat) (xa : List Value), c = .int .i64 k ∧ k ≤ n ∧ Hid (Below w.heap.size w wr) ∧ Hid (wr.ownsRow w.heap.size 49 11 v k xa) ∧ Hid (isBs wr (inz w.heap.size wr v) (turnBs (bs.take k)) xa)) (fun _ c _ => n - (intOf c).toNat)
  case atStart => exact ⟨0, [], rfl, Nat.zero_le _, ⟨Below.refl _ _⟩, ⟨World.ownsRow_nil _ _ _ _⟩, ⟨by rw [List.take_zero]; simp only [turnBs, isBs]⟩⟩
  case round =>
    obtain ⟨k, xa, rfl, hk, BW, OW, IW⟩ := hrel
    by_cases hlt : k < n
    · have kl : k < bs.length := by rw [HN.out]; exact hlt
      obtain ⟨g, off, rfl, _, hx⟩ := HX.out.1 (by omega)
      obtain ⟨d, hd, hg⟩ := isBs_get bs xb HX.out.2 k kl
      have hm := List.getElem_mem kl
      have hwb := wtBs_get bs _ hm
      have hbd := HHB.out _ hm
      obtain ⟨nm, a, al, y, hA, zA, k1, xa1, xm, xs, h4, h5, h6, h7, m4, m5, m6, m7, z4, z5, z6, z7, eb, rfl, RA, IE⟩ := isB_open hd
      have bl : ∀ (j : Nat) (u : Value), [Value.string (str nm), .int .i64 a, .slice hA al.length zA, .int .i64 k1, .int .i64 xa1, .string xs, .int .i64 xm, .slice h4 m4 z4, .slice h5 m5 z5, .slice h6 m6 z6, .slice h7 m7 z7][j]? = some u → wr.cell? ⟨g, off + k * 11 + j, none⟩ = some u := fun j u hj => by
        have h0 := hx _ _ (hg j u hj)
        rw [← Nat.add_assoc] at h0
        exact (BW.out.cell (World.block_lt_of_cell? _ _ h0)).trans h0
      have c0 := bl 0 _ rfl
      have c1 := bl 1 _ rfl
      have c2 := bl 2 _ rfl
      have c3 := bl 3 _ rfl
      have c4 := bl 4 _ rfl
      have c5 := bl 5 _ rfl
      have c6 := bl 6 _ rfl
      have c7 := bl 7 _ rfl
      have c8 := bl 8 _ rfl
      have c9 := bl 9 _ rfl
      have c10 := bl 10 _ rfl
      rw [Nat.add_zero] at c0
      have HTK : Hid (turnBs (bs.take (k + 1)) = turnBs (bs.take k) ++ [.mk (turn nm) a (al.map turn) (turnE y)]) := ⟨by rw [turnBs_take bs k kl, eb]; rfl⟩
      rw [eb] at hwb hbd
      simp only [wtB] at hwb
      have hwa := HW.out
      have TC := turned_any nm (by omega) (wr.alloc (.cells #[.string (str nm), .int .i64 a, .slice hA al.length zA, .int .i64 k1, .int .i64 xa1, .string xs, .int .i64 xm, .slice h4 m4 z4, .slice h5 m5 z5, .slice h6 m6 z6, .slice h7 m7 z7] 49))
      have HAL := Hid.mk (fun (W : World) (R : IsRow W (all W) (strC al) al.length (.slice hA al.length zA)) => turnall_any al _ R (fun s hs => by have := wtN_mem hs; omega))
      have hla := RA.choose_spec.choose_spec.2.1.2
      have HTE := Hid.mk (show TE y from hbd)
      have HRA := Hid.mk (And.intro RA IE)
      have XW : Bx (wr.alloc (.cells #[.string (str nm), .int .i64 a, .slice hA al.length zA, .int .i64 k1, .int .i64 xa1, .string xs, .int .i64 xm, .slice h4 m4 z4, .slice h5 m5 z5, .slice h6 m6 z6, .slice h7 m7 z7] 49)) wr.heap.size #[.string (str nm), .int .i64 a, .slice hA al.length zA, .int .i64 k1, .int .i64 xa1, .string xs, .int .i64 xm, .slice h4 m4 z4, .slice h5 m5 z5, .slice h6 m6 z6, .slice h7 m7 z7] 49 := heap_alloc_new wr _
      have HB1 := Hid.mk (Joins.below_alloc1 wr (.cells #[.string (str nm), .int .i64 a, .slice hA al.length zA, .int .i64 k1, .int .i64 xa1, .string xs, .int .i64 xm, .slice h4 m4 z4, .slice h5 m5 z5, .slice h6 m6 z6, .slice h7 m7 z7] 49))
      have hlt' : (k : Int) < n := by omega
      have sB := BW.out.size
      have HM : Hid (k + 1 ≤ maxLen ∧ (k + 1) * 184 ≤ 140737488355328) := ⟨by unfold maxLen; omega, by omega⟩
      generalize hnA : al.length = nA at *
      have HNA := Hid.mk hnA
      clear hx hd hg bl hm hwb hbd eb hwa RA IE hnA XW HB1
      have XW : Bx (wr.alloc (.cells #[.string (str nm), .int .i64 a, .slice hA nA zA, .int .i64 k1, .int .i64 xa1, .string xs, .int .i64 xm, .slice h4 m4 z4, .slice h5 m5 z5, .slice h6 m6 z6, .slice h7 m7 z7] 49)) wr.heap.size #[.string (str nm), .int .i64 a, .slice hA nA zA, .int .i64 k1, .int .i64 xa1, .string xs, .int .i64 xm, .slice h4 m4 z4, .slice h5 m5 z5, .slice h6 m6 z6, .slice h7 m7 z7] 49 := heap_alloc_new wr _
      have y0 := XW.cell 0
      have x0 := XW.z 0
      have X1 : Bx (wr.alloc (.cells #[.string (str (turn nm)), .int .i64 a, .slice hA nA zA, .int .i64 k1, .int .i64 xa1, .string xs, .int .i64 xm, .slice h4 m4 z4, .slice h5 m5 z5, .slice h6 m6 z6, .slice h7 m7 z7] 49)) wr.heap.size #[.string (str (turn nm)), .int .i64 a, .slice hA nA zA, .int .i64 k1, .int .i64 xa1, .string xs, .int .i64 xm, .slice h4 m4 z4, .slice h5 m5 z5, .slice h6 m6 z6, .slice h7 m7 z7] 49 := heap_alloc_new wr _
      have y2 := X1.cell 2
      have x2 := X1.z 2
      have HX1 := Hid.mk X1
      have HB1 := Hid.mk (Joins.below_alloc1 wr (.cells #[.string (str (turn nm)), .int .i64 a, .slice hA nA zA, .int .i64 k1, .int .i64 xa1, .string xs, .int .i64 xm, .slice h4 m4 z4, .slice h5 m5 z5, .slice h6 m6 z6, .slice h7 m7 z7] 49))
      have C28 := HAL.out _ (HRA.out.1.keeps (keeps_all (blw_below BW.out HB1.out)))
      clear X1 XW HAL
      go_wp2_with (first
        | (at_builtin; (refine wpList_append_G rfl (.tmp 32) (.tmp 34) 23 rfl w.heap.size 49 i0 _ 11 184 Tryd.underlying23 hi hz0 hz1 hz2 rfl (by decide) u3 k xa rfl (own_blw OW.out HB5.out) ⟨w5.heap.size, 0, none⟩ 1 [.string (str (turn nm)), .int .i64 a, .slice gA nA cA, .int .i64 k2, .int .i64 xa2, .string xs2, .int .i64 xm2, .slice j4 p4 q4, .slice j5 p5 q5, .slice j6 p6 q6, .slice j7 p7 q7] rfl rfl (World.news_of_block (heap_alloc_new _ _)) (by simp [Value.oneCell']) HM.out.1 HM.out.2 HZ5.out ?_); intro q5 cap5 w6 O6 G6 A6; have H6 := Hid.mk (And.intro O6 (And.intro G6 A6)); clear O6 G6 A6)
        | (refine wpList_load_row rfl 49 _ rfl wr.heap.size rfl 49 _ (0, 0) _ HX5.out Tryd.underlying49 rfl size49b ?_)
        | ((refine wpList_store_mid rfl 45 _ _ rfl wr.heap.size 3 #[.int .i64 k2, .int .i64 xa2, .string xs2, .int .i64 xm2, .slice j4 p4 q4, .slice j5 p5 q5, .slice j6 p6 q6, .slice j7 p7 q7] rfl rfl (HX4.out.there 3 8 (Nat.le_refl 11)) size45b (by simp [Value.oneCell']) ?_); have HX5 := Hid.mk (HX4.out.mid11 (.int .i64 k2) (.int .i64 xa2) (.string xs2) (.int .i64 xm2) (.slice j4 p4 q4) (.slice j5 p5 q5) (.slice j6 p6 q6) (.slice j7 p7 q7)); have HG5 := Hid.mk (grown_setCells w4 wr.heap.size 3 [.int .i64 k2, .int .i64 xa2, .string xs2, .int .i64 xm2, .slice j4 p4 q4, .slice j5 p5 q5, .slice j6 p6 q6, .slice j7 p7 q7]); have e5 : (#[.int .i64 k2, .int .i64 xa2, .string xs2, .int .i64 xm2, .slice j4 p4 q4, .slice j5 p5 q5, .slice j6 p6 q6, .slice j7 p7 q7] : Array Value).toList = [.int .i64 k2, .int .i64 xa2, .string xs2, .int .i64 xm2, .slice j4 p4 q4, .slice j5 p5 q5, .slice j6 p6 q6, .slice j7 p7 q7] := rfl; rw [e5]; clear e5; generalize (w4.setCells wr.heap.size 3 [.int .i64 k2, .int .i64 xa2, .string xs2, .int .i64 xm2, .slice j4 p4 q4, .slice j5 p5 q5, .slice j6 p6 q6, .slice j7 p7 q7]) = w5 at HX5 HG5 ⊢; have HB5 := Hid.mk (blw_below (blw_grown HB4.out HG5.out (fun i e => by cases e; exact Nat.le_refl _)) (Joins.below_alloc1 w5 (.cells #[.string (str (turn nm)), .int .i64 a, .slice gA nA cA, .int .i64 k2, .int .i64 xa2, .string xs2, .int .i64 xm2, .slice j4 p4 q4, .slice j5 p5 q5, .slice j6 p6 q6, .slice j7 p7 q7] 49))); have HU5 := Hid.mk (And.intro ((HU3.out.grown HG5.out (fun i e => by cases e; exact Nat.lt_succ_self _)).alloc (.cells #[.string (str (turn nm)), .int .i64 a, .slice gA nA cA, .int .i64 k2, .int .i64 xa2, .string xs2, .int .i64 xm2, .slice j4 p4 q4, .slice j5 p5 q5, .slice j6 p6 q6, .slice j7 p7 q7] 49)) (((Up.refl (wr.heap.size + 1) w4).grown HG5.out (fun i e => by cases e; exact Nat.lt_succ_self _)).alloc (.cells #[.string (str (turn nm)), .int .i64 a, .slice gA nA cA, .int .i64 k2, .int .i64 xa2, .string xs2, .int .i64 xm2, .slice j4 p4 q4, .slice j5 p5 q5, .slice j6 p6 q6, .slice j7 p7 q7] 49))); have HZ5 := Hid.mk (Nat.le_trans sB HB5.out.size))
        | (go_at_call 27; refine TC.mono ?_; rintro e w9 ⟨rfl, h9⟩; obtain rfl := h9.symm; clear TC)
        | (go_at_call 29; refine C29.mono ?_; rintro e w4 ⟨B4, c', rfl, I4⟩; obtain ⟨k2, xa2, xm2, xs2, j4, j5, j6, j7, p4, p5, p6, p7, q4, q5, q6, q7, rfl⟩ := isE_eight I4; have HX4 := Hid.mk (HX3.out.later B4); have HB4 := Hid.mk (blw_below HB3.out B4); have HU3 := Hid.mk ((((Up.refl (wr.heap.size + 1) _).set (Nat.lt_succ_self _) 2 (.slice gA nA cA)).below B4)); have HI4 := Hid.mk I4; clear B4 I4 C29 r3 r4 r5 r6 r7 r8 r9 r10 x2' y2' y0 x0 y2 x2 c0 c1 c2 c3 c4 c5 c6 c7 c8 c9 c10)
        | (go_at_call 28; refine C28.mono ?_; rintro e w3 ⟨v3, rfl, B3, N3⟩; obtain ⟨gA, cA, e3⟩ := N3.slice; rw [List.length_map, HNA.out] at e3; subst e3; have X3 := HX1.out.later B3; have x2' := X3.z 2; have y2' := X3.cell 2; have X3p := X3.store 2 (.slice gA nA cA); have r3 : (w3.setCell ⟨wr.heap.size, 2, none⟩ (.slice gA nA cA)).cell? ⟨wr.heap.size, 3, none⟩ = some (.int .i64 k1) := X3p.cell 3; have r4 : (w3.setCell ⟨wr.heap.size, 2, none⟩ (.slice gA nA cA)).cell? ⟨wr.heap.size, 4, none⟩ = some (.int .i64 xa1) := X3p.cell 4; have r5 : (w3.setCell ⟨wr.heap.size, 2, none⟩ (.slice gA nA cA)).cell? ⟨wr.heap.size, 5, none⟩ = some (.string xs) := X3p.cell 5; have r6 : (w3.setCell ⟨wr.heap.size, 2, none⟩ (.slice gA nA cA)).cell? ⟨wr.heap.size, 6, none⟩ = some (.int .i64 xm) := X3p.cell 6; have r7 : (w3.setCell ⟨wr.heap.size, 2, none⟩ (.slice gA nA cA)).cell? ⟨wr.heap.size, 7, none⟩ = some (.slice h4 m4 z4) := X3p.cell 7; have r8 : (w3.setCell ⟨wr.heap.size, 2, none⟩ (.slice gA nA cA)).cell? ⟨wr.heap.size, 8, none⟩ = some (.slice h5 m5 z5) := X3p.cell 8; have r9 : (w3.setCell ⟨wr.heap.size, 2, none⟩ (.slice gA nA cA)).cell? ⟨wr.heap.size, 9, none⟩ = some (.slice h6 m6 z6) := X3p.cell 9; have r10 : (w3.setCell ⟨wr.heap.size, 2, none⟩ (.slice gA nA cA)).cell? ⟨wr.heap.size, 10, none⟩ = some (.slice h7 m7 z7) := X3p.cell 10; have HX3 : Hid (Bx (w3.setCell ⟨wr.heap.size, 2, none⟩ (.slice gA nA cA)) wr.heap.size #[.string (str (turn nm)), .int .i64 a, .slice gA nA cA, .int .i64 k1, .int .i64 xa1, .string xs, .int .i64 xm, .slice h4 m4 z4, .slice h5 m5 z5, .slice h6 m6 z6, .slice h7 m7 z7] 49) := ⟨X3p⟩; have HB3 := Hid.mk (blw_set (blw_below HB1.out B3) (Nat.le_refl _) 2 (.slice gA nA cA)); have C29 := HTE.out _ _ (isE_keeps (keeps_all (blw_below BW.out HB3.out)) _ _ HRA.out.2); have HN3 := Hid.mk N3; clear X3 X3p C28 B3 N3))
      refine ⟨⟨k + 1, _, by go_num, by omega, ⟨blw_grown (blw_below BW.out HB5.out) H6.out.2.1 (fun i e => ((own_blw OW.out HB5.out).lt i e).1)⟩, ⟨H6.out.1⟩, ⟨?_⟩⟩, by simp [intOf]; omega⟩
      rw [HTK.out]
      have hv : ∀ i, u3.ownBlock = some i → i ≤ wr.heap.size := fun i e => Nat.le_of_lt (OW.out.lt i e).2
      have K3 := keeps_inz_new (z := w.heap.size) (m := k + 1) (cap := cap5) HX1.out.lt HU5.out.1 H6.out.2.1 hv H6.out.2.2 sB
      have K4 := keeps_inz_new (z := w.heap.size) (m := k + 1) (cap := cap5) HX3.out.lt HU5.out.2 H6.out.2.1 hv H6.out.2.2 sB
      refine isBs_snoc _ _ _ _ (isBs_keeps (keeps_inz_old HB5.out H6.out.2.1 H6.out.2.2) _ _ IW.out) ?_
      simp only [isB]
      have RN := (HN3.out.new (by rw [List.length_map, HNA.out]; exact hla)).keeps K3
      rw [List.length_map, HNA.out] at RN
      exact ⟨_, _, rfl, by rw [List.length_map, HNA.out]; exact RN, isE_keeps K4 _ _ HI4.out⟩
    · obtain rfl : k = n := by omega
      have hh : bs.take k = bs := List.take_of_length_le (by rw [HN.out]; exact Nat.le_refl _)
      have HI := Hid.mk (by have := IW.out; rwa [hh] at this : isBs wr (inz w.heap.size wr u3) (turnBs bs) xa)
      have hkl : k ≤ 1000000000 := hc.2
      clear hh IW
      go_wp2
      go_ret
      exact ⟨BW.out, _, xa, rfl, row_of_owns OW.out (fun g e => OW.out.lt g e) hkl, isBs_keeps ⟨fun _ _ _ _ h => h, fun g hg => ⟨hg.1, hg.2.1⟩⟩ _ _ HI.out⟩
end Go.Proofs.YtcbdolflgpmaoaaDoor

/- ScopeNames: what stays as it was while lists of trees are made. -/
namespace Go.Proofs.YtcbdolflgpmaoaaDoor
open Go.RowKit
set_option linter.unusedVariables false
set_option linter.unusedSimpArgs false

abbrev nilS : Value := .slice none 0 0
theorem inz_store {z X : Nat} (hX : X < z) (W : World) (v : Value) (j : Nat) (u : Value) : Keeps (inz z W v) (inz z (W.setCell ⟨X, j, none⟩ u) v) W (W.setCell ⟨X, j, none⟩ u) := by
  have g := grown_set W X j u
  refine ⟨fun q off c hq hc => ?_, fun q hq => ⟨hq.1, Nat.lt_of_lt_of_le hq.2.1 g.size, hq.2.2⟩⟩
  have hne : q ≠ X := by have := hq.1; omega
  have e : (W.setCell ⟨X, j, none⟩ u).cell? ⟨q, off, none⟩ = W.cell? ⟨q, off, none⟩ := by simp only [World.cell?, g.block q hq.2.1 (fun e => hne (Option.some.inj e))]
  rw [e]; exact hc
theorem inz_nil {z : Nat} {W : World} {v : Value} : Keeps (inz z W v) (inz z W nilS) W W := ⟨fun _ _ _ _ h => h, fun q hq => ⟨hq.1, hq.2.1, by simp [nilS, Value.ownBlock]⟩⟩
theorem inz_new {z : Nat} {W W' : World} (hz : z ≤ W.heap.size) : Keeps (new W W') (inz z W' nilS) W' W' := ⟨fun _ _ _ _ h => h, fun q hq => ⟨Nat.le_trans hz hq.1, hq.2, by simp [nilS, Value.ownBlock]⟩⟩
theorem rowz_nil {z size n : Nat} {W : World} {e : TypeId} {v : Value} {xs : List Value} (h : W.ownsRow z e size v n xs) (hn : n ≤ 1000000000) : IsRow W (inz z W nilS) xs n v :=
  row_of_owns h (fun g e => ⟨(h.lt g e).1, (h.lt g e).2, by simp [nilS, Value.ownBlock]⟩) hn
theorem inz_below {z : Nat} {W W' : World} {v : Value} (B : Below W.heap.size W W') : Keeps (inz z W v) (inz z W' v) W W' :=
  ⟨fun q off u hq hc => by
    have e : W'.cell? ⟨q, off, none⟩ = W.cell? ⟨q, off, none⟩ := by simp only [World.cell?, B.block q hq.2.1]
    rw [e]; exact hc, fun q hq => ⟨hq.1, Nat.lt_of_lt_of_le hq.2.1 B.size, hq.2.2⟩⟩
theorem keeps_new2 {W W8 W8a W9 : World} {z g cap m : Nat} {v : Value} (A : Below W8.heap.size W8 W8a) (G : W8a.grownBy W9 v.ownBlock) (hv : ∀ i, v.ownBlock = some i → i < W.heap.size) (hat : v.ownBlock = some g ∨ g = W8a.heap.size) (hz : z ≤ W.heap.size) :
    Keeps (new W W8) (inz z W9 (.slice (some ⟨g, 0, none⟩) m cap)) W8 W9 := by
  have s1 := A.size
  have s2 := G.size
  refine ⟨fun q off u hq hc => ?_, fun q hq => ⟨Nat.le_trans hz hq.1, by have := hq.2; omega, fun e => ?_⟩⟩
  · have e1 := A.block q hq.2
    have e2 := G.block q (by have := hq.2; omega) (fun e => by have := hv q e.symm; have := hq.1; omega)
    have e : W9.cell? ⟨q, off, none⟩ = W8.cell? ⟨q, off, none⟩ := by simp only [World.cell?, e2, e1]
    rw [e]; exact hc
  · simp only [Value.ownBlock, Option.some.injEq] at e
    rcases hat with h | h
    · have := hv g h; have := hq.1; omega
    · have := hq.2; omega
theorem keeps_end {w W W' : World} (G : W.grownBy W' (some (w.heap.size + 1))) : Keeps (inz (w.heap.size + 3) W nilS) (new w W') W W' :=
  ⟨fun q off u hq hc => by
    have hne : q ≠ w.heap.size + 1 := by have := hq.1; omega
    have e : W'.cell? ⟨q, off, none⟩ = W.cell? ⟨q, off, none⟩ := by simp only [World.cell?, G.block q hq.2.1 (fun e => hne (Option.some.inj e))]
    rw [e]; exact hc, fun q hq => ⟨by have := hq.1; omega, Nat.lt_of_lt_of_le hq.2.1 G.size⟩⟩
theorem turnEs_snoc (l : List E) (x : E) : turnEs (l ++ [x]) = turnEs l ++ [turnE x] := by
  induction l with
  | nil => rfl
  | cons y r ih => rw [List.cons_append, turnEs, ih, turnEs]; rfl
theorem turnAs_snoc (l : List A) (x : A) : turnAs (l ++ [x]) = turnAs l ++ [turnA x] := by
  induction l with
  | nil => rfl
  | cons y r ih => rw [List.cons_append, turnAs, ih, turnAs]; rfl
theorem turnEs_take (l : List E) (k : Nat) (h : k < l.length) : turnEs (l.take (k + 1)) = turnEs (l.take k) ++ [turnE (l[k]'h)] := by rw [List.take_succ_eq_append_getElem h, turnEs_snoc]
theorem turnAs_take (l : List A) (k : Nat) (h : k < l.length) : turnAs (l.take (k + 1)) = turnAs (l.take k) ++ [turnA (l[k]'h)] := by rw [List.take_succ_eq_append_getElem h, turnAs_snoc]
/-- one more of a list of trees -/
theorem kid_step {W W8 W8a W9 : World} {z X g cap i j : Nat} {v u : Value} {l : List E} {x : E} {xs c' : List Value} (hX : X < z) (hz : z ≤ W.heap.size) (B8 : Below W.heap.size W W8) (A : Below W8.heap.size W8 W8a) (G : W8a.grownBy W9 v.ownBlock) (hat : v.ownBlock = some g ∨ g = W8a.heap.size)
    (OW : W.ownsRow z 45 8 v i xs) (IK : isEs W (inz z W v) l xs) (I8 : isE W8 (new W W8) x c') :
    isEs (W9.setCell ⟨X, j, none⟩ u) (inz z (W9.setCell ⟨X, j, none⟩ u) (.slice (some ⟨g, 0, none⟩) (i + 1) cap)) (l ++ [x]) (xs ++ c') ∧ Keeps (inz z W v) (inz z (W9.setCell ⟨X, j, none⟩ u) (.slice (some ⟨g, 0, none⟩) (i + 1) cap)) W (W9.setCell ⟨X, j, none⟩ u) := by
  have K1 := keeps_inz_old (z := z) (m := i + 1) (cap := cap) (blw_below B8 A) G hat
  have K2 := keeps_new2 (z := z) (m := i + 1) (cap := cap) A G (fun i e => (OW.lt i e).2) hat hz
  have K3 := inz_store hX W9 (.slice (some ⟨g, 0, none⟩) (i + 1) cap) j u
  refine ⟨isEs_keeps K3 _ _ (isEs_snoc _ _ _ _ (isEs_keeps K1 _ _ IK) (isE_keeps K2 _ _ I8)), ⟨fun q off c hq hc => K3.cell q off c (K1.ok q hq) (K1.cell q off c hq hc), fun q hq => K3.ok q (K1.ok q hq)⟩⟩
theorem isA_opened {w : World} {ok : Nat → Prop} {x : A} {c : List Value} (h : isA w ok x c) : ∃ (ak aa : Int) (nm : Nm) (am : Int) (vs : List Nm) (y : E) (hA : Option Addr) (zA : Nat) (k1 xa1 xm : Int) (xs : ByteArray) (h4 h5 h6 h7 : Option Addr) (m4 m5 m6 m7 z4 z5 z6 z7 : Nat),
    x = .mk ak aa nm am vs y ∧ c = [.int .i64 ak, .int .i64 aa, .string (str nm), .int .i64 am, .slice hA vs.length zA, .int .i64 k1, .int .i64 xa1, .string xs, .int .i64 xm, .slice h4 m4 z4, .slice h5 m5 z5, .slice h6 m6 z6, .slice h7 m7 z7] ∧ IsRow w ok (strC vs) vs.length (.slice hA vs.length zA) ∧ isE w ok y [.int .i64 k1, .int .i64 xa1, .string xs, .int .i64 xm, .slice h4 m4 z4, .slice h5 m5 z5, .slice h6 m6 z6, .slice h7 m7 z7] := by
  obtain ⟨ak, aa, nm, am, vs, y⟩ := x
  simp only [isA] at h
  obtain ⟨va, d, rfl, hr, h⟩ := h
  obtain ⟨k, xa, m, s, g4, g5, g6, g7, n4, n5, n6, n7, c4, c5, c6, c7, rfl⟩ := isE_eight h
  have hr0 := hr
  obtain ⟨hA, zA, rfl, _⟩ := hr
  exact ⟨ak, aa, nm, am, vs, y, hA, zA, _, _, _, _, _, _, _, _, _, _, _, _, _, _, _, _, rfl, rfl, hr0, h⟩
theorem wtAs_get : ∀ (l : List A) (x : A), x ∈ l → wtA x ≤ wtAs l
  | [], s, h => by cases h
  | y :: r, s, h => by
    rcases List.mem_cons.1 h with rfl | h
    · simp only [wtAs]; omega
    · have := wtAs_get r s h; simp only [wtAs]; omega
theorem wtEs_get : ∀ (l : List E) (x : E), x ∈ l → wtE x ≤ wtEs l
  | [], s, h => by cases h
  | y :: r, s, h => by
    rcases List.mem_cons.1 h with rfl | h
    · simp only [wtEs]; omega
    · have := wtEs_get r s h; simp only [wtEs]; omega
theorem info45 : (Tryd.prog.info? 45).map (fun i => (i.zero, i.size, i.bytes)) = some (some (.agg #[.int .i64 0, .int .i64 0, .string ⟨#[]⟩, .int .i64 0, nilS, nilS, nilS, nilS]), 8, 136) := by kernel_rfl
theorem info92 : (Tryd.prog.info? 92).map (fun i => (i.zero, i.size, i.bytes)) = some (some (.agg #[.int .i64 0, .int .i64 0, .string ⟨#[]⟩, .int .i64 0, nilS, .int .i64 0, .int .i64 0, .string ⟨#[]⟩, .int .i64 0, nilS, nilS, nilS, nilS]), 13, 200) := by kernel_rfl
theorem size92b : (Tryd.prog.info? 92).map (·.size) = some 13 := by kernel_rfl
theorem Bx.store13 {W : World} {Y : Nat} {t : TypeId} {a0 a1 a2 a3 a4 a5 a6 a7 a8 a9 a10 a11 a12 : Value} (h : Bx W Y #[a0, a1, a2, a3, a4, a5, a6, a7, a8, a9, a10, a11, a12] t) (v0 v1 v2 v3 v4 v5 v6 v7 : Value) : Bx ((((((((W.setCell ⟨Y, 5, none⟩ v0).setCell ⟨Y, 6, none⟩ v1).setCell ⟨Y, 7, none⟩ v2).setCell ⟨Y, 8, none⟩ v3).setCell ⟨Y, 9, none⟩ v4).setCell ⟨Y, 10, none⟩ v5).setCell ⟨Y, 11, none⟩ v6).setCell ⟨Y, 12, none⟩ v7) Y #[a0, a1, a2, a3, a4, v0, v1, v2, v3, v4, v5, v6, v7] t := by
  have h0 : Bx (W.setCell ⟨Y, 5, none⟩ v0) Y #[a0, a1, a2, a3, a4, v0, a6, a7, a8, a9, a10, a11, a12] t := Bx.store h 5 v0
  have h1 : Bx ((W.setCell ⟨Y, 5, none⟩ v0).setCell ⟨Y, 6, none⟩ v1) Y #[a0, a1, a2, a3, a4, v0, v1, a7, a8, a9, a10, a11, a12] t := Bx.store h0 6 v1
  have h2 : Bx (((W.setCell ⟨Y, 5, none⟩ v0).setCell ⟨Y, 6, none⟩ v1).setCell ⟨Y, 7, none⟩ v2) Y #[a0, a1, a2, a3, a4, v0, v1, v2, a8, a9, a10, a11, a12] t := Bx.store h1 7 v2
  have h3 : Bx ((((W.setCell ⟨Y, 5, none⟩ v0).setCell ⟨Y, 6, none⟩ v1).setCell ⟨Y, 7, none⟩ v2).setCell ⟨Y, 8, none⟩ v3) Y #[a0, a1, a2, a3, a4, v0, v1, v2, v3, a9, a10, a11, a12] t := Bx.store h2 8 v3
  have h4 : Bx (((((W.setCell ⟨Y, 5, none⟩ v0).setCell ⟨Y, 6, none⟩ v1).setCell ⟨Y, 7, none⟩ v2).setCell ⟨Y, 8, none⟩ v3).setCell ⟨Y, 9, none⟩ v4) Y #[a0, a1, a2, a3, a4, v0, v1, v2, v3, v4, a10, a11, a12] t := Bx.store h3 9 v4
  have h5 : Bx ((((((W.setCell ⟨Y, 5, none⟩ v0).setCell ⟨Y, 6, none⟩ v1).setCell ⟨Y, 7, none⟩ v2).setCell ⟨Y, 8, none⟩ v3).setCell ⟨Y, 9, none⟩ v4).setCell ⟨Y, 10, none⟩ v5) Y #[a0, a1, a2, a3, a4, v0, v1, v2, v3, v4, v5, a11, a12] t := Bx.store h4 10 v5
  have h6 : Bx (((((((W.setCell ⟨Y, 5, none⟩ v0).setCell ⟨Y, 6, none⟩ v1).setCell ⟨Y, 7, none⟩ v2).setCell ⟨Y, 8, none⟩ v3).setCell ⟨Y, 9, none⟩ v4).setCell ⟨Y, 10, none⟩ v5).setCell ⟨Y, 11, none⟩ v6) Y #[a0, a1, a2, a3, a4, v0, v1, v2, v3, v4, v5, v6, a12] t := Bx.store h5 11 v6
  have h7 : Bx ((((((((W.setCell ⟨Y, 5, none⟩ v0).setCell ⟨Y, 6, none⟩ v1).setCell ⟨Y, 7, none⟩ v2).setCell ⟨Y, 8, none⟩ v3).setCell ⟨Y, 9, none⟩ v4).setCell ⟨Y, 10, none⟩ v5).setCell ⟨Y, 11, none⟩ v6).setCell ⟨Y, 12, none⟩ v7) Y #[a0, a1, a2, a3, a4, v0, v1, v2, v3, v4, v5, v6, v7] t := Bx.store h6 12 v7
  exact h7
theorem Bx.mid13 {W : World} {Y : Nat} {t : TypeId} {a0 a1 a2 a3 a4 a5 a6 a7 a8 a9 a10 a11 a12 : Value} (h : Bx W Y #[a0, a1, a2, a3, a4, a5, a6, a7, a8, a9, a10, a11, a12] t) (v0 v1 v2 v3 v4 v5 v6 v7 : Value) : Bx (W.setCells Y 5 [v0, v1, v2, v3, v4, v5, v6, v7]) Y #[a0, a1, a2, a3, a4, v0, v1, v2, v3, v4, v5, v6, v7] t := h.store13 v0 v1 v2 v3 v4 v5 v6 v7
theorem Bx.store8 {W : World} {Y : Nat} {t : TypeId} {a0 a1 a2 a3 a4 a5 a6 a7 : Value} (h : Bx W Y #[a0, a1, a2, a3, a4, a5, a6, a7] t) (v0 v1 v2 v3 v4 v5 v6 v7 : Value) : Bx ((((((((W.setCell ⟨Y, 0, none⟩ v0).setCell ⟨Y, 1, none⟩ v1).setCell ⟨Y, 2, none⟩ v2).setCell ⟨Y, 3, none⟩ v3).setCell ⟨Y, 4, none⟩ v4).setCell ⟨Y, 5, none⟩ v5).setCell ⟨Y, 6, none⟩ v6).setCell ⟨Y, 7, none⟩ v7) Y #[v0, v1, v2, v3, v4, v5, v6, v7] t := by
  have h0 : Bx (W.setCell ⟨Y, 0, none⟩ v0) Y #[v0, a1, a2, a3, a4, a5, a6, a7] t := Bx.store h 0 v0
  have h1 : Bx ((W.setCell ⟨Y, 0, none⟩ v0).setCell ⟨Y, 1, none⟩ v1) Y #[v0, v1, a2, a3, a4, a5, a6, a7] t := Bx.store h0 1 v1
  have h2 : Bx (((W.setCell ⟨Y, 0, none⟩ v0).setCell ⟨Y, 1, none⟩ v1).setCell ⟨Y, 2, none⟩ v2) Y #[v0, v1, v2, a3, a4, a5, a6, a7] t := Bx.store h1 2 v2
  have h3 : Bx ((((W.setCell ⟨Y, 0, none⟩ v0).setCell ⟨Y, 1, none⟩ v1).setCell ⟨Y, 2, none⟩ v2).setCell ⟨Y, 3, none⟩ v3) Y #[v0, v1, v2, v3, a4, a5, a6, a7] t := Bx.store h2 3 v3
  have h4 : Bx (((((W.setCell ⟨Y, 0, none⟩ v0).setCell ⟨Y, 1, none⟩ v1).setCell ⟨Y, 2, none⟩ v2).setCell ⟨Y, 3, none⟩ v3).setCell ⟨Y, 4, none⟩ v4) Y #[v0, v1, v2, v3, v4, a5, a6, a7] t := Bx.store h3 4 v4
  have h5 : Bx ((((((W.setCell ⟨Y, 0, none⟩ v0).setCell ⟨Y, 1, none⟩ v1).setCell ⟨Y, 2, none⟩ v2).setCell ⟨Y, 3, none⟩ v3).setCell ⟨Y, 4, none⟩ v4).setCell ⟨Y, 5, none⟩ v5) Y #[v0, v1, v2, v3, v4, v5, a6, a7] t := Bx.store h4 5 v5
  have h6 : Bx (((((((W.setCell ⟨Y, 0, none⟩ v0).setCell ⟨Y, 1, none⟩ v1).setCell ⟨Y, 2, none⟩ v2).setCell ⟨Y, 3, none⟩ v3).setCell ⟨Y, 4, none⟩ v4).setCell ⟨Y, 5, none⟩ v5).setCell ⟨Y, 6, none⟩ v6) Y #[v0, v1, v2, v3, v4, v5, v6, a7] t := Bx.store h5 6 v6
  have h7 : Bx ((((((((W.setCell ⟨Y, 0, none⟩ v0).setCell ⟨Y, 1, none⟩ v1).setCell ⟨Y, 2, none⟩ v2).setCell ⟨Y, 3, none⟩ v3).setCell ⟨Y, 4, none⟩ v4).setCell ⟨Y, 5, none⟩ v5).setCell ⟨Y, 6, none⟩ v6).setCell ⟨Y, 7, none⟩ v7) Y #[v0, v1, v2, v3, v4, v5, v6, v7] t := Bx.store h6 7 v7
  exact h7
theorem Bx.mid8 {W : World} {Y : Nat} {t : TypeId} {a0 a1 a2 a3 a4 a5 a6 a7 : Value} (h : Bx W Y #[a0, a1, a2, a3, a4, a5, a6, a7] t) (v0 v1 v2 v3 v4 v5 v6 v7 : Value) : Bx (W.setCells Y 0 [v0, v1, v2, v3, v4, v5, v6, v7]) Y #[v0, v1, v2, v3, v4, v5, v6, v7] t := h.store8 v0 v1 v2 v3 v4 v5 v6 v7
end Go.Proofs.YtcbdolflgpmaoaaDoor
