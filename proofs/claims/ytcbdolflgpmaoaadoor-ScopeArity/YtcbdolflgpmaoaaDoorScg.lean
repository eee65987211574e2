/- append of any number of items onto a row of the call's own, or onto an empty one. -/
import Derived.Test.YtcbdolflgpmaoaaDoorScd
import Derived.Laws.AppendOwnNone
namespace Go.Proofs.YtcbdolflgpmaoaaDoor
open Go.RowKit
set_option linter.unusedVariables false
set_option linter.unusedSimpArgs false

theorem run_append_zero {P : Program} (w : World) (t ty e : TypeId) (i : TypeInfo) (ht : P.underlying t = some (.slice e)) (hi : P.info? e = some i) (base : Option Addr) (sLen sCap : Nat) (hle : sLen ≤ sCap) (ga : Option Addr) (cap : Nat) :
    (Builtin.append_ #[t, t] ty #[.slice base sLen sCap, .slice ga 0 cap]).run P w = .ok (.slice base sLen sCap) w := by
  cases ga <;> cases base <;> simp [Builtin.append_, run_underlying ht, sizeOf, typeInfo, hi, hle, storeCells, Builtin.lenOf, Builtin.firstCells, loadCells, go_sem]
/-- a row of the call's own; or an empty slice without room -/
def RowS (w : World) (base : Nat) (e : TypeId) (size : Nat) (v : Value) (n : Nat) (xs : List Value) : Prop :=
  (n = 0 ∧ xs = [] ∧ ∃ ga, v = .slice ga 0 0) ∨ w.ownsRow base e size v n xs
theorem RowS.le {w : World} {base size n : Nat} {e : TypeId} {v : Value} {xs : List Value} (h : RowS w base e size v n xs) : ∃ ga cap, v = .slice ga n cap ∧ n ≤ cap := by
  rcases h with ⟨rfl, rfl, ga, rfl⟩ | h
  · exact ⟨ga, 0, rfl, Nat.le_refl _⟩
  · rcases h.2 with ⟨rfl, h0⟩ | ⟨g, cap, cur, rfl, _, _, hc, _⟩
    · exact ⟨none, 0, by rw [h0], by omega⟩
    · exact ⟨_, _, rfl, hc⟩
theorem below_grown {w w' : World} {base size n : Nat} {e : TypeId} {v : Value} {xs : List Value} (h : w.ownsRow base e size v n xs) (g : w.grownBy w' v.ownBlock) (hb : base ≤ w.heap.size) : Below base w w' :=
  ⟨g.os, g.tape, g.output, g.size, fun k hk => g.block k (by omega) (fun q => by have := (h.lt k q.symm).1; omega)⟩
theorem run_append_S {P : Program} (w : World) (t ty e : TypeId) (base : Nat) (i : TypeInfo) (z : Value) (size bytes : Nat) (ht : P.underlying t = some (.slice e)) (hi : P.info? e = some i) (hz : i.zero = some z)
    (hsize : i.size = size) (hby : i.bytes = bytes) (hzs : z.cells.size = size) (hsz : 0 < size)
    (v : Value) (n : Nat) (xs : List Value) (hown : RowS w base e size v n xs) (ga : Option Addr) (m c : Nat) (news : List Value) (hl : news.length = m * size)
    (hnews : 0 < m → ∃ ad, ga = some ad ∧ ∀ j u, news[j]? = some u → w.cell? (ad.add j) = some u) (h1 : ∀ u ∈ news, u.oneCell' = true)
    (h63 : n + m ≤ maxLen) (hbytes : (n + m) * bytes ≤ 140737488355328) (hbase : base ≤ w.heap.size) :
    ∃ ga' cap' w', (Builtin.append_ #[t, t] ty #[v, .slice ga m c]).run P w = .ok (.slice ga' (n + m) cap') w' ∧ RowS w' base e size (.slice ga' (n + m) cap') (n + m) (xs ++ news) ∧ Below base w w' := by
  rcases Nat.eq_zero_or_pos m with rfl | hm
  · have hn : news = [] := List.eq_nil_of_length_eq_zero (by simpa using hl)
    subst hn
    obtain ⟨gu, cu, rfl, hle⟩ := hown.le
    exact ⟨gu, cu, w, run_append_zero w t ty e i ht hi gu n cu hle ga c, by simpa using hown, Below.refl _ _⟩
  · obtain ⟨ad, rfl, hc⟩ := hnews hm
    rcases hown with ⟨rfl, rfl, g0, rfl⟩ | hown
    · obtain ⟨g, cap, w', hr, h2, h3, _, _⟩ := run_append_lies (P := P) w t ty base e i z size bytes ht hi hz hsize hby hzs hsz (.slice none 0 0) 0 [] (World.ownsRow_nil _ _ _ _) ad m c news hl hc h1 hm h63 hbytes hbase _ rfl
      have hB := below_grown (World.ownsRow_nil w base e size) h3 hbase
      cases g0 with
      | none => exact ⟨_, cap, w', hr, .inr h2, hB⟩
      | some b =>
        have hsm : m ≤ 9223372036854775807 := by simp only [maxLen] at h63; omega
        have hb2 : m * i.bytes ≤ 140737488355328 := by rw [hby]; simpa using hbytes
        have hn := run_append_nil (P := P) w t ty e i z ht hi hz ad m c news (by rw [hsize]; exact hl) hc hm (by omega) (by omega)
        have hg := run_append_grow (P := P) w t ty e i z ht hi hz b 0 0 [] (by simp) (fun j v h => by simp at h) ad m c news (by rw [hsize]; exact hl) hc (by omega) (by omega) (growslice_fits (by omega) (by simpa using hb2))
        simp only [Nat.zero_add, List.append_nil, List.nil_append, Array.empty_append] at hg
        rw [← hn, hr] at hg
        exact ⟨_, cap, w', hg, .inr h2, hB⟩
    · obtain ⟨g, cap, w', hr, h2, h3, _, _⟩ := run_append_lies (P := P) w t ty base e i z size bytes ht hi hz hsize hby hzs hsz v n xs hown ad m c news hl hc h1 hm h63 hbytes hbase _ rfl
      exact ⟨_, cap, w', hr, .inr h2, below_grown hown h3 hbase⟩
theorem wpList_append_S {P : Program} {w : World} {ops : Array Oper} {rest : List Oper} {o : Oper} {a : Act} {Q : Exit → Act → World → Prop} (hgd : o.guard = none) (s x : Operand) (t : TypeId)
    (ho : o.op = .call { callee := .builtin .append, args := #[s, x], argTypes := #[t, t] })
    (base : Nat) (e : TypeId) (i : TypeInfo) (z : Value) (size bytes : Nat) (ht : P.underlying t = some (.slice e)) (hi : P.info? e = some i) (hz : i.zero = some z)
    (hsize : i.size = size) (hby : i.bytes = bytes) (hzs : z.cells.size = size) (hsz : 0 < size)
    (v : Value) (n : Nat) (xs : List Value) (hs : a.eval s = v) (hown : RowS w base e size v n xs)
    (ga : Option Addr) (m c : Nat) (news : List Value) (hx : a.eval x = .slice ga m c) (hl : news.length = m * size) (hnews : 0 < m → ∃ ad, ga = some ad ∧ ∀ j u, news[j]? = some u → w.cell? (ad.add j) = some u) (h1 : ∀ u ∈ news, u.oneCell' = true)
    (h63 : n + m ≤ maxLen) (hbytes : (n + m) * bytes ≤ 140737488355328) (hbase : base ≤ w.heap.size)
    (h : ∀ ga' cap' w', RowS w' base e size (.slice ga' (n + m) cap') (n + m) (xs ++ news) → Below base w w' → wpList P ops Q rest (a.put o.dst (.slice ga' (n + m) cap')) w') : wpList P ops Q (o :: rest) a w := by
  refine wpList_plain hgd fun K hK => ?_
  obtain ⟨ga', cap', w', hr, h2, h3⟩ := run_append_S (P := P) w t o.type e base i z size bytes ht hi hz hsize hby hzs hsz v n xs hown ga m c news hl hnews h1 h63 hbytes hbase
  unfold Oper.wp
  simp [execOp, ho, resolve, invoke, builtin, hs, hx, hr, Result.andThen]
  exact hK _ _ (h ga' cap' w' h2 h3)
theorem wpList_append_T {P : Program} {w : World} {ops : Array Oper} {rest : List Oper} {o : Oper} {a : Act} {Q : Exit → Act → World → Prop} (hgd : o.guard = none) (s x : Operand) (t : TypeId)
    (ho : o.op = .call { callee := .builtin .append, args := #[s, x], argTypes := #[t, t] })
    (base : Nat) (e : TypeId) (i : TypeInfo) (z : Value) (size bytes : Nat) (ht : P.underlying t = some (.slice e)) (hi : P.info? e = some i) (hz : i.zero = some z)
    (hsize : i.size = size) (hby : i.bytes = bytes) (hzs : z.cells.size = size) (hsz : 0 < size)
    (v : Value) (n : Nat) (xs : List Value) (hs : a.eval s = v) (hown : RowS w base e size v n xs)
    (ga : Option Addr) (m c : Nat) (news : List Value) (hx : a.eval x = .slice ga m c) (hl : news.length = m * size) (hnews : 0 < m → ∃ ad, ga = some ad ∧ ∀ j u, news[j]? = some u → w.cell? (ad.add j) = some u) (h1 : ∀ u ∈ news, u.oneCell' = true)
    (k : Nat) (hk : n + m = k) (ys : List Value) (hy : xs ++ news = ys)
    (h63 : k ≤ maxLen) (hbytes : k * bytes ≤ 140737488355328) (hbase : base ≤ w.heap.size)
    (h : ∀ ga' cap' w', RowS w' base e size (.slice ga' k cap') k ys → Below base w w' → wpList P ops Q rest (a.put o.dst (.slice ga' k cap')) w') : wpList P ops Q (o :: rest) a w := by
  subst hk hy
  exact wpList_append_S hgd s x t ho base e i z size bytes ht hi hz hsize hby hzs hsz v n xs hs hown ga m c news hx hl hnews h1 h63 hbytes hbase h
theorem info9 : (Tryd.prog.info? 9).map (fun i => (i.zero, i.size, i.bytes)) = some (some (.string ⟨#[]⟩), 1, 16) := by kernel_rfl
theorem strC_snoc (l : List (List UInt8)) (s : List UInt8) : strC (l ++ [s]) = strC l ++ [.string (str s)] := by simp [strC]
theorem strC_app (a b : List (List UInt8)) : strC (a ++ b) = strC a ++ strC b := by simp [strC]
theorem strC_one (l : List (List UInt8)) : ∀ u ∈ strC l, u.oneCell' = true := by
  intro u hu
  simp only [strC, List.mem_map] at hu
  obtain ⟨s, _, rfl⟩ := hu
  rfl
/-- a row of names that the call has made: it lies at or behind that place -/
def Nw (w : World) (z : Nat) (v : Value) (l : List Nm) : Prop := RowS w z 9 1 v l.length (strC l)
theorem Nw.row {w : World} {z : Nat} {v : Value} {l : List Nm} {ok : Nat → Prop} (h : Nw w z v l) (hl : l.length ≤ 1000000000) (ho : ∀ g, z ≤ g → ok g) : IsRow w ok (strC l) l.length v := by
  unfold Nw at h
  generalize l.length = n at h hl ⊢
  generalize strC l = xs at h ⊢
  rcases h with ⟨rfl, rfl, ga, rfl⟩ | h
  · exact ⟨ga, 0, rfl, ⟨Nat.le_refl _, by omega⟩, fun z => absurd z (Nat.lt_irrefl 0)⟩
  · exact row_of_owns h (fun g e => ho g (h.lt g e).1) hl
theorem row_src {w : World} {ok : Nat → Prop} {xs : List Value} {n c : Nat} {ga : Option Addr} (h : IsRow w ok xs n (.slice ga n c)) : 0 < n → ∃ ad, ga = some ad ∧ ∀ j u, xs[j]? = some u → w.cell? (ad.add j) = some u := fun hn => by
  obtain ⟨ga', c', e, _, hx⟩ := h
  simp only [Value.slice.injEq] at e
  obtain ⟨rfl, _, rfl⟩ := e
  obtain ⟨g, off, rfl, _, hx⟩ := hx hn
  refine ⟨_, rfl, fun j u hj => ?_⟩
  rw [show ((⟨g, off, none⟩ : Addr).add j) = ⟨g, off + j, none⟩ by unfold Addr.add; split <;> simp_all]
  exact hx j u hj
end Go.Proofs.YtcbdolflgpmaoaaDoor

/- The document's check: two lists of names in one. -/
namespace Go.Proofs.YtcbdolflgpmaoaaDoor
open Go.RowKit
set_option linter.unusedVariables false
set_option maxHeartbeats 400000 in
theorem with_any {w : World} {ok : Nat → Prop} (a b : List Nm) (va vb : Value) (A : IsRow w ok (strC a) a.length va) (B : IsRow w ok (strC b) b.length vb) (hl : a.length + b.length ≤ 1000000000) :
    Calls Tryd.prog 36 #[va, vb] w fun e w' => ∃ v, e = .returned v ∧ Below w.heap.size w w' ∧ Nw w' w.heap.size v (a ++ b) := by
  have A0 := A
  have B0 := B
  obtain ⟨ga, ca, rfl, za, ya⟩ := A
  obtain ⟨gb, cb, rfl, zb, yb⟩ := B
  clear ya yb
  obtain ⟨i0, hi, hz0, hz1, hz2⟩ := info_parts info9
  have SA := row_src A0
  have la : (strC a).length = a.length * 1 := by simp [strC]
  have lb : (strC b).length = b.length * 1 := by simp [strC]
  have HA : Hid (IsRow w ok (strC a) a.length (.slice ga a.length ca)) := ⟨A0⟩
  have HB : Hid (IsRow w ok (strC b) b.length (.slice gb b.length cb)) := ⟨B0⟩
  clear A0 B0 SA
  generalize hna : a.length = na at *
  generalize hnb : b.length = nb at *
  have b0 : Below w.heap.size w (w.alloc (.cells #[] 9)) := Joins.below_alloc1 w _
  have SA := row_src (HA.out.keeps (keeps_below (ok' := ok) b0 (fun _ h => h)))
  have HNA : Hid (a.length = na ∧ b.length = nb) := ⟨hna, hnb⟩
  clear hna hnb
  have HSA : Hid (0 < na → ∃ ad, ga = some ad ∧ ∀ j u, (strC a)[j]? = some u → (w.alloc (.cells #[] 9)).cell? (ad.add j) = some u) := ⟨SA⟩
  have HB0 : Hid (Below w.heap.size w (w.alloc (.cells #[] 9))) := ⟨b0⟩
  clear SA b0
  have HM : Hid ((na ≤ maxLen ∧ na * 16 ≤ 140737488355328) ∧ (na + nb ≤ maxLen ∧ (na + nb) * 16 ≤ 140737488355328)) := ⟨⟨by unfold maxLen; omega, by omega⟩, by unfold maxLen; omega, by omega⟩
  go_enter Tryd.func36, Tryd.ntmps36
  go_wp2_with (at_builtin; first
    | (refine wpList_append_T rfl (.tmp 7) (.tmp 8) 38 rfl w.heap.size 9 i0 _ 1 16 Tryd.underlying38 hi hz0 hz1 hz2 rfl (by decide) (.slice g1 na c1) na (strC a) rfl HR1.out gb nb cb (strC b) rfl lb (row_src (HB.out.keeps (keeps_below (ok' := ok) HBB1.out (fun _ h => h)))) (strC_one b) (na + nb) rfl (strC a ++ strC b) rfl HM.out.2.1 HM.out.2.2 HBB1.out.size ?_; intro g2 c2 w2 R2 B2; have HR2 : Hid (RowS w2 w.heap.size 9 1 (.slice g2 (na + nb) c2) (na + nb) (strC a ++ strC b)) := ⟨R2⟩; have HBB2 : Hid (Below w.heap.size w w2) := ⟨HBB1.out.trans B2⟩; clear R2 B2)
    | (refine wpList_append_T rfl (.tmp 5) (.tmp 6) 38 rfl w.heap.size 9 i0 _ 1 16 Tryd.underlying38 hi hz0 hz1 hz2 rfl (by decide) (.slice (some ⟨w.heap.size, 0, none⟩) 0 0) 0 [] rfl (.inl ⟨rfl, rfl, _, rfl⟩) ga na ca (strC a) rfl la HSA.out (strC_one a) na (Nat.zero_add na) (strC a) rfl HM.out.1.1 HM.out.1.2 HB0.out.size ?_; intro g1 c1 w1 R1 B1; have HR1 : Hid (RowS w1 w.heap.size 9 1 (.slice g1 na c1) na (strC a)) := ⟨R1⟩; have HBB1 : Hid (Below w.heap.size w w1) := ⟨HB0.out.trans B1⟩; clear R1 B1))
  go_ret
  refine ⟨_, rfl, HBB2.out, ?_⟩
  unfold Nw
  rw [List.length_append, strC_app, HNA.out.1, HNA.out.2]
  exact HR2.out
end Go.Proofs.YtcbdolflgpmaoaaDoor

/- The document's check: the names of binds. -/
namespace Go.Proofs.YtcbdolflgpmaoaaDoor
open Go.RowKit
set_option linter.unusedVariables false
set_option linter.unusedSimpArgs false

theorem isB_name {w : World} {ok : Nat → Prop} {x : B} {d : List Value} (h : isB w ok x d) : d[0]? = some (.string (str (nameB' x))) := by
  obtain ⟨n, a, l, e⟩ := x
  simp only [isB] at h
  obtain ⟨va, d', rfl, _, _⟩ := h
  rfl
theorem Nw.nil (w : World) (z : Nat) : Nw w z (.slice none 0 0) [] := .inl ⟨rfl, rfl, none, rfl⟩
theorem Nw.below {w w' : World} {z : Nat} {v : Value} {l : List Nm} (h : Nw w z v l) (hb : Below w.heap.size w w') : Nw w' z v l := by
  rcases h with h | h
  · exact .inl h
  · exact .inr (h.kept (row := none) ⟨hb.os, hb.tape, hb.output, hb.size, fun k hk _ => hb.block k hk⟩ (by cases v.ownBlock <;> simp))
theorem RowS.kept {w w' : World} {base size n : Nat} {e : TypeId} {v : Value} {xs : List Value} (h : RowS w base e size v n xs) (hb : Below w.heap.size w w') : RowS w' base e size v n xs := by
  rcases h with h | h
  · exact .inl h
  · exact .inr (World.ownsRow.kept (row := none) h ⟨hb.os, hb.tape, hb.output, hb.size, fun k hk _ => hb.block k hk⟩ (by cases v.ownBlock <;> simp))
theorem one_cell {s : ByteArray} : ∀ u ∈ [Value.string s], u.oneCell' = true := by
  intro u hu
  simp only [List.mem_singleton] at hu
  subst hu
  rfl
set_option maxHeartbeats 1000000 in
theorem bnames_any {w : World} {ok : Nat → Prop} (bs : List B) (v : Value) (xs : List Value) (R : IsRow w ok xs bs.length v) (I : isBs w ok bs xs) :
    Calls Tryd.prog 18 #[v] w fun e w' => ∃ r, e = .returned r ∧ Below w.heap.size w w' ∧ Nw w' w.heap.size r (bs.map nameB') := by
  obtain ⟨ga, cap, rfl, hc, hx⟩ := R
  have HX : Hid ((0 < bs.length → ∃ g off, ga = some ⟨g, off, none⟩ ∧ ok g ∧ ∀ (j : Nat) (u : Value), xs[j]? = some u → w.cell? ⟨g, off + j, none⟩ = some u) ∧ isBs w ok bs xs) := ⟨hx, I⟩
  obtain ⟨n, hn⟩ : ∃ n, bs.length = n := ⟨_, rfl⟩
  have HN : Hid (bs.length = n) := ⟨hn⟩
  rw [hn] at hc ⊢
  clear hn hx I
  obtain ⟨i0, hi, hz0, hz1, hz2⟩ := info_parts info9
  go_enter Tryd.func18, Tryd.ntmps18
  go_wp2
  go_loopw [3, 4] (fun v c wr => ∃ k : Nat, c = .int .i64 k ∧ k ≤ n ∧ Below w.heap.size w wr ∧ Nw wr w.heap.size v ((bs.take k).map nameB')) (fun _ c _ => n - (intOf c).toNat)
  case atStart => exact ⟨0, rfl, Nat.zero_le _, Below.refl _ _, by rw [List.take_zero]; exact Nw.nil _ _⟩
  case round =>
    obtain ⟨k, rfl, hk, BW, OW⟩ := hrel
    by_cases hlt : k < n
    · have kl : k < bs.length := by rw [HN.out]; exact hlt
      obtain ⟨g, off, rfl, _, hx⟩ := HX.out.1 (by omega)
      obtain ⟨d, hd, hg⟩ := isBs_get bs xs HX.out.2 k kl
      have c0 := hx _ _ (hg 0 _ (isB_name hd))
      rw [Nat.add_zero] at c0
      replace c0 := (BW.cell (World.block_lt_of_cell? _ _ c0)).trans c0
      have hlt' : (k : Int) < n := by omega
      have e1 : (bs.take (k + 1)).map nameB' = (bs.take k).map nameB' ++ [nameB' (bs[k]'kl)] := by rw [← List.take_append_getElem kl, List.map_append, List.map_cons, List.map_nil]
      have HE : Hid ((bs.take (k + 1)).map nameB' = (bs.take k).map nameB' ++ [nameB' (bs[k]'kl)]) := ⟨e1⟩
      have e2 : ((bs.take k).map nameB').length = k := by rw [List.length_map, List.length_take]; omega
      have HO : Hid (RowS wr w.heap.size 9 1 u3 k (strC ((bs.take k).map nameB'))) := ⟨by have := OW; unfold Nw at this; rwa [e2] at this⟩
      have HBW : Hid (Below w.heap.size w wr) := ⟨BW⟩
      have sB := BW.size
      have HM : Hid (k + 1 ≤ maxLen ∧ (k + 1) * 16 ≤ 140737488355328) := ⟨by unfold maxLen; omega, by omega⟩
      generalize nameB' (bs[k]'kl) = nm at c0 HE
      clear hx hd hg OW BW e1 e2
      have HS : Hid (0 < 1 → ∃ ad, some (⟨wr.heap.size, 0, none⟩ : Addr) = some ad ∧ ∀ j u, [Value.string (str nm)][j]? = some u → (wr.alloc (.cells #[.string (str nm)] 9)).cell? (ad.add j) = some u) := ⟨fun _ => ⟨_, rfl, new_one⟩⟩
      have HA : Hid (Below wr.heap.size wr (wr.alloc (.cells #[.string (str nm)] 9))) := ⟨Joins.below_alloc1 wr _⟩
      go_wp2_with (at_builtin; refine wpList_append_T rfl (.tmp 11) (.tmp 17) 38 rfl w.heap.size 9 i0 _ 1 16 Tryd.underlying38 hi hz0 hz1 hz2 rfl (by decide) u3 k (strC ((bs.take k).map nameB')) rfl (RowS.kept HO.out HA.out) (some ⟨wr.heap.size, 0, none⟩) 1 1 [.string (str nm)] rfl rfl HS.out one_cell (k + 1) rfl (strC ((bs.take k).map nameB') ++ [.string (str nm)]) rfl HM.out.1 HM.out.2 (Nat.le_trans sB HA.out.size) ?_; intro g1 c1 w1 R1 B1; have HR1 : Hid (RowS w1 w.heap.size 9 1 (.slice g1 (k + 1) c1) (k + 1) (strC ((bs.take k).map nameB') ++ [.string (str nm)])) := ⟨R1⟩; have HB1 : Hid (Below w.heap.size w w1) := ⟨(HBW.out.trans (Joins.below_le HA.out sB)).trans B1⟩; clear R1 B1)
      refine ⟨⟨k + 1, by go_num, by omega, HB1.out, ?_⟩, by simp [intOf]; omega⟩
      unfold Nw
      rw [HE.out, strC_snoc, List.length_append, List.length_map, List.length_take, Nat.min_eq_left (by omega)]
      exact HR1.out
    · obtain rfl : k = n := by omega
      have HO : Hid (Nw wr w.heap.size u3 (bs.map nameB')) := ⟨by have := OW; rwa [List.take_of_length_le (by rw [HN.out]; exact Nat.le_refl _)] at this⟩
      have HBW : Hid (Below w.heap.size w wr) := ⟨BW⟩
      clear BW OW
      go_wp2
      go_ret
      exact ⟨_, rfl, HBW.out, HO.out⟩
end Go.Proofs.YtcbdolflgpmaoaaDoor
