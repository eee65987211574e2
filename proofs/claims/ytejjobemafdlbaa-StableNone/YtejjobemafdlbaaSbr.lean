/- Append of any number of cells; rows of numbers that are one's own. -/
import Derived.Test.YtejjobemafdlbaaSbb
import Derived.Laws.AppendOwnNone
import Derived.Deep.AppendLies
namespace Go.Proofs.Ytejjobemafdlbaa
open Go.RowKit
set_option linter.unusedVariables false
set_option linter.unusedSimpArgs false

/-! ### Numbers in a row -/
def ints (l : List Int) : List Value := l.map (Value.int .i64)
/-- A slice value whose elements are these numbers. -/
def Sl (w : World) (v : Value) (xs : List Int) : Prop := ((∃ ga c, v = .slice ga 0 c) ∧ xs = []) ∨ ∃ g c cur, v = .slice (some ⟨g, 0, none⟩) xs.length c ∧ xs.length ≤ c ∧ w.heap[g]? = some (.cells cur 3 (0, 0)) ∧ ∀ j, j < xs.length → cur[j]? = some (.int .i64 (xs.getD j 0))
theorem Sl.later {w w' : World} {v : Value} {xs : List Int} (h : Sl w v xs) (B : Below w.heap.size w w') : Sl w' v xs := by
  rcases h with h | ⟨g, c, cur, h1, h2, h3, h4⟩
  · exact .inl h
  · exact .inr ⟨g, c, cur, h1, h2, (B.block g (Array.getElem?_eq_some_iff.1 h3).1).trans h3, h4⟩
theorem Sl.kx {w w' : World} {p q : Nat} {v : Value} {xs : List Int} (h : Sl w v xs) (K : Kx p q w w') (h1 : v.ownBlock ≠ some p) (h2 : v.ownBlock ≠ some q) : Sl w' v xs := by
  rcases h with h | ⟨g, c, cur, e1, e2, e3, e4⟩
  · exact .inl h
  · subst e1
    exact .inr ⟨g, c, cur, rfl, e2, K.keep e3 (fun e => h1 (congrArg some e)) (fun e => h2 (congrArg some e)), e4⟩
theorem sl_of {w : World} {n : Nat} {v : Value} {xs : List Int} (h : w.ownsRow n 3 1 v xs.length (ints xs)) : Sl w v xs := by
  rcases h.2 with ⟨h1, h2⟩ | ⟨g, cap, cur, hv, hb, hg, h1, h2, h3, h4⟩
  · exact .inl ⟨⟨none, 0, h1⟩, List.eq_nil_of_length_eq_zero h2⟩
  · refine .inr ⟨g, cap, cur, hv, h1, hg, fun j hj => ?_⟩
    have e : (cur.toList.take (xs.length * 1))[j]? = (ints xs)[j]? := by rw [h4]
    rw [Nat.mul_one, List.getElem?_take_of_lt hj] at e
    have : (ints xs)[j]? = some (.int .i64 (xs.getD j 0)) := by simp [ints, hj]
    rw [this] at e
    simpa using e
theorem run_append_zero {P : Program} (w : World) (t ty e : TypeId) (i : TypeInfo) (ht : P.underlying t = some (.slice e)) (hi : P.info? e = some i) (base : Option Addr) (sLen sCap : Nat) (hle : sLen ≤ sCap) (ga : Option Addr) (cap : Nat) :
    (Builtin.append_ #[t, t] ty #[.slice base sLen sCap, .slice ga 0 cap]).run P w = .ok (.slice base sLen sCap) w := by
  cases ga <;> cases base <;> simp [Builtin.append_, run_underlying ht, sizeOf, typeInfo, hi, hle, storeCells, Builtin.lenOf, Builtin.firstCells, loadCells, go_sem]
/-- a row of the call's own; or an empty slice without room -/
def RowS (w : World) (base : Nat) (e : TypeId) (size : Nat) (v : Value) (n : Nat) (xs : List Value) : Prop :=
  (n = 0 ∧ xs = [] ∧ ∃ ga, v = .slice ga 0 0) ∨ (0 < n ∧ w.ownsRow base e size v n xs)
theorem RowS.le {w : World} {base size n : Nat} {e : TypeId} {v : Value} {xs : List Value} (h : RowS w base e size v n xs) : ∃ ga cap, v = .slice ga n cap ∧ n ≤ cap := by
  rcases h with ⟨rfl, rfl, ga, rfl⟩ | ⟨_, h⟩
  · exact ⟨ga, 0, rfl, Nat.le_refl _⟩
  · rcases h.2 with ⟨rfl, h0⟩ | ⟨g, cap, cur, rfl, _, _, hc, _⟩
    · exact ⟨none, 0, by rw [h0], by omega⟩
    · exact ⟨_, _, rfl, hc⟩
theorem RowS.lt {w : World} {base size n : Nat} {e : TypeId} {v : Value} {xs : List Value} (h : RowS w base e size v n xs) (hn : 0 < n) : ∀ k, v.ownBlock = some k → base ≤ k ∧ k < w.heap.size := by
  rcases h with ⟨rfl, _⟩ | ⟨_, h⟩
  · exact absurd hn (by omega)
  · exact fun k hk => h.lt k hk
theorem RowS.below {w w' : World} {base size n : Nat} {e : TypeId} {v : Value} {xs : List Value} (h : RowS w base e size v n xs) (hb : Below w.heap.size w w') : RowS w' base e size v n xs := by
  rcases h with h | ⟨h0, h⟩
  · exact Or.inl h
  · exact Or.inr ⟨h0, World.ownsRow.kept (row := none) h ⟨hb.os, hb.tape, hb.output, hb.size, fun k hk _ => hb.block k hk⟩ (by cases v.ownBlock <;> simp)⟩
theorem run_append_S {P : Program} (w : World) (t ty e : TypeId) (base : Nat) (i : TypeInfo) (z : Value) (size bytes : Nat) (ht : P.underlying t = some (.slice e)) (hi : P.info? e = some i) (hz : i.zero = some z)
    (hsize : i.size = size) (hby : i.bytes = bytes) (hzs : z.cells.size = size) (hsz : 0 < size)
    (v : Value) (n : Nat) (xs : List Value) (hown : RowS w base e size v n xs) (ga : Option Addr) (m c : Nat) (news : List Value) (hl : news.length = m * size)
    (hnews : 0 < m → ∃ ad, ga = some ad ∧ ∀ j u, news[j]? = some u → w.cell? (ad.add j) = some u) (h1 : ∀ u ∈ news, u.oneCell' = true)
    (h63 : n + m ≤ maxLen) (hbytes : (n + m) * bytes ≤ 140737488355328) (hbase : base ≤ w.heap.size) :
    ∃ ga' cap' w', (Builtin.append_ #[t, t] ty #[v, .slice ga m c]).run P w = .ok (.slice ga' (n + m) cap') w' ∧ RowS w' base e size (.slice ga' (n + m) cap') (n + m) (xs ++ news) ∧ ∃ row, w.grownBy w' row ∧ ∀ k, row = some k → 0 < n ∧ v.ownBlock = some k := by
  rcases Nat.eq_zero_or_pos m with rfl | hm
  · have hn : news = [] := List.eq_nil_of_length_eq_zero (by simpa using hl)
    subst hn
    obtain ⟨gu, cu, rfl, hle⟩ := hown.le
    exact ⟨gu, cu, w, run_append_zero w t ty e i ht hi gu n cu hle ga c, by simpa using hown, none, ⟨rfl, rfl, rfl, Nat.le_refl _, fun _ _ _ => rfl⟩, fun k hk => by cases hk⟩
  · obtain ⟨ad, rfl, hc⟩ := hnews hm
    rcases hown with ⟨rfl, rfl, g0, rfl⟩ | ⟨hn0, hown⟩
    · obtain ⟨g, cap, w', hr, h2, h3, _, _⟩ := run_append_lies (P := P) w t ty base e i z size bytes ht hi hz hsize hby hzs hsz (.slice none 0 0) 0 [] (World.ownsRow_nil _ _ _ _) ad m c news hl hc h1 hm h63 hbytes hbase _ rfl
      cases g0 with
      | none => exact ⟨_, cap, w', hr, .inr ⟨by omega, h2⟩, none, h3, fun k hk => by cases hk⟩
      | some b =>
        have hsm : m ≤ 9223372036854775807 := by simp only [maxLen] at h63; omega
        have hb2 : m * i.bytes ≤ 140737488355328 := by rw [hby]; simpa using hbytes
        have hn := run_append_nil (P := P) w t ty e i z ht hi hz ad m c news (by rw [hsize]; exact hl) hc hm (by omega) (by omega)
        have hg := run_append_grow (P := P) w t ty e i z ht hi hz b 0 0 [] (by simp) (fun j v h => by simp at h) ad m c news (by rw [hsize]; exact hl) hc (by omega) (by omega) (growslice_fits (by omega) (by simpa using hb2))
        simp only [Nat.zero_add, List.append_nil, List.nil_append, Array.empty_append] at hg
        rw [← hn, hr] at hg
        exact ⟨_, cap, w', hg, .inr ⟨by omega, h2⟩, none, h3, fun k hk => by cases hk⟩
    · obtain ⟨g, cap, w', hr, h2, h3, _, _⟩ := run_append_lies (P := P) w t ty base e i z size bytes ht hi hz hsize hby hzs hsz v n xs hown ad m c news hl hc h1 hm h63 hbytes hbase _ rfl
      exact ⟨_, cap, w', hr, .inr ⟨by omega, h2⟩, _, h3, fun k hk => ⟨hn0, hk⟩⟩
theorem wpList_append_T {P : Program} {w : World} {ops : Array Oper} {rest : List Oper} {o : Oper} {a : Act} {Q : Exit → Act → World → Prop} (hgd : o.guard = none) (s x : Operand) (t : TypeId)
    (ho : o.op = .call { callee := .builtin .append, args := #[s, x], argTypes := #[t, t] })
    (base : Nat) (e : TypeId) (i : TypeInfo) (z : Value) (size bytes : Nat) (ht : P.underlying t = some (.slice e)) (hi : P.info? e = some i) (hz : i.zero = some z)
    (hsize : i.size = size) (hby : i.bytes = bytes) (hzs : z.cells.size = size) (hsz : 0 < size)
    (v : Value) (n : Nat) (xs : List Value) (hs : a.eval s = v) (hown : RowS w base e size v n xs)
    (ga : Option Addr) (m c : Nat) (news : List Value) (hx : a.eval x = .slice ga m c) (hl : news.length = m * size) (hnews : 0 < m → ∃ ad, ga = some ad ∧ ∀ j u, news[j]? = some u → w.cell? (ad.add j) = some u) (h1 : ∀ u ∈ news, u.oneCell' = true)
    (k : Nat) (hk : n + m = k) (ys : List Value) (hy : xs ++ news = ys)
    (h63 : k ≤ maxLen) (hbytes : k * bytes ≤ 140737488355328) (hbase : base ≤ w.heap.size)
    (h : ∀ ga' cap' w', RowS w' base e size (.slice ga' k cap') k ys → (∃ row, w.grownBy w' row ∧ ∀ k, row = some k → 0 < n ∧ v.ownBlock = some k) → wpList P ops Q rest (a.put o.dst (.slice ga' k cap')) w') : wpList P ops Q (o :: rest) a w := by
  subst hk hy
  refine wpList_plain hgd fun K hK => ?_
  obtain ⟨ga', cap', w', hr, h2, h3⟩ := run_append_S (P := P) w t o.type e base i z size bytes ht hi hz hsize hby hzs hsz v n xs hown ga m c news hl hnews h1 h63 hbytes hbase
  unfold Oper.wp
  simp [execOp, ho, resolve, invoke, builtin, hs, hx, hr, Result.andThen]
  exact hK _ _ (h ga' cap' w' h2 h3)

theorem info3 : (Try.prog.info? 3).map (fun i => (i.zero, i.size, i.bytes)) = some (some (.int .i64 0), 1, 8) := by kernel_rfl
theorem ints_one (l : List Int) : ∀ u ∈ ints l, u.oneCell' = true := by
  intro u hu
  obtain ⟨j, _, rfl⟩ := List.mem_map.1 hu
  simp [Value.oneCell']
theorem ints_length (l : List Int) : (ints l).length = l.length := by simp [ints]
theorem sl_ofS {w : World} {b : Nat} {v : Value} {xs : List Int} (h : RowS w b 3 1 v xs.length (ints xs)) : Sl w v xs := by
  rcases h with ⟨h1, h2, ga, h3⟩ | ⟨_, h⟩
  · exact .inl ⟨⟨ga, 0, h3⟩, List.eq_nil_of_length_eq_zero h1⟩
  · exact sl_of h
theorem Sl.news {w : World} {ga : Option Addr} {n cap : Nat} {xs : List Int} (h : Sl w (.slice ga n cap) xs) (hn : xs.length = n) : 0 < n → ∃ ad, ga = some ad ∧ ∀ j u, (ints xs)[j]? = some u → w.cell? (ad.add j) = some u := by
  subst hn
  intro h0
  rcases h with ⟨_, h2⟩ | ⟨g, c, cur, h1, h2, h3, h4⟩
  · rw [h2] at h0; simp at h0
  · simp only [Value.slice.injEq, true_and] at h1
    obtain ⟨rfl, rfl⟩ := h1
    refine ⟨_, rfl, fun j u hu => ?_⟩
    have hj : j < xs.length := by have := (List.getElem?_eq_some_iff.1 hu).1; simpa [ints] using this
    have e : (⟨g, 0, none⟩ : Addr).add j = ⟨g, j, none⟩ := by unfold Addr.add; split <;> simp_all
    rw [e, Joins.cell_of_block h3, h4 j hj, ← hu]
    simp [ints, hj]
theorem Sl.form {w : World} {v : Value} {xs : List Int} (h : Sl w v xs) : ∃ ga c, v = .slice ga xs.length c := by
  rcases h with ⟨⟨ga, c, rfl⟩, rfl⟩ | ⟨g, c, cur, rfl, _⟩
  · exact ⟨ga, c, rfl⟩
  · exact ⟨_, c, rfl⟩
theorem Sl.get {w : World} {v : Value} {xs : List Int} (h : Sl w v xs) (j : Nat) (hj : j < xs.length) : ∃ g c, v = .slice (some ⟨g, 0, none⟩) xs.length c ∧ w.cell? ⟨g, j, none⟩ = some (.int .i64 (xs.getD j 0)) := by
  rcases h with ⟨_, rfl⟩ | ⟨g, c, cur, rfl, h2, h3, h4⟩
  · exact absurd hj (Nat.not_lt_zero _)
  · exact ⟨g, c, rfl, by rw [Joins.cell_of_block h3]; exact h4 j hj⟩
/-- a step of append: which blocks stay -/
theorem row_below {base q : Nat} {w wr w5 : World} {o : Obj} {v : Value} {xs : List Value} (R : RowS wr base 3 1 v q xs) (B : Below base w wr) (hb : base ≤ wr.heap.size) (h : ∃ row, (wr.alloc o).grownBy w5 row ∧ ∀ k, row = some k → 0 < q ∧ v.ownBlock = some k) : Below base w w5 := by
  obtain ⟨row, g, hk⟩ := h
  exact (B.alloc hb o).grown g (by simp; omega) (fun j e => by
    obtain ⟨q0, q1⟩ := hk j e
    exact (R.lt q0 j q1).1)
theorem news_new (w : World) (z : Int) : ∀ j u, [Value.int .i64 z][j]? = some u → (w.alloc (Obj.cells #[.int .i64 z] 3)).cell? ((⟨w.heap.size, 0, none⟩ : Addr).add j) = some u := World.news_of_block (heap_alloc_new _ _)
theorem one_new (z : Int) : ∀ u ∈ [Value.int .i64 z], u.oneCell' = true := by simp [Value.oneCell']
end Go.Proofs.Ytejjobemafdlbaa
