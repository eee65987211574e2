/- Append of any number of cells; rows of numbers that are one's own; numbers that are stored into one. -/
import Derived.Test.YtfenbjkkljggiaaActs
import Derived.Laws.AppendOwnNone
import Derived.Deep.AppendLies
namespace Go.Proofs.Ytfenbjkkljggiaa
open Go.RowKit
set_option linter.unusedVariables false
set_option linter.unusedSimpArgs false

theorem run_append_zero {P : Program} (w : World) (t ty e : TypeId) (i : TypeInfo) (ht : P.underlying t = some (.slice e)) (hi : P.info? e = some i) (base : Option Addr) (sLen sCap : Nat) (hle : sLen ≤ sCap) (ga : Option Addr) (cap : Nat) :
    (Builtin.append_ #[t, t] ty #[.slice base sLen sCap, .slice ga 0 cap]).run P w = .ok (.slice base sLen sCap) w := by
  cases ga <;> cases base <;> simp [Builtin.append_, run_underlying ht, sizeOf, typeInfo, hi, hle, storeCells, Builtin.lenOf, Builtin.firstCells, loadCells, go_sem]
/-- a row of the call's own; or an empty slice without room -/
def RowS (w : World) (base : Nat) (e : TypeId) (size : Nat) (v : Value) (n : Nat) (xs : List Value) : Prop :=
  (n = 0 ∧ xs = [] ∧ ∃ ga, v = .slice ga 0 0) ∨ (0 < n ∧ w.ownsRow base e size v n xs)
theorem RowS.le {w : World} {base size n : Nat} {e : TypeId} {v : Value} {xs : List Value} (h : RowS w base e size v n xs) : ∃ ga cap, v = .slice ga n cap ∧ n ≤ cap := by
  rcases h with ⟨rfl, rfl, ga, rfl⟩ | ⟨_, h⟩
  · exact ⟨ga, 0, rfl, Nat.le_refl _⟩
  · rcases h.2 with ⟨rfl, h0⟩ | ⟨g, cap, cur, rfl, _, _, hc, _⟩
    · exact ⟨none, 0, by rw [h0], by omega⟩
    · exact ⟨_, _, rfl, hc⟩
theorem RowS.lt {w : World} {base size n : Nat} {e : TypeId} {v : Value} {xs : List Value} (h : RowS w base e size v n xs) (hn : 0 < n) : ∀ k, v.ownBlock = some k → base ≤ k ∧ k < w.heap.size := by
  rcases h with ⟨rfl, _⟩ | ⟨_, h⟩
  · exact absurd hn (by omega)
  · exact fun k hk => h.lt k hk
theorem RowS.below {w w' : World} {base size n : Nat} {e : TypeId} {v : Value} {xs : List Value} (h : RowS w base e size v n xs) (hb : Below w.heap.size w w') : RowS w' base e size v n xs := by
  rcases h with h | ⟨h0, h⟩
  · exact Or.inl h
  · exact Or.inr ⟨h0, World.ownsRow.kept (row := none) h ⟨hb.os, hb.tape, hb.output, hb.size, fun k hk _ => hb.block k hk⟩ (by cases v.ownBlock <;> simp)⟩
theorem run_append_S {P : Program} (w : World) (t ty e : TypeId) (base : Nat) (i : TypeInfo) (z : Value) (size bytes : Nat) (ht : P.underlying t = some (.slice e)) (hi : P.info? e = some i) (hz : i.zero = some z)
    (hsize : i.size = size) (hby : i.bytes = bytes) (hzs : z.cells.size = size) (hsz : 0 < size)
    (v : Value) (n : Nat) (xs : List Value) (hown : RowS w base e size v n xs) (ga : Option Addr) (m c : Nat) (news : List Value) (hl : news.length = m * size)
    (hnews : 0 < m → ∃ ad, ga = some ad ∧ ∀ j u, news[j]? = some u → w.cell? (ad.add j) = some u) (h1 : ∀ u ∈ news, u.oneCell' = true)
    (h63 : n + m ≤ maxLen) (hbytes : (n + m) * bytes ≤ 140737488355328) (hbase : base ≤ w.heap.size) :
    ∃ ga' cap' w', (Builtin.append_ #[t, t] ty #[v, .slice ga m c]).run P w = .ok (.slice ga' (n + m) cap') w' ∧ RowS w' base e size (.slice ga' (n + m) cap') (n + m) (xs ++ news) ∧ ∃ row, w.grownBy w' row ∧ ∀ k, row = some k → 0 < n ∧ v.ownBlock = some k := by
  rcases Nat.eq_zero_or_pos m with rfl | hm
  · have hn : news = [] := List.eq_nil_of_length_eq_zero (by simpa using hl)
    subst hn
    obtain ⟨gu, cu, rfl, hle⟩ := hown.le
    exact ⟨gu, cu, w, run_append_zero w t ty e i ht hi gu n cu hle ga c, by simpa using hown, none, ⟨rfl, rfl, rfl, Nat.le_refl _, fun _ _ _ => rfl⟩, fun k hk => by cases hk⟩
  · obtain ⟨ad, rfl, hc⟩ := hnews hm
    rcases hown with ⟨rfl, rfl, g0, rfl⟩ | ⟨hn0, hown⟩
    · obtain ⟨g, cap, w', hr, h2, h3, _, _⟩ := run_append_lies (P := P) w t ty base e i z size bytes ht hi hz hsize hby hzs hsz (.slice none 0 0) 0 [] (World.ownsRow_nil _ _ _ _) ad m c news hl hc h1 hm h63 hbytes hbase _ rfl
      cases g0 with
      | none => exact ⟨_, cap, w', hr, .inr ⟨by omega, h2⟩, none, h3, fun k hk => by cases hk⟩
      | some b =>
        have hsm : m ≤ 9223372036854775807 := by simp only [maxLen] at h63; omega
        have hb2 : m * i.bytes ≤ 140737488355328 := by rw [hby]; simpa using hbytes
        have hn := run_append_nil (P := P) w t ty e i z ht hi hz ad m c news (by rw [hsize]; exact hl) hc hm (by omega) (by omega)
        have hg := run_append_grow (P := P) w t ty e i z ht hi hz b 0 0 [] (by simp) (fun j v h => by simp at h) ad m c news (by rw [hsize]; exact hl) hc (by omega) (by omega) (growslice_fits (by omega) (by simpa using hb2))
        simp only [Nat.zero_add, List.append_nil, List.nil_append, Array.empty_append] at hg
        rw [← hn, hr] at hg
        exact ⟨_, cap, w', hg, .inr ⟨by omega, h2⟩, none, h3, fun k hk => by cases hk⟩
    · obtain ⟨g, cap, w', hr, h2, h3, _, _⟩ := run_append_lies (P := P) w t ty base e i z size bytes ht hi hz hsize hby hzs hsz v n xs hown ad m c news hl hc h1 hm h63 hbytes hbase _ rfl
      exact ⟨_, cap, w', hr, .inr ⟨by omega, h2⟩, _, h3, fun k hk => ⟨hn0, hk⟩⟩
theorem wpList_append_T {P : Program} {w : World} {ops : Array Oper} {rest : List Oper} {o : Oper} {a : Act} {Q : Exit → Act → World → Prop} (hgd : o.guard = none) (s x : Operand) (t : TypeId)
    (ho : o.op = .call { callee := .builtin .append, args := #[s, x], argTypes := #[t, t] })
    (base : Nat) (e : TypeId) (i : TypeInfo) (z : Value) (size bytes : Nat) (ht : P.underlying t = some (.slice e)) (hi : P.info? e = some i) (hz : i.zero = some z)
    (hsize : i.size = size) (hby : i.bytes = bytes) (hzs : z.cells.size = size) (hsz : 0 < size)
    (v : Value) (n : Nat) (xs : List Value) (hs : a.eval s = v) (hown : RowS w base e size v n xs)
    (ga : Option Addr) (m c : Nat) (news : List Value) (hx : a.eval x = .slice ga m c) (hl : news.length = m * size) (hnews : 0 < m → ∃ ad, ga = some ad ∧ ∀ j u, news[j]? = some u → w.cell? (ad.add j) = some u) (h1 : ∀ u ∈ news, u.oneCell' = true)
    (k : Nat) (hk : n + m = k) (ys : List Value) (hy : xs ++ news = ys)
    (h63 : k ≤ maxLen) (hbytes : k * bytes ≤ 140737488355328) (hbase : base ≤ w.heap.size)
    (h : ∀ ga' cap' w', RowS w' base e size (.slice ga' k cap') k ys → (∃ row, w.grownBy w' row ∧ ∀ k, row = some k → 0 < n ∧ v.ownBlock = some k) → wpList P ops Q rest (a.put o.dst (.slice ga' k cap')) w') : wpList P ops Q (o :: rest) a w := by
  subst hk hy
  refine wpList_plain hgd fun K hK => ?_
  obtain ⟨ga', cap', w', hr, h2, h3⟩ := run_append_S (P := P) w t o.type e base i z size bytes ht hi hz hsize hby hzs hsz v n xs hown ga m c news hl hnews h1 h63 hbytes hbase
  unfold Oper.wp
  simp [execOp, ho, resolve, invoke, builtin, hs, hx, hr, Result.andThen]
  exact hK _ _ (h ga' cap' w' h2 h3)

theorem info3 : (Try.prog.info? 3).map (fun i => (i.zero, i.size, i.bytes)) = some (some (.int .i64 0), 1, 8) := by kernel_rfl
theorem ints_one (l : List Int) : ∀ u ∈ ints l, u.oneCell' = true := by
  intro u hu
  obtain ⟨j, _, rfl⟩ := List.mem_map.1 hu
  simp [Value.oneCell']
theorem ints_length (l : List Int) : (ints l).length = l.length := by simp [ints]
theorem sl_ofS {w : World} {b : Nat} {v : Value} {xs : List Int} (h : RowS w b 3 1 v xs.length (ints xs)) : Sl w v xs := by
  rcases h with ⟨h1, h2, ga, h3⟩ | ⟨_, h⟩
  · exact .inl ⟨⟨ga, 0, h3⟩, List.eq_nil_of_length_eq_zero h1⟩
  · exact sl_of h
theorem Sl.news {w : World} {ga : Option Addr} {n cap : Nat} {xs : List Int} (h : Sl w (.slice ga n cap) xs) (hn : xs.length = n) : 0 < n → ∃ ad, ga = some ad ∧ ∀ j u, (ints xs)[j]? = some u → w.cell? (ad.add j) = some u := by
  subst hn
  intro h0
  rcases h with ⟨_, h2⟩ | ⟨g, c, cur, h1, h2, h3, h4⟩
  · rw [h2] at h0; simp at h0
  · simp only [Value.slice.injEq, true_and] at h1
    obtain ⟨rfl, rfl⟩ := h1
    refine ⟨_, rfl, fun j u hu => ?_⟩
    have hj : j < xs.length := by have := (List.getElem?_eq_some_iff.1 hu).1; simpa [ints] using this
    have e : (⟨g, 0, none⟩ : Addr).add j = ⟨g, j, none⟩ := by unfold Addr.add; split <;> simp_all
    rw [e, Joins.cell_of_block h3, h4 j hj, ← hu]
    simp [ints, hj]
theorem Sl.store {w : World} {v : Value} {xs : List Int} (h : Sl w v xs) {g i : Nat} (hg : v.ownBlock ≠ some g) (x : Value) : Sl (w.setCell ⟨g, i, none⟩ x) v xs := by
  rcases h with h | ⟨g', c, cur, h1, h2, h3, h4⟩
  · exact .inl h
  · refine .inr ⟨g', c, cur, h1, h2, ?_, h4⟩
    rw [Below.heap_setCell _ _ _ _ (fun e => hg (by rw [h1]; exact congrArg some e))]
    exact h3
/-- cells of numbers -/
def X3 (o : Obj) : Prop := ∃ cur lay, o = .cells cur 3 lay
theorem not3 (cur : Array Value) (T : TypeId) (lay : Nat × Nat) (h : T ≠ 3) : ¬ X3 (.cells cur T lay) := by
  rintro ⟨cur', lay', e⟩
  cases e; exact h rfl
theorem not3m (a : Array MapEntry) (c : Nat) : ¬ X3 (.map a c) := by
  rintro ⟨cur', lay', e⟩
  cases e
theorem Kp.set {X : Obj → Prop} {lo : Nat} {w : World} {g : Nat} {o : Obj} (h : w.heap[g]? = some o) (hx : X o) (hl : lo ≤ g) (i : Nat) (x : Value) : Kp X lo w (w.setCell ⟨g, i, none⟩ x) :=
  Kp.one (k := g) ⟨rfl, rfl, rfl, by simp, fun k _ hr => Below.heap_setCell _ _ _ _ (fun e => hr (by rw [e]))⟩ h hx hl
theorem row_form {w : World} {b : Nat} {v : Value} {xs : List Int} (h : w.ownsRow b 3 1 v xs.length (ints xs)) : ∃ ga cap g, v = .slice ga xs.length cap ∧ (0 < xs.length → ga = some ⟨g, 0, none⟩ ∧ b ≤ g ∧ g < w.heap.size ∧ ∃ cur, w.heap[g]? = some (.cells cur 3 (0, 0)) ∧ xs.length ≤ cur.size) := by
  rcases h.2 with ⟨h1, h2⟩ | ⟨g, cap, cur, hv, hb, hg, h1, h2, h3, h4⟩
  · exact ⟨none, 0, 0, by rw [h1, h2], fun q => by omega⟩
  · exact ⟨_, cap, g, hv, fun _ => ⟨rfl, hb, (Array.getElem?_eq_some_iff.1 hg).1, cur, hg, by omega⟩⟩
end Go.Proofs.Ytfenbjkkljggiaa
