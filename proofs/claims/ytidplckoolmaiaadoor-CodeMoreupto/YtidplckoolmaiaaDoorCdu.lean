/- append of any number of items, and lists that were made by it. -/
import Derived.Test.YtidplckoolmaiaaDoorCdt
import Derived.Laws.AppendOwnNone
namespace Go.Proofs.YtidplckoolmaiaaDoor
open Go.RowKit
set_option linter.unusedVariables false
set_option linter.unusedSimpArgs false

theorem run_append_zero {P : Program} (w : World) (t ty e : TypeId) (i : TypeInfo) (ht : P.underlying t = some (.slice e)) (hi : P.info? e = some i) (base : Option Addr) (sLen sCap : Nat) (hle : sLen ≤ sCap) (ga : Option Addr) (cap : Nat) :
    (Builtin.append_ #[t, t] ty #[.slice base sLen sCap, .slice ga 0 cap]).run P w = .ok (.slice base sLen sCap) w := by
  cases ga <;> cases base <;> simp [Builtin.append_, run_underlying ht, sizeOf, typeInfo, hi, hle, storeCells, Builtin.lenOf, Builtin.firstCells, loadCells, go_sem]
/-- a row of the call's own; or an empty slice without room -/
def RowS (w : World) (base : Nat) (e : TypeId) (size : Nat) (v : Value) (n : Nat) (xs : List Value) : Prop :=
  (n = 0 ∧ xs = [] ∧ ∃ ga, v = .slice ga 0 0) ∨ (0 < n ∧ w.ownsRow base e size v n xs)
theorem RowS.le {w : World} {base size n : Nat} {e : TypeId} {v : Value} {xs : List Value} (h : RowS w base e size v n xs) : ∃ ga cap, v = .slice ga n cap ∧ n ≤ cap := by
  rcases h with ⟨rfl, rfl, ga, rfl⟩ | ⟨_, h⟩
  · exact ⟨ga, 0, rfl, Nat.le_refl _⟩
  · rcases h.2 with ⟨rfl, h0⟩ | ⟨g, cap, cur, rfl, _, _, hc, _⟩
    · exact ⟨none, 0, by rw [h0], by omega⟩
    · exact ⟨_, _, rfl, hc⟩
theorem RowS.lt {w : World} {base size n : Nat} {e : TypeId} {v : Value} {xs : List Value} (h : RowS w base e size v n xs) (hn : 0 < n) : ∀ k, v.ownBlock = some k → base ≤ k ∧ k < w.heap.size := by
  rcases h with ⟨rfl, _⟩ | ⟨_, h⟩
  · exact absurd hn (by omega)
  · exact fun k hk => h.lt k hk
theorem RowS.below {w w' : World} {base size n : Nat} {e : TypeId} {v : Value} {xs : List Value} (h : RowS w base e size v n xs) (hb : Below w.heap.size w w') : RowS w' base e size v n xs := by
  rcases h with h | ⟨h0, h⟩
  · exact Or.inl h
  · exact Or.inr ⟨h0, own_below h hb⟩
theorem run_append_S {P : Program} (w : World) (t ty e : TypeId) (base : Nat) (i : TypeInfo) (z : Value) (size bytes : Nat) (ht : P.underlying t = some (.slice e)) (hi : P.info? e = some i) (hz : i.zero = some z)
    (hsize : i.size = size) (hby : i.bytes = bytes) (hzs : z.cells.size = size) (hsz : 0 < size)
    (v : Value) (n : Nat) (xs : List Value) (hown : RowS w base e size v n xs) (ga : Option Addr) (m c : Nat) (news : List Value) (hl : news.length = m * size)
    (hnews : 0 < m → ∃ ad, ga = some ad ∧ ∀ j u, news[j]? = some u → w.cell? (ad.add j) = some u) (h1 : ∀ u ∈ news, u.oneCell' = true)
    (h63 : n + m ≤ maxLen) (hbytes : (n + m) * bytes ≤ 140737488355328) (hbase : base ≤ w.heap.size) :
    ∃ ga' cap' w', (Builtin.append_ #[t, t] ty #[v, .slice ga m c]).run P w = .ok (.slice ga' (n + m) cap') w' ∧ RowS w' base e size (.slice ga' (n + m) cap') (n + m) (xs ++ news) ∧ ∃ row, w.grownBy w' row ∧ ∀ k, row = some k → 0 < n ∧ v.ownBlock = some k := by
  rcases Nat.eq_zero_or_pos m with rfl | hm
  · have hn : news = [] := List.eq_nil_of_length_eq_zero (by simpa using hl)
    subst hn
    obtain ⟨gu, cu, rfl, hle⟩ := hown.le
    exact ⟨gu, cu, w, run_append_zero w t ty e i ht hi gu n cu hle ga c, by simpa using hown, none, ⟨rfl, rfl, rfl, Nat.le_refl _, fun _ _ _ => rfl⟩, fun k hk => by cases hk⟩
  · obtain ⟨ad, rfl, hc⟩ := hnews hm
    rcases hown with ⟨rfl, rfl, g0, rfl⟩ | ⟨hn0, hown⟩
    · obtain ⟨g, cap, w', hr, h2, h3, _, _⟩ := run_append_lies (P := P) w t ty base e i z size bytes ht hi hz hsize hby hzs hsz (.slice none 0 0) 0 [] (World.ownsRow_nil _ _ _ _) ad m c news hl hc h1 hm h63 hbytes hbase _ rfl
      cases g0 with
      | none => exact ⟨_, cap, w', hr, .inr ⟨by omega, h2⟩, none, h3, fun k hk => by cases hk⟩
      | some b =>
        have hsm : m ≤ 9223372036854775807 := by simp only [maxLen] at h63; omega
        have hb2 : m * i.bytes ≤ 140737488355328 := by rw [hby]; simpa using hbytes
        have hn := run_append_nil (P := P) w t ty e i z ht hi hz ad m c news (by rw [hsize]; exact hl) hc hm (by omega) (by omega)
        have hg := run_append_grow (P := P) w t ty e i z ht hi hz b 0 0 [] (by simp) (fun j v h => by simp at h) ad m c news (by rw [hsize]; exact hl) hc (by omega) (by omega) (growslice_fits (by omega) (by simpa using hb2))
        simp only [Nat.zero_add, List.append_nil, List.nil_append, Array.empty_append] at hg
        rw [← hn, hr] at hg
        exact ⟨_, cap, w', hg, .inr ⟨by omega, h2⟩, none, h3, fun k hk => by cases hk⟩
    · obtain ⟨g, cap, w', hr, h2, h3, _, _⟩ := run_append_lies (P := P) w t ty base e i z size bytes ht hi hz hsize hby hzs hsz v n xs hown ad m c news hl hc h1 hm h63 hbytes hbase _ rfl
      exact ⟨_, cap, w', hr, .inr ⟨by omega, h2⟩, _, h3, fun k hk => ⟨hn0, hk⟩⟩
theorem wpList_append_T {P : Program} {w : World} {ops : Array Oper} {rest : List Oper} {o : Oper} {a : Act} {Q : Exit → Act → World → Prop} (hgd : o.guard = none) (s x : Operand) (t : TypeId)
    (ho : o.op = .call { callee := .builtin .append, args := #[s, x], argTypes := #[t, t] })
    (base : Nat) (e : TypeId) (i : TypeInfo) (z : Value) (size bytes : Nat) (ht : P.underlying t = some (.slice e)) (hi : P.info? e = some i) (hz : i.zero = some z)
    (hsize : i.size = size) (hby : i.bytes = bytes) (hzs : z.cells.size = size) (hsz : 0 < size)
    (v : Value) (n : Nat) (xs : List Value) (hs : a.eval s = v) (hown : RowS w base e size v n xs)
    (ga : Option Addr) (m c : Nat) (news : List Value) (hx : a.eval x = .slice ga m c) (hl : news.length = m * size) (hnews : 0 < m → ∃ ad, ga = some ad ∧ ∀ j u, news[j]? = some u → w.cell? (ad.add j) = some u) (h1 : ∀ u ∈ news, u.oneCell' = true)
    (k : Nat) (hk : n + m = k) (ys : List Value) (hy : xs ++ news = ys)
    (h63 : k ≤ maxLen) (hbytes : k * bytes ≤ 140737488355328) (hbase : base ≤ w.heap.size)
    (h : ∀ ga' cap' w', RowS w' base e size (.slice ga' k cap') k ys → (∃ row, w.grownBy w' row ∧ ∀ k, row = some k → 0 < n ∧ v.ownBlock = some k) → wpList P ops Q rest (a.put o.dst (.slice ga' k cap')) w') : wpList P ops Q (o :: rest) a w := by
  subst hk hy
  refine wpList_plain hgd fun K hK => ?_
  obtain ⟨ga', cap', w', hr, h2, h3⟩ := run_append_S (P := P) w t o.type e base i z size bytes ht hi hz hsize hby hzs hsz v n xs hown ga m c news hl hnews h1 h63 hbytes hbase
  unfold Oper.wp
  simp [execOp, ho, resolve, invoke, builtin, hs, hx, hr, Result.andThen]
  exact hK _ _ (h ga' cap' w' h2 h3)
/-- what an append leaves as it was: all that stood at or below B, but the row's own block -/
theorem app_below {w w' : World} {B n : Nat} {v : Value} (h : ∃ row, w.grownBy w' row ∧ ∀ k, row = some k → 0 < n ∧ v.ownBlock = some k) (hB : B ≤ w.heap.size) (hv : 0 < n → ∀ k, v.ownBlock = some k → B ≤ k) : Below B w w' := by
  obtain ⟨row, g, hr⟩ := h
  exact ⟨g.os, g.tape, g.output, g.size, fun k hk => g.block k (by omega) (fun q => by obtain ⟨a, b⟩ := hr k q.symm; have := hv a k b; omega)⟩
theorem app_block {w w' : World} {k n : Nat} {v : Value} (h : ∃ row, w.grownBy w' row ∧ ∀ k, row = some k → 0 < n ∧ v.ownBlock = some k) (hk : k < w.heap.size) (hv : 0 < n → ¬ v.ownBlock = some k) : w'.heap[k]? = w.heap[k]? := by
  obtain ⟨row, g, hr⟩ := h
  exact g.block k hk (fun q => by obtain ⟨a, b⟩ := hr k q.symm; exact hv a b)

theorem info46 : (Tryd.prog.info? 46).map (fun i => (i.zero, i.size, i.bytes)) = some (some (.agg #[.string ⟨#[]⟩, .int .i64 0]), 2, 24) := by kernel_rfl
theorem info48 : (Tryd.prog.info? 48).map (fun i => (i.zero, i.size, i.bytes)) = some (some (.agg #[.int .i64 0, .int .i64 0, .int .i64 0, .int .i64 0]), 4, 32) := by kernel_rfl
theorem info42 : (Tryd.prog.info? 42).map (fun i => (i.zero, i.size, i.bytes)) = some (some (.agg #[.int .i64 0, .int .i64 0, .int .i64 0, .slice none 0 0, .slice none 0 0, .slice none 0 0, .slice none 0 0]), 7, 120) := by kernel_rfl
/-- cells that hold a list of things -/
def Fl {α : Type} (sz : Nat) (P : α → List Value → Prop) (l : List α) (xs : List Value) : Prop := xs.length = l.length * sz ∧ ∀ i x, l[i]? = some x → ∃ c, P x c ∧ ∀ j u, c[j]? = some u → xs[i * sz + j]? = some u
theorem Fl.imp {α : Type} {sz : Nat} {P P' : α → List Value → Prop} {l : List α} {xs : List Value} (h : Fl sz P l xs) (k : ∀ x c, P x c → P' x c) : Fl sz P' l xs :=
  ⟨h.1, fun i x hi => by obtain ⟨c, p, q⟩ := h.2 i x hi; exact ⟨c, k _ _ p, q⟩⟩
theorem Fl.snoc {α : Type} {sz : Nat} {P : α → List Value → Prop} {l : List α} {xs : List Value} (h : Fl sz P l xs) {x : α} {c : List Value} (hc : P x c) (hl : c.length = sz) : Fl sz P (l ++ [x]) (xs ++ c) := by
  refine ⟨by rw [List.length_append, List.length_append, h.1, hl, List.length_singleton, Nat.add_mul, Nat.one_mul], fun i y hi => ?_⟩
  by_cases hlt : i < l.length
  · rw [List.getElem?_append_left hlt] at hi
    obtain ⟨d, p, q⟩ := h.2 i y hi
    exact ⟨d, p, fun j u hj => by have := q j u hj; rw [List.getElem?_append_left (List.getElem?_eq_some_iff.1 this).1]; exact this⟩
  · rw [List.getElem?_append_right (by omega)] at hi
    have e : i - l.length = 0 := by
      have := (List.getElem?_eq_some_iff.1 hi).1
      simpa using this
    rw [e] at hi
    simp at hi
    subst hi
    obtain rfl : i = l.length := by omega
    refine ⟨c, hc, fun j u hj => ?_⟩
    rw [List.getElem?_append_right (by rw [h.1]; omega), h.1, Nat.add_sub_cancel_left]
    exact hj
theorem flat_len (f : Nat → List Value) (sz : Nat) : ∀ n, (∀ i, i < n → (f i).length = sz) → ((List.range n).flatMap f).length = n * sz
  | 0, _ => by simp
  | n + 1, h => by
    rw [List.range_succ, List.flatMap_append, List.length_append, flat_len f sz n (fun i hi => h i (by omega))]
    simp [h n (by omega), Nat.add_mul]
theorem flat_get (f : Nat → List Value) (sz : Nat) (hz : 0 < sz) : ∀ n, (∀ i, i < n → (f i).length = sz) → ∀ j u, ((List.range n).flatMap f)[j]? = some u → ∃ i r, i < n ∧ r < sz ∧ j = i * sz + r ∧ (f i)[r]? = some u
  | 0, _, j, u, hj => by simp at hj
  | n + 1, h, j, u, hj => by
    have hl := flat_len f sz n (fun i hi => h i (by omega))
    rw [List.range_succ, List.flatMap_append] at hj
    by_cases hlt : j < n * sz
    · rw [List.getElem?_append_left (by omega)] at hj
      obtain ⟨i, r, a, b, c, d⟩ := flat_get f sz hz n (fun i hi => h i (by omega)) j u hj
      exact ⟨i, r, by omega, b, c, d⟩
    · rw [List.getElem?_append_right (by omega), hl] at hj
      simp only [List.flatMap_cons, List.flatMap_nil, List.append_nil] at hj
      have hr := (List.getElem?_eq_some_iff.1 hj).1
      rw [h n (by omega)] at hr
      exact ⟨n, j - n * sz, by omega, hr, by omega, hj⟩
theorem flat_at (f : Nat → List Value) (sz : Nat) : ∀ n, (∀ i, i < n → (f i).length = sz) → ∀ i r u, i < n → (f i)[r]? = some u → ((List.range n).flatMap f)[i * sz + r]? = some u
  | 0, _, i, r, u, hi, _ => absurd hi (by omega)
  | n + 1, h, i, r, u, hi, hu => by
    have hl := flat_len f sz n (fun i hi => h i (by omega))
    have hr := (List.getElem?_eq_some_iff.1 hu).1
    rw [h i hi] at hr
    rw [List.range_succ, List.flatMap_append]
    by_cases hlt : i < n
    · have := flat_at f sz n (fun i hi => h i (by omega)) i r u hlt hu
      rw [List.getElem?_append_left (List.getElem?_eq_some_iff.1 this).1]
      exact this
    · obtain rfl : i = n := by omega
      rw [List.getElem?_append_right (by omega), hl, Nat.add_sub_cancel_left]
      simpa using hu
theorem add_at (g off j : Nat) : (⟨g, off, none⟩ : Addr).add j = ⟨g, off + j, none⟩ := by unfold Addr.add; split <;> simp_all
theorem Lst.flat {α : Type} {w : World} {sz : Nat} {P : α → List Value → Prop} {l : List α} {v : Value} (h : Lst w sz P l v) (hz : 0 < sz) (hP : ∀ x c, P x c → c.length = sz ∧ ∀ u ∈ c, u.oneCell' = true) :
    ∃ ga cap xs, v = .slice ga l.length cap ∧ Fl sz P l xs ∧ (∀ u ∈ xs, u.oneCell' = true) ∧ (0 < l.length → ∃ ad, ga = some ad ∧ ∀ j u, xs[j]? = some u → w.cell? (ad.add j) = some u) := by
  obtain ⟨ga, cap, rfl, _, hx⟩ := h
  rcases Nat.eq_zero_or_pos l.length with h0 | h0
  · have : l = [] := List.eq_nil_of_length_eq_zero h0
    subst this
    exact ⟨ga, cap, [], rfl, ⟨by simp, fun i x hi => by simp at hi⟩, fun u hu => (by cases hu), fun q => absurd q (by simp)⟩
  · obtain ⟨g, off, rfl, hy⟩ := hx h0
    have ch : ∀ i, ∃ c, ∀ x, l[i]? = some x → P x c ∧ ∀ j u, c[j]? = some u → w.cell? ⟨g, off + i * sz + j, none⟩ = some u := fun i => by
      cases q : l[i]? with
      | none => exact ⟨[], fun x hx => by cases hx⟩
      | some y => obtain ⟨c, h1, h2⟩ := hy i y q; exact ⟨c, fun x hx => by cases hx; exact ⟨h1, h2⟩⟩
    obtain ⟨T, hT⟩ := Classical.axiomOfChoice ch
    have hlen : ∀ i, i < l.length → (T i).length = sz := fun i hi => (hP _ _ (hT i _ (List.getElem?_eq_getElem hi)).1).1
    refine ⟨_, cap, (List.range l.length).flatMap T, rfl, ⟨flat_len T sz _ hlen, fun i x hi => ⟨T i, (hT i x hi).1, fun j u hj => flat_at T sz _ hlen i j u (List.getElem?_eq_some_iff.1 hi).1 hj⟩⟩, fun u hu => ?_, fun _ => ⟨_, rfl, fun j u hj => ?_⟩⟩
    · obtain ⟨i, hi, hm⟩ := List.mem_flatMap.1 hu
      exact (hP _ _ (hT i _ (List.getElem?_eq_getElem (List.mem_range.1 hi))).1).2 u hm
    · obtain ⟨i, r, hi, hr, rfl, hu⟩ := flat_get T sz hz _ hlen j u hj
      have := (hT i _ (List.getElem?_eq_getElem hi)).2 r u hu
      rw [add_at, ← Nat.add_assoc]
      exact this
theorem RowS.lst {α : Type} {w : World} {base sz : Nat} {e : TypeId} {P : α → List Value → Prop} {l : List α} {xs : List Value} {v : Value} (h : RowS w base e sz v l.length xs) (f : Fl sz P l xs) (hn : l.length ≤ 1000000000) : Lst w sz P l v := by
  rcases h with ⟨h0, _, ga, rfl⟩ | ⟨_, h⟩
  · exact ⟨ga, 0, by rw [h0], ⟨by omega, by unfold maxLen; omega⟩, fun q => by omega⟩
  · rcases h.2 with ⟨rfl, h0⟩ | ⟨g, cap, cur, rfl, hb, hg, X⟩
    · exact ⟨none, 0, by rw [h0], ⟨by omega, by unfold maxLen; omega⟩, fun q => by omega⟩
    · refine ⟨_, cap, rfl, ⟨X.1, by unfold maxLen; omega⟩, fun _ => ⟨g, 0, rfl, fun i x hi => ?_⟩⟩
      obtain ⟨c, p, q⟩ := f.2 i x hi
      refine ⟨c, p, fun j u hj => ?_⟩
      have := h.cells (g := g) rfl _ u (q j u hj)
      rw [add_at] at this
      rw [Nat.add_assoc]
      exact this
/-- nothing has turned but the block p -/
structure Fp (p : Nat) (w w' : World) : Prop where
  size : w.heap.size ≤ w'.heap.size
  blk : ∀ k, k < w.heap.size → ¬ k = p → w'.heap[k]? = w.heap[k]?
theorem Fp.of_below {p : Nat} {w w' : World} (h : Below w.heap.size w w') : Fp p w w' := ⟨h.size, fun k hk _ => h.block k hk⟩
theorem Fp.set {p : Nat} {w w' : World} (h : Fp p w w') (o : Nat) (v : Value) : Fp p w (w'.setCell ⟨p, o, none⟩ v) :=
  ⟨by simp [World.setCell]; exact h.size, fun k hk hp => by
    have : (w'.setCell ⟨p, o, none⟩ v).heap[k]? = w'.heap[k]? := by
      simp only [World.setCell, Array.getElem?_modify]
      rw [if_neg (fun e => hp e.symm)]
    exact this.trans (h.blk k hk hp)⟩
theorem Fp.trans {p : Nat} {w w1 w2 : World} (h : Fp p w w1) (k : Fp p w1 w2) : Fp p w w2 := ⟨Nat.le_trans h.size k.size, fun i hi hp => (k.blk i (Nat.lt_of_lt_of_le hi h.size) hp).trans (h.blk i hi hp)⟩
theorem RowS.fp {w w' : World} {base size n p : Nat} {e : TypeId} {v : Value} {xs : List Value} (h : RowS w base e size v n xs) (f : Fp p w w') (hp : p < base) : RowS w' base e size v n xs := by
  rcases h with h | ⟨hq, h⟩
  · exact Or.inl h
  · refine Or.inr ⟨hq, h.1, ?_⟩
    rcases h.2 with q | ⟨g, cap, cur, rfl, hb, hg, X⟩
    · exact Or.inl q
    · exact Or.inr ⟨g, cap, cur, rfl, hb, (f.blk g (Array.getElem?_eq_some_iff.1 hg).1 (by omega)).trans hg, X⟩
end Go.Proofs.YtidplckoolmaiaaDoor
