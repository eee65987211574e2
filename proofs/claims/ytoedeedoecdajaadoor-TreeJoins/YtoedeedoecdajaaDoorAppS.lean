/- append onto a row of the call's own, or onto an empty one, of any number of items: where a region draws its order. -/
import Derived.Test.YtoedeedoecdajaaDoorWithinA
namespace Go.Proofs.YtoedeedoecdajaaDoor
open Go.RowKit
set_option linter.unusedVariables false
set_option linter.unusedSimpArgs false

/-- a row of the call's own; or an empty slice without room -/
def RowS (w : World) (base : Nat) (e : TypeId) (size : Nat) (v : Value) (n : Nat) (xs : List Value) : Prop :=
  (n = 0 ∧ xs = [] ∧ ∃ ga, v = .slice ga 0 0) ∨ w.ownsRow base e size v n xs
/-- blocks of another type stay -/
def Others (e : TypeId) (w w' : World) : Prop := ∀ g cs t, Blk w g cs t → t ≠ e → Blk w' g cs t
section
variable {w w' : World} {base size n : Nat} {e e' : TypeId} {v : Value} {xs : List Value}
theorem RowS.le (h : RowS w base e size v n xs) : ∃ ga cap, v = .slice ga n cap ∧ n ≤ cap := by
  rcases h with ⟨rfl, rfl, ga, rfl⟩ | h
  · exact ⟨ga, 0, rfl, Nat.le_refl _⟩
  · rcases h.2 with ⟨rfl, h0⟩ | ⟨g, cap, cur, rfl, _, _, hc, _⟩
    · exact ⟨none, 0, by rw [h0], by omega⟩
    · exact ⟨_, _, rfl, hc⟩
theorem RowS.later (h : RowS w base e size v n xs) (hb : Below w.heap.size w w') : RowS w' base e size v n xs := by
  rcases h with h | h
  · exact .inl h
  · exact .inr (h.kept (row := none) ⟨hb.os, hb.tape, hb.output, hb.size, fun k hk _ => hb.block k hk⟩ (by cases v.ownBlock <;> simp))
theorem RowS.alloc (h : RowS w base e size v n xs) (o : Obj) : RowS (w.alloc o) base e size v n xs := h.later (Joins.below_alloc1 w o)
theorem RowS.others (h : RowS w base e size v n xs) (ho : Others e' w w') (he : e ≠ e') : RowS w' base e size v n xs := by
  rcases h with h | h
  · exact .inl h
  · refine .inr ⟨h.1, ?_⟩
    rcases h.2 with h | ⟨g, cap, cur, e1, hb, hg, r⟩
    · exact .inl h
    · exact .inr ⟨g, cap, cur, e1, hb, ho g cur e hg he, r⟩
theorem RowS.row (h : RowS w base e size v n xs) (hn : n ≤ 1000000000) : IsRow w anyB xs n v := by
  rcases h with ⟨rfl, rfl, ga, rfl⟩ | h
  · exact ⟨ga, 0, rfl, ⟨Nat.le_refl _, by decide⟩, fun z => absurd z (Nat.lt_irrefl 0)⟩
  · exact row_of_owns h (fun _ _ => trivial) hn
end
theorem below_grown {w w' : World} {base size n : Nat} {e : TypeId} {v : Value} {xs : List Value} (h : w.ownsRow base e size v n xs) (g : w.grownBy w' v.ownBlock) (hb : base ≤ w.heap.size) : Below base w w' :=
  ⟨g.os, g.tape, g.output, g.size, fun k hk => g.block k (by omega) (fun q => by have := (h.lt k q.symm).1; omega)⟩
theorem others_grown {w w' : World} {base size n : Nat} {e : TypeId} {v : Value} {xs : List Value} (h : w.ownsRow base e size v n xs) (g : w.grownBy w' v.ownBlock) : Others e w w' := fun b cs t hb ht =>
  (g.block b hb.lt (fun q => by
    rcases h.2 with ⟨rfl, _⟩ | ⟨g', cap, cur, rfl, _, hg, _⟩
    · cases q
    · simp only [Value.ownBlock, Option.some.injEq] at q
      subst q
      have : some (Obj.cells cs t (0, 0)) = some (.cells cur e (0, 0)) := by rw [← hb, ← hg]
      simp only [Option.some.injEq, Obj.cells.injEq] at this
      exact ht this.2.1)).trans hb
theorem run_append_S {P : Program} (w : World) (t ty e : TypeId) (base : Nat) (i : TypeInfo) (z : Value) (size bytes : Nat) (ht : P.underlying t = some (.slice e)) (hi : P.info? e = some i) (hz : i.zero = some z)
    (hsize : i.size = size) (hby : i.bytes = bytes) (hzs : z.cells.size = size) (hsz : 0 < size)
    (v : Value) (n : Nat) (xs : List Value) (hown : RowS w base e size v n xs) (ga : Option Addr) (m c : Nat) (news : List Value) (hl : news.length = m * size)
    (hnews : 0 < m → ∃ ad, ga = some ad ∧ ∀ j u, news[j]? = some u → w.cell? (ad.add j) = some u) (h1 : ∀ u ∈ news, u.oneCell' = true)
    (h63 : n + m ≤ maxLen) (hbytes : (n + m) * bytes ≤ 140737488355328) (hbase : base ≤ w.heap.size) :
    ∃ ga' cap' w', (Builtin.append_ #[t, t] ty #[v, .slice ga m c]).run P w = .ok (.slice ga' (n + m) cap') w' ∧ RowS w' base e size (.slice ga' (n + m) cap') (n + m) (xs ++ news) ∧ Below base w w' ∧ Others e w w' := by
  rcases Nat.eq_zero_or_pos m with rfl | hm
  · have hn : news = [] := List.eq_nil_of_length_eq_zero (by simpa using hl)
    subst hn
    obtain ⟨gu, cu, rfl, hle⟩ := hown.le
    exact ⟨gu, cu, w, run_append_zero w t ty e i ht hi gu n cu hle ga c, by simpa using hown, Below.refl _ _, fun _ _ _ h _ => h⟩
  · obtain ⟨ad, rfl, hc⟩ := hnews hm
    rcases hown with ⟨rfl, rfl, g0, rfl⟩ | hown
    · obtain ⟨g, cap, w', hr, h2, h3, _, _⟩ := run_append_lies (P := P) w t ty base e i z size bytes ht hi hz hsize hby hzs hsz (.slice none 0 0) 0 [] (World.ownsRow_nil _ _ _ _) ad m c news hl hc h1 hm h63 hbytes hbase _ rfl
      have hO := others_grown (World.ownsRow_nil w base e size) h3
      have hB := below_grown (World.ownsRow_nil w base e size) h3 hbase
      cases g0 with
      | none => exact ⟨_, cap, w', hr, .inr h2, hB, hO⟩
      | some b =>
        have hsm : m ≤ 9223372036854775807 := by simp only [maxLen] at h63; omega
        have hb2 : m * i.bytes ≤ 140737488355328 := by rw [hby]; simpa using hbytes
        have hn := run_append_nil (P := P) w t ty e i z ht hi hz ad m c news (by rw [hsize]; exact hl) hc hm (by omega) (by omega)
        have hg := run_append_grow (P := P) w t ty e i z ht hi hz b 0 0 [] (by simp) (fun j v h => by simp at h) ad m c news (by rw [hsize]; exact hl) hc (by omega) (by omega) (growslice_fits (by omega) (by simpa using hb2))
        simp only [Nat.zero_add, List.append_nil, List.nil_append, Array.empty_append] at hg
        rw [← hn, hr] at hg
        exact ⟨_, cap, w', hg, .inr h2, hB, hO⟩
    · obtain ⟨g, cap, w', hr, h2, h3, _, _⟩ := run_append_lies (P := P) w t ty base e i z size bytes ht hi hz hsize hby hzs hsz v n xs hown ad m c news hl hc h1 hm h63 hbytes hbase _ rfl
      exact ⟨_, cap, w', hr, .inr h2, below_grown hown h3 hbase, others_grown hown h3⟩
theorem step_append_S {P : Program} {w : World} {ops : Array Oper} {o : Oper} {a : Act} {K : Act → World → Prop} {Q : Exit → Act → World → Prop} {E : Prop} (hgd : o.guard = none) (s x : Operand) (t : TypeId)
    (ho : o.op = .call { callee := .builtin .append, args := #[s, x], argTypes := #[t, t] })
    (base : Nat) (e : TypeId) (i : TypeInfo) (z : Value) (size bytes : Nat) (ht : P.underlying t = some (.slice e)) (hi : P.info? e = some i) (hz : i.zero = some z)
    (hsize : i.size = size) (hby : i.bytes = bytes) (hzs : z.cells.size = size) (hsz : 0 < size)
    (v : Value) (n : Nat) (xs : List Value) (hs : a.eval s = v) (hown : RowS w base e size v n xs)
    (ga : Option Addr) (m c : Nat) (news : List Value) (hx : a.eval x = .slice ga m c) (hl : news.length = m * size) (hnews : 0 < m → ∃ ad, ga = some ad ∧ ∀ j u, news[j]? = some u → w.cell? (ad.add j) = some u) (h1 : ∀ u ∈ news, u.oneCell' = true)
    (h63 : n + m ≤ maxLen) (hbytes : (n + m) * bytes ≤ 140737488355328) (hbase : base ≤ w.heap.size)
    (h : ∀ ga' cap' w', RowS w' base e size (.slice ga' (n + m) cap') (n + m) (xs ++ news) → Below base w w' → Others e w w' → K (a.put o.dst (.slice ga' (n + m) cap')) w') :
    if Region.wanted o (yielded ops a.tmps) = true then Oper.wp P o a w K Q else E := by
  have hw : Region.wanted o (yielded ops a.tmps) = true := by simp [Region.wanted, hgd]
  rw [if_pos hw]
  obtain ⟨ga', cap', w', hr, h2, h3, h4⟩ := run_append_S (P := P) w t o.type e base i z size bytes ht hi hz hsize hby hzs hsz v n xs hown ga m c news hl hnews h1 h63 hbytes hbase
  unfold Oper.wp execOp
  simp only [ho, resolve, invoke, builtin, Sem.run_bind, Sem.run_pure, Result.andThen_ok, List.map_toArray, List.map_cons, List.map_nil, hs, hx, hr]
  exact h ga' cap' w' h2 h3 h4

theorem bal {z : Nat} {wz w' : World} (h : Below wz.heap.size wz w') (o : Obj) : Below wz.heap.size wz (w'.alloc o) := h.alloc h.size o
/-- a zero program's block, made behind z -/
structure AB (z : Nat) (w : World) (g : Nat) : Prop where
  blk : Blk w g #[nil3, nil3] 25
  ge : z ≤ g
theorem AB.alloc {z : Nat} {w : World} {g : Nat} (h : AB z w g) (o : Obj) : AB z (w.alloc o) g := ⟨h.blk.alloc o, h.ge⟩
theorem AB.others {z : Nat} {w w' : World} {g : Nat} {e : TypeId} (h : AB z w g) (ho : Others e w w') (he : (25 : TypeId) ≠ e) : AB z w' g := ⟨ho _ _ _ h.blk he, h.ge⟩
theorem AB.ne5 {z : Nat} {w : World} {g a : Nat} (h : AB z w g) (l : a < z) : ¬ g = a := by have := h.ge; omega
theorem AB.ne5b {z : Nat} {w : World} {g a : Nat} (h : AB z w g) (l : a < z) : ¬ a = g := by have := h.ge; omega
theorem AB.fresh0 {z : Nat} (w : World) (h : z ≤ w.heap.size) : AB z (w.alloc (.cells #[nil3, nil3] 25)) w.heap.size := ⟨Blk.fresh w _ _, h⟩
theorem AB.fresh1 {z : Nat} (w : World) (o : Obj) (h : z ≤ w.heap.size) : AB z ((w.alloc o).alloc (.cells #[nil3, nil3] 25)) (w.heap.size + 1) := ⟨by have := Blk.fresh (w.alloc o) #[nil3, nil3] 25; simpa using this, by omega⟩
theorem AB.fresh2 {z : Nat} (w : World) (o o' : Obj) (h : z ≤ w.heap.size) : AB z (((w.alloc o).alloc o').alloc (.cells #[nil3, nil3] 25)) (w.heap.size + 1 + 1) := ⟨by have := Blk.fresh ((w.alloc o).alloc o') #[nil3, nil3] 25; simpa using this, by omega⟩
theorem others_set {z : Nat} {w : World} {g : Nat} {cs : Array Value} (h : Blk w g cs 25) (j : Nat) (u : Value) : Others 25 w (w.setCell ⟨g, j, none⟩ u) := fun b c t hb ht => by
  have hne : b ≠ g := fun q => by
    subst q
    have : some (Obj.cells c t (0, 0)) = some (.cells cs 25 (0, 0)) := by rw [← hb, ← h]
    simp only [Option.some.injEq, Obj.cells.injEq] at this
    exact ht this.2.1
  exact (setCell_block _ _ _ _ hne).trans hb
/-- what lies where in the end -/
def Fin (z : Nat) (w : World) (g : Nat) (vD vB : Value) (n m : Nat) (xD xB : List Value) : Prop := Blk w g #[vD, vB] 25 ∧ RowS w z 55 3 vD n xD ∧ RowS w z 51 11 vB m xB
theorem fin_set {z : Nat} {w : World} {g : Nat} {vD vB : Value} {n m : Nat} {xD xB : List Value} (A : AB z w g) (D : RowS w z 55 3 vD n xD) (B : RowS w z 51 11 vB m xB) : Fin z ((w.setCell ⟨g, 0, none⟩ vD).setCell ⟨g, 1, none⟩ vB) g vD vB n m xD xB ∧ Below z w ((w.setCell ⟨g, 0, none⟩ vD).setCell ⟨g, 1, none⟩ vB) := by
  have h1 : Blk (w.setCell ⟨g, 0, none⟩ vD) g #[vD, nil3] 25 := Joins.block_setCell (i := 0) A.blk vD
  have h2 : Blk ((w.setCell ⟨g, 0, none⟩ vD).setCell ⟨g, 1, none⟩ vB) g #[vD, vB] 25 := Joins.block_setCell (i := 1) h1 vB
  refine ⟨⟨h2, (D.others (others_set (z := z) A.blk 0 vD) (by decide)).others (others_set (z := z) h1 1 vB) (by decide), (B.others (others_set (z := z) A.blk 0 vD) (by decide)).others (others_set (z := z) h1 1 vB) (by decide)⟩, ⟨rfl, rfl, rfl, by simp, fun k hk => ?_⟩⟩
  have := A.ge
  rw [setCell_block _ _ _ _ (by simp; omega), setCell_block _ _ _ _ (by simp; omega)]
theorem fin_new {z : Nat} {w : World} {vD vB : Value} {n m : Nat} {xD xB : List Value} (D : RowS w z 55 3 vD n xD) (B : RowS w z 51 11 vB m xB) : Fin z (w.alloc (.cells #[vD, vB] 25)) w.heap.size vD vB n m xD xB := ⟨Blk.fresh w _ _, D.alloc _, B.alloc _⟩
theorem src_row {w : World} {ga : Option Addr} {n c : Nat} {xs : List Value} (h : IsRow w anyB xs n (.slice ga n c)) : ∀ W, Below w.heap.size w W → 0 < n → ∃ ad, ga = some ad ∧ ∀ j u, xs[j]? = some u → W.cell? (ad.add j) = some u := fun W hW hn => by
  obtain ⟨g, off, rfl, hx⟩ := row_cell h hn
  refine ⟨_, rfl, fun j u hj => ?_⟩
  have h1 := hx j u hj
  rw [show ((⟨g, off, none⟩ : Addr).add j) = ⟨g, off + j, none⟩ by unfold Addr.add; split <;> simp_all]
  exact (hW.cell (World.block_lt_of_cell? _ _ h1)).trans h1
theorem isBs_one {w : World} {ok : Nat → Prop} : ∀ (l : List B) (c : List Value), isBs w ok l c → ∀ u ∈ c, u.oneCell' = true
  | [], c, h => by simp only [isBs] at h; subst h; simp
  | x :: r, c, h => by
    simp only [isBs] at h
    obtain ⟨c1, c2, rfl, h1, h2⟩ := h
    intro u hu
    rcases List.mem_append.1 hu with z | z
    · obtain ⟨k, a, m, a0, s, s0, g3, g4, g5, g6, g7, n3, n4, n5, n6, n7, c3, c4, c5, c6, c7, rfl⟩ := isB_eleven h1
      clear hu
      simp only [List.mem_cons, List.not_mem_nil, or_false] at z
      rcases z with rfl | rfl | rfl | rfl | rfl | rfl | rfl | rfl | rfl | rfl | rfl <;> rfl
    · exact isBs_one r c2 h2 u z
theorem datC_one (l : List D) : ∀ u ∈ datC l, u.oneCell' = true := by
  intro u hu
  unfold datC at hu
  obtain ⟨d, _, hd⟩ := List.mem_flatMap.1 hu
  revert hd
  simp only [List.mem_cons, List.not_mem_nil, or_false]
  rintro (rfl | rfl | rfl) <;> rfl
theorem datC_len : ∀ l : List D, (datC l).length = l.length * 3
  | [] => rfl
  | d :: l => by
    have e : datC (d :: l) = [.string (str d.name), .int .i64 d.arity, .int .i64 d.at'] ++ datC l := by simp [datC]
    rw [e, List.length_append, datC_len l]
    simp
    omega
theorem datC_app (a b : List D) : datC (a ++ b) = datC a ++ datC b := by simp [datC]
theorem isBs_app {w : World} {ok : Nat → Prop} : ∀ (a b : List B) (c d : List Value), isBs w ok a c → isBs w ok b d → isBs w ok (a ++ b) (c ++ d)
  | [], b, c, d, h, h' => by simp only [isBs] at h; subst h; simpa using h'
  | x :: a, b, c, d, h, h' => by
    simp only [isBs] at h
    obtain ⟨c1, c2, rfl, h1, h2⟩ := h
    simp only [List.cons_append, isBs]
    exact ⟨c1, c2 ++ d, List.append_assoc _ _ _, h1, isBs_app a b c2 d h2 h'⟩

end Go.Proofs.YtoedeedoecdajaaDoor
