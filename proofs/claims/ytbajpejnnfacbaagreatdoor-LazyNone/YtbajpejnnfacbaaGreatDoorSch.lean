/- append of any number of items onto a row of the call's own, or onto an empty one. -/
import Derived.Test.YtbajpejnnfacbaaGreatDoorScd
import Derived.Laws.AppendOwnNone
namespace Go.Proofs.YtbajpejnnfacbaaGreatDoor
open Go.RowKit
set_option linter.unusedVariables false
set_option linter.unusedSimpArgs false

theorem run_append_zero {P : Program} (w : World) (t ty e : TypeId) (i : TypeInfo) (ht : P.underlying t = some (.slice e)) (hi : P.info? e = some i) (base : Option Addr) (sLen sCap : Nat) (hle : sLen ≤ sCap) (ga : Option Addr) (cap : Nat) :
    (Builtin.append_ #[t, t] ty #[.slice base sLen sCap, .slice ga 0 cap]).run P w = .ok (.slice base sLen sCap) w := by
  cases ga <;> cases base <;> simp [Builtin.append_, run_underlying ht, sizeOf, typeInfo, hi, hle, storeCells, Builtin.lenOf, Builtin.firstCells, loadCells, go_sem]
/-- a row of the call's own; or an empty slice without room -/
def RowS (w : World) (base : Nat) (e : TypeId) (size : Nat) (v : Value) (n : Nat) (xs : List Value) : Prop :=
  (n = 0 ∧ xs = [] ∧ ∃ ga, v = .slice ga 0 0) ∨ w.ownsRow base e size v n xs
theorem RowS.le {w : World} {base size n : Nat} {e : TypeId} {v : Value} {xs : List Value} (h : RowS w base e size v n xs) : ∃ ga cap, v = .slice ga n cap ∧ n ≤ cap := by
  rcases h with ⟨rfl, rfl, ga, rfl⟩ | h
  · exact ⟨ga, 0, rfl, Nat.le_refl _⟩
  · rcases h.2 with ⟨rfl, h0⟩ | ⟨g, cap, cur, rfl, _, _, hc, _⟩
    · exact ⟨none, 0, by rw [h0], by omega⟩
    · exact ⟨_, _, rfl, hc⟩
theorem below_grown {w w' : World} {base size n : Nat} {e : TypeId} {v : Value} {xs : List Value} (h : w.ownsRow base e size v n xs) (g : w.grownBy w' v.ownBlock) (hb : base ≤ w.heap.size) : Below base w w' :=
  ⟨g.os, g.tape, g.output, g.size, fun k hk => g.block k (by omega) (fun q => by have := (h.lt k q.symm).1; omega)⟩
theorem run_append_S {P : Program} (w : World) (t ty e : TypeId) (base : Nat) (i : TypeInfo) (z : Value) (size bytes : Nat) (ht : P.underlying t = some (.slice e)) (hi : P.info? e = some i) (hz : i.zero = some z)
    (hsize : i.size = size) (hby : i.bytes = bytes) (hzs : z.cells.size = size) (hsz : 0 < size)
    (v : Value) (n : Nat) (xs : List Value) (hown : RowS w base e size v n xs) (ga : Option Addr) (m c : Nat) (news : List Value) (hl : news.length = m * size)
    (hnews : 0 < m → ∃ ad, ga = some ad ∧ ∀ j u, news[j]? = some u → w.cell? (ad.add j) = some u) (h1 : ∀ u ∈ news, u.oneCell' = true)
    (h63 : n + m ≤ maxLen) (hbytes : (n + m) * bytes ≤ 140737488355328) (hbase : base ≤ w.heap.size) :
    ∃ ga' cap' w', (Builtin.append_ #[t, t] ty #[v, .slice ga m c]).run P w = .ok (.slice ga' (n + m) cap') w' ∧ RowS w' base e size (.slice ga' (n + m) cap') (n + m) (xs ++ news) ∧ Below base w w' := by
  rcases Nat.eq_zero_or_pos m with rfl | hm
  · have hn : news = [] := List.eq_nil_of_length_eq_zero (by simpa using hl)
    subst hn
    obtain ⟨gu, cu, rfl, hle⟩ := hown.le
    exact ⟨gu, cu, w, run_append_zero w t ty e i ht hi gu n cu hle ga c, by simpa using hown, Below.refl _ _⟩
  · obtain ⟨ad, rfl, hc⟩ := hnews hm
    rcases hown with ⟨rfl, rfl, g0, rfl⟩ | hown
    · obtain ⟨g, cap, w', hr, h2, h3, _, _⟩ := run_append_lies (P := P) w t ty base e i z size bytes ht hi hz hsize hby hzs hsz (.slice none 0 0) 0 [] (World.ownsRow_nil _ _ _ _) ad m c news hl hc h1 hm h63 hbytes hbase _ rfl
      have hB := below_grown (World.ownsRow_nil w base e size) h3 hbase
      cases g0 with
      | none => exact ⟨_, cap, w', hr, .inr h2, hB⟩
      | some b =>
        have hsm : m ≤ 9223372036854775807 := by simp only [maxLen] at h63; omega
        have hb2 : m * i.bytes ≤ 140737488355328 := by rw [hby]; simpa using hbytes
        have hn := run_append_nil (P := P) w t ty e i z ht hi hz ad m c news (by rw [hsize]; exact hl) hc hm (by omega) (by omega)
        have hg := run_append_grow (P := P) w t ty e i z ht hi hz b 0 0 [] (by simp) (fun j v h => by simp at h) ad m c news (by rw [hsize]; exact hl) hc (by omega) (by omega) (growslice_fits (by omega) (by simpa using hb2))
        simp only [Nat.zero_add, List.append_nil, List.nil_append, Array.empty_append] at hg
        rw [← hn, hr] at hg
        exact ⟨_, cap, w', hg, .inr h2, hB⟩
    · obtain ⟨g, cap, w', hr, h2, h3, _, _⟩ := run_append_lies (P := P) w t ty base e i z size bytes ht hi hz hsize hby hzs hsz v n xs hown ad m c news hl hc h1 hm h63 hbytes hbase _ rfl
      exact ⟨_, cap, w', hr, .inr h2, below_grown hown h3 hbase⟩
theorem wpList_append_S {P : Program} {w : World} {ops : Array Oper} {rest : List Oper} {o : Oper} {a : Act} {Q : Exit → Act → World → Prop} (hgd : o.guard = none) (s x : Operand) (t : TypeId)
    (ho : o.op = .call { callee := .builtin .append, args := #[s, x], argTypes := #[t, t] })
    (base : Nat) (e : TypeId) (i : TypeInfo) (z : Value) (size bytes : Nat) (ht : P.underlying t = some (.slice e)) (hi : P.info? e = some i) (hz : i.zero = some z)
    (hsize : i.size = size) (hby : i.bytes = bytes) (hzs : z.cells.size = size) (hsz : 0 < size)
    (v : Value) (n : Nat) (xs : List Value) (hs : a.eval s = v) (hown : RowS w base e size v n xs)
    (ga : Option Addr) (m c : Nat) (news : List Value) (hx : a.eval x = .slice ga m c) (hl : news.length = m * size) (hnews : 0 < m → ∃ ad, ga = some ad ∧ ∀ j u, news[j]? = some u → w.cell? (ad.add j) = some u) (h1 : ∀ u ∈ news, u.oneCell' = true)
    (h63 : n + m ≤ maxLen) (hbytes : (n + m) * bytes ≤ 140737488355328) (hbase : base ≤ w.heap.size)
    (h : ∀ ga' cap' w', RowS w' base e size (.slice ga' (n + m) cap') (n + m) (xs ++ news) → Below base w w' → wpList P ops Q rest (a.put o.dst (.slice ga' (n + m) cap')) w') : wpList P ops Q (o :: rest) a w := by
  refine wpList_plain hgd fun K hK => ?_
  obtain ⟨ga', cap', w', hr, h2, h3⟩ := run_append_S (P := P) w t o.type e base i z size bytes ht hi hz hsize hby hzs hsz v n xs hown ga m c news hl hnews h1 h63 hbytes hbase
  unfold Oper.wp
  simp [execOp, ho, resolve, invoke, builtin, hs, hx, hr, Result.andThen]
  exact hK _ _ (h ga' cap' w' h2 h3)
theorem wpList_append_T {P : Program} {w : World} {ops : Array Oper} {rest : List Oper} {o : Oper} {a : Act} {Q : Exit → Act → World → Prop} (hgd : o.guard = none) (s x : Operand) (t : TypeId)
    (ho : o.op = .call { callee := .builtin .append, args := #[s, x], argTypes := #[t, t] })
    (base : Nat) (e : TypeId) (i : TypeInfo) (z : Value) (size bytes : Nat) (ht : P.underlying t = some (.slice e)) (hi : P.info? e = some i) (hz : i.zero = some z)
    (hsize : i.size = size) (hby : i.bytes = bytes) (hzs : z.cells.size = size) (hsz : 0 < size)
    (v : Value) (n : Nat) (xs : List Value) (hs : a.eval s = v) (hown : RowS w base e size v n xs)
    (ga : Option Addr) (m c : Nat) (news : List Value) (hx : a.eval x = .slice ga m c) (hl : news.length = m * size) (hnews : 0 < m → ∃ ad, ga = some ad ∧ ∀ j u, news[j]? = some u → w.cell? (ad.add j) = some u) (h1 : ∀ u ∈ news, u.oneCell' = true)
    (k : Nat) (hk : n + m = k) (ys : List Value) (hy : xs ++ news = ys)
    (h63 : k ≤ maxLen) (hbytes : k * bytes ≤ 140737488355328) (hbase : base ≤ w.heap.size)
    (h : ∀ ga' cap' w', RowS w' base e size (.slice ga' k cap') k ys → Below base w w' → wpList P ops Q rest (a.put o.dst (.slice ga' k cap')) w') : wpList P ops Q (o :: rest) a w := by
  subst hk hy
  exact wpList_append_S hgd s x t ho base e i z size bytes ht hi hz hsize hby hzs hsz v n xs hs hown ga m c news hx hl hnews h1 h63 hbytes hbase h
theorem info9 : (Tryz.prog.info? 9).map (fun i => (i.zero, i.size, i.bytes)) = some (some (.string ⟨#[]⟩), 1, 16) := by kernel_rfl
theorem strC_snoc (l : List (List UInt8)) (s : List UInt8) : strC (l ++ [s]) = strC l ++ [.string (str s)] := by simp [strC]
theorem strC_app (a b : List (List UInt8)) : strC (a ++ b) = strC a ++ strC b := by simp [strC]
theorem strC_one (l : List (List UInt8)) : ∀ u ∈ strC l, u.oneCell' = true := by
  intro u hu
  simp only [strC, List.mem_map] at hu
  obtain ⟨s, _, rfl⟩ := hu
  rfl
/-- a row of names that the call has made: it lies at or behind that place -/
def Nw (w : World) (z : Nat) (v : Value) (l : List Nm) : Prop := RowS w z 9 1 v l.length (strC l)
theorem Nw.row {w : World} {z : Nat} {v : Value} {l : List Nm} {ok : Nat → Prop} (h : Nw w z v l) (hl : l.length ≤ 1000000000) (ho : ∀ g, z ≤ g → ok g) : IsRow w ok (strC l) l.length v := by
  unfold Nw at h
  generalize l.length = n at h hl ⊢
  generalize strC l = xs at h ⊢
  rcases h with ⟨rfl, rfl, ga, rfl⟩ | h
  · exact ⟨ga, 0, rfl, ⟨Nat.le_refl _, by omega⟩, fun z => absurd z (Nat.lt_irrefl 0)⟩
  · exact row_of_owns h (fun g e => ho g (h.lt g e).1) hl
theorem row_src {w : World} {ok : Nat → Prop} {xs : List Value} {n c : Nat} {ga : Option Addr} (h : IsRow w ok xs n (.slice ga n c)) : 0 < n → ∃ ad, ga = some ad ∧ ∀ j u, xs[j]? = some u → w.cell? (ad.add j) = some u := fun hn => by
  obtain ⟨ga', c', e, _, hx⟩ := h
  simp only [Value.slice.injEq] at e
  obtain ⟨rfl, _, rfl⟩ := e
  obtain ⟨g, off, rfl, _, hx⟩ := hx hn
  refine ⟨_, rfl, fun j u hj => ?_⟩
  rw [show ((⟨g, off, none⟩ : Addr).add j) = ⟨g, off + j, none⟩ by unfold Addr.add; split <;> simp_all]
  exact hx j u hj
end Go.Proofs.YtbajpejnnfacbaaGreatDoor

/- The document's check: two lists of names in one. -/
namespace Go.Proofs.YtbajpejnnfacbaaGreatDoor
open Go.RowKit
set_option linter.unusedVariables false
end Go.Proofs.YtbajpejnnfacbaaGreatDoor

/- The document's check: the names of binds. -/
namespace Go.Proofs.YtbajpejnnfacbaaGreatDoor
open Go.RowKit
set_option linter.unusedVariables false
set_option linter.unusedSimpArgs false

theorem isB_name {w : World} {ok : Nat → Prop} {x : B} {d : List Value} (h : isB w ok x d) : d[0]? = some (.string (str (nameB' x))) := by
  obtain ⟨n, a, l, e⟩ := x
  simp only [isB] at h
  obtain ⟨va, d', rfl, _, _⟩ := h
  rfl
theorem Nw.nil (w : World) (z : Nat) : Nw w z (.slice none 0 0) [] := .inl ⟨rfl, rfl, none, rfl⟩
theorem Nw.below {w w' : World} {z : Nat} {v : Value} {l : List Nm} (h : Nw w z v l) (hb : Below w.heap.size w w') : Nw w' z v l := by
  rcases h with h | h
  · exact .inl h
  · exact .inr (h.kept (row := none) ⟨hb.os, hb.tape, hb.output, hb.size, fun k hk _ => hb.block k hk⟩ (by cases v.ownBlock <;> simp))
theorem RowS.kept {w w' : World} {base size n : Nat} {e : TypeId} {v : Value} {xs : List Value} (h : RowS w base e size v n xs) (hb : Below w.heap.size w w') : RowS w' base e size v n xs := by
  rcases h with h | h
  · exact .inl h
  · exact .inr (World.ownsRow.kept (row := none) h ⟨hb.os, hb.tape, hb.output, hb.size, fun k hk _ => hb.block k hk⟩ (by cases v.ownBlock <;> simp))
theorem one_cell {s : ByteArray} : ∀ u ∈ [Value.string s], u.oneCell' = true := by
  intro u hu
  simp only [List.mem_singleton] at hu
  subst hu
  rfl
end Go.Proofs.YtbajpejnnfacbaaGreatDoor

/- The document's primitives: names and how many arguments. -/
namespace Go.Proofs.YtbajpejnnfacbaaGreatDoor
open Go.RowKit
set_option linter.unusedVariables false


def tN : Nat → List UInt8 | 1 => [35, 97, 100, 100] | 2 => [35, 115, 117, 98] | 3 => [35, 109, 117, 108] | 4 => [35, 100, 105, 118] | 5 => [35, 114, 101, 109] | 6 => [35, 101, 113] | 7 => [35, 108, 116] | 8 => [35, 101, 109, 105, 116] | 9 => [35, 115, 101, 113] | 10 => [35, 114, 101, 102] | 11 => [35, 103, 101, 116] | 12 => [35, 115, 101, 116] | 13 => [35, 97, 114, 114] | 14 => [35, 97, 116] | 15 => [35, 112, 117, 116] | 16 => [35, 108, 101, 110] | _ => []
def tA : Nat → Int | 1 => 2 | 2 => 2 | 3 => 2 | 4 => 2 | 5 => 2 | 6 => 2 | 7 => 2 | 8 => 1 | 9 => 2 | 10 => 1 | 11 => 1 | 12 => 2 | 13 => 2 | 14 => 2 | 15 => 3 | 16 => 1 | _ => 0
def tB : Nat → Int | 1 => 2 | 2 => 2 | 3 => 2 | 4 => 2 | 5 => 2 | 6 => 2 | 7 => 2 | 8 => 2 | 9 => 1 | 11 => 3 | 12 => 3 | 13 => 2 | 14 => 4 | 15 => 4 | 16 => 4 | _ => 0
def tC : Nat → Int | 1 => 2 | 2 => 2 | 3 => 2 | 4 => 2 | 5 => 2 | 6 => 2 | 7 => 2 | 14 => 2 | 15 => 2 | _ => 0

/-- the row of a number: its own, or that of none -/
def rowN (n : Int) : Nat := if 0 ≤ n ∧ n ≤ 16 then n.toNat else 0
theorem rowN_in {k : Nat} (h : k < 17) : rowN k = k := by unfold rowN; rw [if_pos (by omega)]; omega
theorem rowN_out {n : Int} (h : ¬ (0 ≤ n ∧ n ≤ 16)) : rowN n = 0 := if_neg h
theorem rowN_lt (n : Int) : rowN n < 17 := by unfold rowN; split <;> omega
theorem split17 {P : Int → Prop} (n : Int) (hin : ∀ k : Nat, k < 17 → P k) (hout : ¬ (0 ≤ n ∧ n ≤ 16) → P n) : P n := by
  by_cases h : 0 ≤ n ∧ n ≤ 16
  · have := hin n.toNat (by omega)
    rwa [Int.toNat_of_nonneg h.1] at this
  · exact hout h
def needI (k : Nat) (i : Int) : Int := if i = 0 then tB k else if i = 1 then tC k else 0

theorem eq_yes {t s : ByteArray} (h : t = s) : (t.toList == s.toList) = true := by subst h; simp
theorem eq_no {t s : ByteArray} (h : t ≠ s) : (t.toList == s.toList) = false := by
  rw [ByteArray.toList_eq, ByteArray.toList_eq]
  exact beq_eq_false_iff_ne.2 fun e => h (Go.WideShapes.bytes_inj e)
/-- the number of a name: the one whose name it is, else 0 -/
def FindsTo (s : ByteArray) (r : Nat) : Prop := (r < 17 ∧ str (tN r) = s) ∨ (r = 0 ∧ ∀ k < 17, str (tN k) ≠ s)
theorem tN_inj : ∀ j < 17, ∀ k < 17, tN j = tN k → j = k := by decide
theorem str_inj {a b : List UInt8} (h : str a = str b) : a = b := by
  have := congrArg (fun x => x.data.toList) h
  simpa [str] using this
theorem FindsTo.one {s : ByteArray} {a b : Nat} (h : FindsTo s a) (g : FindsTo s b) : a = b := by
  rcases h with ⟨ha, ea⟩ | ⟨ha, na⟩ <;> rcases g with ⟨hb, eb⟩ | ⟨hb, nb⟩
  · exact tN_inj a ha b hb (str_inj (ea.trans eb.symm))
  · exact absurd ea (nb a ha)
  · exact absurd eb (na b hb)
  · rw [ha, hb]

theorem need_none (i : Int) : needI 0 i = 0 := by
  unfold needI
  by_cases a : i = 0
  · rw [if_pos a]; rfl
  · rw [if_neg a]
    by_cases b : i = 1
    · rw [if_pos b]; rfl
    · rw [if_neg b]

def prN (n : Nm) : Nat := ((List.range 17).find? (fun k => decide (tN k = n))).getD 0
theorem prN_finds (n : Nm) : FindsTo (str n) (prN n) := by
  unfold prN
  cases h : (List.range 17).find? (fun k => decide (tN k = n)) with
  | some k =>
    have h1 := List.find?_some h
    have h2 := List.mem_of_find?_eq_some h
    simp only [decide_eq_true_eq] at h1
    exact Or.inl ⟨by simpa using h2, by rw [Option.getD_some, h1]⟩
  | none =>
    rw [List.find?_eq_none] at h
    refine Or.inr ⟨rfl, fun k hk e => ?_⟩
    have := h k (by simpa using hk)
    simp only [decide_eq_true_eq] at this
    exact this (str_inj e)
end Go.Proofs.YtbajpejnnfacbaaGreatDoor
