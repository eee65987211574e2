/- The document's own stack: what a push leaves, as facts. -/
import Derived.Test.YtglimbpnekephaaDoorDsb
import Derived.Deep.RegionHeld3
namespace Go.Proofs.YtglimbpnekephaaDoor
open Go.RowKit
set_option linter.unusedVariables false
set_option linter.unusedSimpArgs false

theorem Ds.later {w w' : World} {d base : Nat} {n : Int} {v : Value} {l : List Fp} (h : Ds w d base n v l) (B : Below w.heap.size w w') : Ds w' d base n v l :=
  ⟨(B.block d h.box.lt).trans h.box, h.R.later B, fun x hx => (h.q x hx).later B, h.ap⟩
theorem step_append_T {P : Program} {w : World} {ops : Array Oper} {o : Oper} {a : Act} {K : Act → World → Prop} {Q : Exit → Act → World → Prop} {E : Prop} (hgd : o.guard = none) (s x : Operand) (t : TypeId)
    (ho : o.op = .call { callee := .builtin .append, args := #[s, x], argTypes := #[t, t] })
    (base : Nat) (e : TypeId) (i : TypeInfo) (z : Value) (size bytes : Nat) (ht : P.underlying t = some (.slice e)) (hi : P.info? e = some i) (hz : i.zero = some z)
    (hsize : i.size = size) (hby : i.bytes = bytes) (hzs : z.cells.size = size) (hsz : 0 < size)
    (v : Value) (n : Nat) (xs : List Value) (hs : a.eval s = v) (hown : RowS w base e size v n xs)
    (ga : Option Addr) (m c : Nat) (news : List Value) (hx : a.eval x = .slice ga m c) (hl : news.length = m * size) (hnews : 0 < m → ∃ ad, ga = some ad ∧ ∀ j u, news[j]? = some u → w.cell? (ad.add j) = some u) (h1 : ∀ u ∈ news, u.oneCell' = true)
    (k : Nat) (hk : n + m = k) (ys : List Value) (hy : xs ++ news = ys)
    (h63 : k ≤ maxLen) (hbytes : k * bytes ≤ 140737488355328) (hbase : base ≤ w.heap.size)
    (h : ∀ ga' cap' w', RowS w' base e size (.slice ga' k cap') k ys → (∃ row, w.grownBy w' row ∧ ∀ k, row = some k → 0 < n ∧ v.ownBlock = some k) → (m = 0 → .slice ga' k cap' = v ∧ w' = w) → K (a.put o.dst (.slice ga' k cap')) w') :
    if Region.wanted o (yielded ops a.tmps) = true then Oper.wp P o a w K Q else E := by
  subst hk hy
  have main : ∃ ga' cap' w', (Builtin.append_ #[t, t] o.type #[v, .slice ga m c]).run P w = .ok (.slice ga' (n + m) cap') w' ∧ RowS w' base e size (.slice ga' (n + m) cap') (n + m) (xs ++ news) ∧ (∃ row, w.grownBy w' row ∧ ∀ k, row = some k → 0 < n ∧ v.ownBlock = some k) ∧ (m = 0 → .slice ga' (n + m) cap' = v ∧ w' = w) := by
    rcases Nat.eq_zero_or_pos m with h0 | h0
    · subst h0
      have hn : news = [] := List.eq_nil_of_length_eq_zero (by simpa using hl)
      subst hn
      obtain ⟨gu, cu, hv, hle⟩ := hown.le
      subst hv
      exact ⟨gu, cu, w, run_append_zero w t o.type e i ht hi gu n cu hle ga c, by simpa using hown, ⟨none, ⟨rfl, rfl, rfl, Nat.le_refl _, fun _ _ _ => rfl⟩, fun k hk => by cases hk⟩, fun _ => ⟨rfl, rfl⟩⟩
    · obtain ⟨ga', cap', w', hr, h2, h3⟩ := run_append_S (P := P) w t o.type e base i z size bytes ht hi hz hsize hby hzs hsz v n xs hown ga m c news hl hnews h1 h63 hbytes hbase
      exact ⟨ga', cap', w', hr, h2, h3, fun e => by omega⟩
  obtain ⟨ga', cap', w', hr, h2, h3, h4⟩ := main
  have hw : Region.wanted o (yielded ops a.tmps) = true := by unfold Region.wanted; rw [hgd]
  rw [if_pos hw]
  unfold Oper.wp execOp
  simp only [ho, resolve, invoke, builtin, Sem.run_bind, Sem.run_pure, Result.andThen_ok, List.map_toArray, List.map_cons, List.map_nil, hs, hx, hr]
  exact h ga' cap' w' h2 h3 h4
theorem pt_row {w : World} {base cap : Nat} {ga : Option Addr} {ps : List Int} (h : RowS w base 3 1 (.slice ga ps.length cap) ps.length (rowI ps)) (hl : ps.length ≤ 1000) (hz : ps.length = 0 → ∀ ad, ga = some ad → base ≤ ad.block ∧ ∃ cs, w.heap[ad.block]? = some (.cells cs 3 (0, 0))) : PT w ga cap ps ∧ ∀ ad, ga = some ad → base ≤ ad.block ∧ ad.block < w.heap.size := by
  rcases h with ⟨h1, h2, g', h3⟩ | ⟨h0, h⟩
  · simp only [Value.slice.injEq] at h3
    obtain ⟨rfl, _, rfl⟩ := h3
    refine ⟨⟨⟨by omega, by unfold maxLen; omega, fun q => by omega⟩, fun ad e => (hz h1 ad e).2⟩, fun ad e => ⟨(hz h1 ad e).1, ?_⟩⟩
    obtain ⟨cs, hc⟩ := (hz h1 ad e).2
    exact (Array.getElem?_eq_some_iff.1 hc).1
  · rcases h.2 with ⟨_, hn⟩ | ⟨g, cap', cur, hv, hb, hg, h1, h2, h3, h4⟩
    · omega
    · simp only [Value.slice.injEq, true_and] at hv
      obtain ⟨rfl, rfl⟩ := hv
      refine ⟨⟨⟨h1, by unfold maxLen; omega, fun _ => ⟨g, 0, rfl, fun i hi => ?_⟩⟩, fun ad e => ?_⟩, fun ad e => ?_⟩
      · rw [Nat.zero_add, Joins.cell_of_block hg]
        have e : (cur.toList.take (ps.length * 1))[i]? = (rowI ps)[i]? := by rw [h4]
        rw [Nat.mul_one, List.getElem?_take_of_lt hi] at e
        have : (rowI ps)[i]? = some (.int .i64 (ps[i]'hi)) := by simp [rowI, hi]
        rw [this] at e
        simpa using e
      · cases e; exact ⟨cur, hg⟩
      · cases e; exact ⟨hb, (Array.getElem?_eq_some_iff.1 hg).1⟩
theorem ds_push {w w3 w5 : World} {d base cap1 : Nat} {n : Int} {v v' : Value} {l : List Fp} {f : Fr} {ga1 : Option Addr} {ob : Obj} (h : Ds w d base n v l) (hd : d < base) (B3 : Below w.heap.size w w3) (P3 : PT w3 ga1 cap1 f.ps) (hga : ∀ ad, ga1 = some ad → w.heap.size ≤ ad.block ∧ ad.block < w3.heap.size)
    (hg : (w3.alloc ob).grownBy w5 v.ownBlock) (hown : w5.ownsRow base 36 4 v' (l.length + 1) (cellsF l ++ frC ⟨f, ga1, cap1⟩)) :
    Ds (w5.setCell ⟨d, 1, none⟩ v') d base n v' (l ++ [⟨f, ga1, cap1⟩]) ∧ Kq d v w (w5.setCell ⟨d, 1, none⟩ v') ∧ w5.cell? ⟨d, 1, none⟩ = some v ∧ w5.frozen? ⟨d, 1, none⟩ = false := by
  have dl := h.box.lt
  have vb : ∀ k, v.ownBlock = some k → base ≤ k ∧ k < w.heap.size := fun k e => h.R.lt k e
  have BA : Below w.heap.size w (w3.alloc ob) := B3.alloc B3.size _
  have sA : (w3.alloc ob).heap.size = w3.heap.size + 1 := World.size_alloc _ _
  have keep : ∀ k, k < w3.heap.size → v.ownBlock ≠ some k → w5.heap[k]? = w3.heap[k]? := fun k hk hv => (hg.block k (by omega) (fun e => hv e.symm)).trans (Below.heap_alloc _ _ _ hk)
  have keep0 : ∀ k, k < w.heap.size → v.ownBlock ≠ some k → w5.heap[k]? = w.heap[k]? := fun k hk hv => (keep k (by have := B3.size; omega) hv).trans (B3.block k hk)
  have dv : v.ownBlock ≠ some d := fun e => by have := vb d e; omega
  have bx5 : Bx w5 d #[.int .i64 n, v] 31 := (keep0 d dl dv).trans h.box
  have far : ∀ k, k ≠ d → (w5.setCell ⟨d, 1, none⟩ v').heap[k]? = w5.heap[k]? := fun k hk => Below.heap_setCell _ _ _ _ hk
  -- which block holds what: v's own block holds frames, not numbers
  have v36 : ∀ k, v.ownBlock = some k → ∃ cs, w.heap[k]? = some (.cells cs 36 (0, 0)) := fun k e => by
    rcases h.R.2 with ⟨hn, _⟩ | ⟨g, cap, cur, hv, hb, hgg, _⟩
    · rw [hn] at e; simp [Value.ownBlock] at e
    · rw [hv] at e; simp [Value.ownBlock] at e; subst e; exact ⟨cur, hgg⟩
  have num : ∀ (m : Nat) (cs : Array Value), w.heap[m]? = some (.cells cs 3 (0, 0)) → (w5.setCell ⟨d, 1, none⟩ v').heap[m]? = w.heap[m]? := fun m cs hm => by
    have ml := (Array.getElem?_eq_some_iff.1 hm).1
    refine (far m (fun e => ?_)).trans (keep0 m ml (fun e => ?_))
    · subst e; have b := h.box; unfold Bx at b; rw [b] at hm; cases hm
    · obtain ⟨cs', h'⟩ := v36 m e; rw [h'] at hm; cases hm
  have num3 : ∀ (m : Nat) (cs : Array Value), w3.heap[m]? = some (.cells cs 3 (0, 0)) → (w5.setCell ⟨d, 1, none⟩ v').heap[m]? = w3.heap[m]? := fun m cs hm => by
    have ml := (Array.getElem?_eq_some_iff.1 hm).1
    refine (far m (fun e => ?_)).trans (keep m ml (fun e => ?_))
    · subst e; have b := h.box; unfold Bx at b; rw [B3.block m dl, b] at hm; cases hm
    · obtain ⟨cs', h'⟩ := v36 m e; rw [B3.block m (vb m e).2, h'] at hm; cases hm
  refine ⟨⟨Joins.block_setCell (i := 1) bx5 _, ?_, fun y hy => ?_, ?_⟩, ⟨hg.os.trans BA.os, hg.tape.trans BA.tape, hg.output.trans BA.output, ?_, fun k hk hkd hkv => (far k hkd).trans (keep0 k hk hkv)⟩, by rw [Joins.cell_of_block bx5]; rfl, Joins.unfrozen_of_block bx5 _⟩
  · have r5 : Rw w5 base v' (l ++ [⟨f, ga1, cap1⟩]) := by
      unfold Rw
      rw [cellsF_snoc, List.length_append]
      exact hown
    exact r5.same fun g hb hl => far g (by omega)
  · rcases List.mem_append.1 hy with hy | hy
    · exact (h.q y hy).same num
    · rw [List.mem_singleton] at hy
      subst hy
      exact P3.same num3
  · refine List.pairwise_append.2 ⟨h.ap, by simp, fun x hx y hy a b ea eb => ?_⟩
    rw [List.mem_singleton] at hy
    subst hy
    obtain ⟨cs, hc⟩ := (h.q x hx).t a ea
    have := (Array.getElem?_eq_some_iff.1 hc).1
    have := (hga b eb).1
    omega
  · have := BA.size
    have := hg.size
    simp
    omega
end Go.Proofs.YtglimbpnekephaaDoor
