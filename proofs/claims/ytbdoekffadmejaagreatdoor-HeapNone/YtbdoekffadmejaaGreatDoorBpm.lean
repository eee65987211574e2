/- The iterator over what was laid, gone over by a range. -/
import Derived.Test.YtbdoekffadmejaaGreatDoorBph
namespace Go.Proofs.YtbdoekffadmejaaGreatDoor.Bp
open Go.RowKit Go.Shelf
set_option linter.unusedVariables false
set_option linter.unusedSimpArgs false
attribute [local go_sem] Oper.semAt_some

abbrev El (L : List (Nat × Nat)) : Type := { x : Nat × Nat // x ∈ L }
/-- The blocks that the iterator reads. -/
def kz (Bs : Nat) (ga : Option Addr) (k : Nat) : Prop := k = Bs ∨ ∃ o, ga = some ⟨k, o, none⟩
def Sty (X : Nat → Prop) (W W' : World) : Prop := ∀ k, X k → W'.heap[k]? = W.heap[k]?
theorem Sty.refl (X : Nat → Prop) (W : World) : Sty X W W := fun _ _ => rfl
theorem Sty.trans {X : Nat → Prop} {a b c : World} (h : Sty X a b) (k : Sty X b c) : Sty X a c := fun i hi => (k i hi).trans (h i hi)
theorem Sty.put {X : Nat → Prop} {m : Nat} (hx : ∀ k, X k → k < m) (W : World) (l : Nat) (o o' : Obj) (hl : m ≤ l) (_ : W.heap[l]? = some o) (_ : o.isCells = false) (_ : o.isWalk = false) : Sty X W (W.putObj l o') :=
  fun k hk => World.putObj_heap_other (by have := hx k hk; omega)
structure Ls (W : World) (Bs : Nat) (ga : Option Addr) (c : Nat) (L : List (Nat × Nat)) : Prop where
  sl : W.heap[Bs]? = some (.cells #[.slice ga L.length c] 162 (0, 0))
  hc : L.length ≤ c
  el : ∀ i (h : i < L.length), ∃ g cs, ga = some ⟨g, 0, none⟩ ∧ W.heap[g]? = some (.cells cs 179 (0, 0)) ∧ cs[i * 2]? = some (.int .i64 ((L[i]'h).1 : Int)) ∧ cs[i * 2 + 1]? = some (.int .i64 ((L[i]'h).2 : Int))
  len : L.length ≤ 100000
section
variable {W W' : World} {Bs c : Nat} {ga : Option Addr} {L : List (Nat × Nat)}
theorem Ls.stay (h : Ls W Bs ga c L) (k : Sty (kz Bs ga) W W') : Ls W' Bs ga c L :=
  ⟨(k Bs (.inl rfl)).trans h.sl, h.hc, fun i hi => by obtain ⟨g, cs, a, b, d⟩ := h.el i hi; exact ⟨g, cs, a, (k g (.inr ⟨0, a⟩)).trans b, d⟩, h.len⟩
theorem Ls.below (h : Ls W Bs ga c L) (k : Below W.heap.size W W') : Ls W' Bs ga c L :=
  ⟨(k.block Bs (Array.getElem?_eq_some_iff.1 h.sl).1).trans h.sl, h.hc, fun i hi => by obtain ⟨g, cs, a, b, d⟩ := h.el i hi; exact ⟨g, cs, a, (k.block g (Array.getElem?_eq_some_iff.1 b).1).trans b, d⟩, h.len⟩
end
set_option maxRecDepth 100000 in
set_option maxHeartbeats 4000000 in
theorem each1_in (n l Bs c : Nat) (ga : Option Addr) (L : List (Nat × Nat)) (hn : 1 ≤ n) (J Jx : List (El L) → World → Prop) (W : World) (hJ : AbidesFrom W.heap.size J)
    (hY : ∀ pre x W1, J pre W1 → pre.length < L.length → YieldAt Fence.wide (n - 1) Tryz.prog l #[.int .i64 (x.1.1 : Int), .int .i64 (x.1.2 : Int)] W1 fun e W' =>
      (e = .returned (.bool true) ∧ J (pre ++ [x]) W' ∧ Sty (kz Bs ga) W1 W') ∨ (e = .returned (.bool false) ∧ Jx (pre ++ [x]) W'))
    (hL : Ls W Bs ga c L) (h0 : J [] W) :
    CallsIn Fence.wide n Tryz.prog 141 #[.func (.yield l) #[] #[], .pointer (some ⟨Bs, 0, none⟩)] W fun e W' => (∃ v, e = .returned v) ∧
      ((∃ ys : List (El L), ys.map Subtype.val = L ∧ J ys W') ∨ (∃ pre : List (El L), pre.map Subtype.val <+: L ∧ Jx pre W')) := by
  refine callsIn_of_wp Tryz.func141 rfl trivial ?_ rfl
  simp only [Tryz.ntmps141, List.size_toArray, List.length_cons, List.length_nil, Nat.reduceAdd, Nat.reduceSub, Array.replicate_succ, Array.replicate_zero, List.push_toArray, List.append_toArray, List.nil_append, List.cons_append]
  have cu : W.cell? ⟨Bs, 0, none⟩ = some (.slice ga L.length c) := by rw [Joins.cell_of_block hL.sl]; rfl
  have hll := hL.len
  have hlc := hL.hc
  gi_wp2
  gi_loopw [7] (fun e wr => ∃ (i : Nat) (pre : List (El L)), e = .int .i64 (i : Int) ∧ i ≤ L.length ∧ pre.map Subtype.val = L.take i ∧ J pre wr ∧ Ls wr Bs ga c L)
    (fun e _ => L.length - (intOf e).toNat)
  case atStart => exact ⟨0, [], rfl, Nat.zero_le _, by simp, h0, hL⟩
  case round =>
    obtain ⟨i, pre, rfl, hi, hp, hJs, Lr⟩ := hrel
    by_cases hlt : i < L.length
    · obtain ⟨g, cs, rfl, hg, k0, k1⟩ := Lr.el i hlt
      have hpl : pre.length < L.length := by have := congrArg List.length hp; simp at this; omega
      have hm : L[i] ∈ L := List.getElem_mem hlt
      have HQ : Hid ((pre ++ [(⟨L[i], hm⟩ : El L)]).map Subtype.val = L.take (i + 1)) := ⟨by rw [List.map_append, hp, List.take_succ_eq_append_getElem hlt]; rfl⟩
      have hY' := fun W1 h => hY pre ⟨L[i], hm⟩ W1 h hpl
      dsimp only at hY'
      have c0 : wr.cell? ⟨g, i * 2, none⟩ = some (.int .i64 ((L[i]).1 : Int)) := by rw [Joins.cell_of_block hg]; exact k0
      have c1 : wr.cell? ⟨g, i * 2 + 1, none⟩ = some (.int .i64 ((L[i]).2 : Int)) := by rw [Joins.cell_of_block hg]; exact k1
      generalize hx1 : (L[i]).1 = x1 at *
      generalize hx2 : (L[i]).2 = x2 at *
      have hlt' : (i : Int) < L.length := by omega
      clear hx1 hx2 k0 k1 hp
      have B := (Below.refl _ wr).alloc (Nat.le_refl _) (.cells #[.int .i64 (x1 : Int), .int .i64 (x2 : Int)] 179)
      obtain ⟨fn, tmps, assign, body, hy, hR⟩ := hY' (wr.alloc (.cells #[.int .i64 (x1 : Int), .int .i64 (x2 : Int)] 179)) (hJ _ _ _ none hJs ⟨B.os, B.tape, B.output, B.size, fun q hq _ => B.block q hq⟩ (fun q e => by cases e))
      have L2 := Lr.below B
      clear hY' B
      gi_wp2
      refine hR.mono ?_
      rintro e W3 (⟨rfl, hJ3, hk3⟩ | ⟨rfl, hJx3⟩)
      · gi_wp2
        go_roundw
        case rel => exact ⟨i + 1, _, by go_num, by omega, HQ.out, hJ3, L2.stay hk3⟩
        case measure => simp [intOf]; omega
      · gi_wp2
        refine bodyPost_ret (results_none rfl _ _ _) rfl ?_
        exact ⟨⟨_, rfl⟩, .inr ⟨_, by rw [HQ.out]; exact List.take_prefix _ _, hJx3⟩⟩
    · obtain rfl : i = L.length := by omega
      gi_wp2
      go_end0
      exact ⟨⟨_, rfl⟩, .inl ⟨pre, by simpa using hp, hJs⟩⟩
theorem each_stops (n Bs c : Nat) (ga : Option Addr) (L : List (Nat × Nat)) (hn : 1 ≤ n) (w : World) (hL : Ls w Bs ga c L) :
    SeqStopsK Fence.wide n Tryz.prog 141 #[.pointer (some ⟨Bs, 0, none⟩)] (fun x : El L => #[Value.int .i64 (x.1.1 : Int), Value.int .i64 (x.1.2 : Int)]) (Sty (kz Bs ga))
      (fun ys => ys.map Subtype.val = L) (fun pre => pre.map Subtype.val <+: L) L.length w := fun l J Jx W hW hJ _ hY h0 =>
  each1_in n l Bs c ga L hn J Jx W hJ hY (hL.below hW) h0
end Go.Proofs.YtbdoekffadmejaaGreatDoor.Bp
