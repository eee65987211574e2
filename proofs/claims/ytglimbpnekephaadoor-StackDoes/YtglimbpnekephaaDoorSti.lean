/- Package stack: the iterator over the frames' places, gone over by a range. -/
import Derived.RangeFuncNested
import Derived.RangeFuncBound
import Derived.RangeFuncCalls
import Derived.RangeFuncLeaves
import Derived.Shelf.Abstract
import Derived.Shelf.RegionOpen
import Derived.OwnWalkIn
import Derived.TacticsInMore
import Derived.LoopNIn
import Derived.LoopIn
import Derived.RegionIn
import Derived.Sort.BigQuietIn
import Derived.Test.YtglimbpnekephaaDoorSth
namespace Go.Proofs.YtglimbpnekephaaDoor
open Go.RowKit Go.Shelf
set_option linter.unusedVariables false
set_option linter.unusedSimpArgs false
attribute [local go_sem] Oper.semAt_some

/-- each frame with those below it, the top one first -/
def sfx : List Fr → List (Fr × List Fr)
  | [] => []
  | f :: r => (f, r) :: sfx r
theorem sfx_len (r : List Fr) : (sfx r).length = r.length := by
  induction r with
  | nil => rfl
  | cons f r ih => simp [sfx, ih]
theorem sfx_mem {x : Fr × List Fr} : ∀ {rs : List Fr}, x ∈ sfx rs → ∃ q, rs = q ++ x.1 :: x.2
  | [], h => by cases h
  | f :: r, h => by
    simp only [sfx, List.mem_cons] at h
    rcases h with rfl | h
    · exact ⟨[], rfl⟩
    · obtain ⟨q, hq⟩ := sfx_mem h
      exact ⟨f :: q, by rw [hq]; rfl⟩
abbrev Sp (rs : List Fr) : Type := { x : Fr × List Fr // x ∈ sfx rs }
theorem wd_append : ∀ q s : List Fr, ∃ X, wd (q ++ s) = wd s ++ X
  | [], s => ⟨[], by simp⟩
  | f :: q, s => by
    obtain ⟨X, hX⟩ := wd_append q s
    exact ⟨X ++ (f.ps ++ [last f]), by rw [List.cons_append, wd, hX]; simp⟩
theorem wd_len_le (q s : List Fr) : (wd s).length ≤ (wd (q ++ s)).length := by
  obtain ⟨X, hX⟩ := wd_append q s
  rw [hX]; simp
theorem words_of {rs q r : List Fr} {f : Fr} (h : rs = q ++ f :: r) :
    (∀ i, i < f.ps.length → (wd rs).getD ((wd r).length + i) 0 = f.ps.getD i 0) ∧ (wd rs).getD ((wd r).length + f.ps.length) 0 = last f ∧ (wd r).length + f.ps.length < (wd rs).length := by
  obtain ⟨X, hX⟩ := wd_append q (f :: r)
  have e : wd rs = wd r ++ (f.ps ++ ([last f] ++ X)) := by rw [h, hX, wd]; simp
  refine ⟨fun i hi => ?_, ?_, ?_⟩
  · rw [e]
    simp only [List.getD_eq_getElem?_getD]
    rw [List.getElem?_append_right (by omega), Nat.add_sub_cancel_left, List.getElem?_append_left hi]
  · rw [e]
    simp only [List.getD_eq_getElem?_getD]
    rw [List.getElem?_append_right (by omega), Nat.add_sub_cancel_left, List.getElem?_append_right (by omega)]
    simp
  · rw [e]; simp
/-- these blocks stay -/
def Sy (S : Nat → Prop) (W W' : World) : Prop := ∀ k, S k → W'.heap[k]? = W.heap[k]?
theorem Sy.refl (S : Nat → Prop) (W : World) : Sy S W W := fun _ _ => rfl
theorem Sy.trans {S : Nat → Prop} {A B C : World} (h : Sy S A B) (k : Sy S B C) : Sy S A C := fun i hi => (k i hi).trans (h i hi)
theorem Sy.put {S : Nat → Prop} {m : Nat} (hS : ∀ k, S k → k < m) (W : World) (l : Nat) (o o' : Obj) (hl : m ≤ l) (_ : W.heap[l]? = some o) (_ : o.isCells = false) (_ : o.isWalk = false) : Sy S W (W.putObj l o') :=
  fun k hk => World.putObj_heap_other (by have := hS k hk; omega)
theorem Sy.below {S : Nat → Prop} {W W' : World} (hS : ∀ k, S k → k < W.heap.size) (h : Below W.heap.size W W') : Sy S W W' := fun k hk => h.block k (hS k hk)

/-! ## The places of the frames, reader A -/
def SyA (Bu Bw p a b : Nat) (k : Nat) : Prop := k = Bu ∨ k = Bw ∨ k = p ∨ k = a ∨ k = b
structure LiesA (W : World) (Bu Bw p a b F : Nat) (ws : List Int) (rs : List Fr) : Prop where
  u : W.heap[Bu]? = some (.cells #[.int .i64 (wd rs).length] 3 (0, 0))
  f : W.heap[Bw]? = some (.cells #[.func (.func 45) #[.pointer (some ⟨p, 0, none⟩)] #[]] 82 (0, 0))
  rd : RdA W p a b F ws (wd rs)
  ok : ∀ f ∈ rs, Okf f
  us : (wd rs).length ≤ 65536
theorem LiesA.stay {W W' : World} {Bu Bw : Nat} {p a b F : Nat} {ws : List Int} {rs : List Fr} (h : LiesA W Bu Bw p a b F ws rs) (k : Sy (SyA Bu Bw p a b) W W') : LiesA W' Bu Bw p a b F ws rs :=
  ⟨(k _ (by simp [SyA])).trans h.u, (k _ (by simp [SyA])).trans h.f, h.rd.same (k _ (by simp [SyA])) (k _ (by simp [SyA])) (k _ (by simp [SyA])), h.ok, h.us⟩
theorem LiesA.lt {W : World} {Bu Bw : Nat} {p a b F : Nat} {ws : List Int} {rs : List Fr} (h : LiesA W Bu Bw p a b F ws rs) : ∀ k, SyA Bu Bw p a b k → k < W.heap.size := by
  have l := h.rd.lt
  have l1 : Bu < W.heap.size := (Array.getElem?_eq_some_iff.1 h.u).1
  have l2 : Bw < W.heap.size := (Array.getElem?_eq_some_iff.1 h.f).1
  rintro k (rfl | rfl | rfl | rfl | rfl)
  all_goals omega
theorem LiesA.below {W W' : World} {Bu Bw : Nat} {p a b F : Nat} {ws : List Int} {rs : List Fr} (h : LiesA W Bu Bw p a b F ws rs) (k : Below W.heap.size W W') : LiesA W' Bu Bw p a b F ws rs :=
  h.stay fun j hj => k.block j (h.lt j hj)
set_option maxRecDepth 100000 in
set_option maxHeartbeats 4000000 in
theorem spots1_A (n l Bu Bw p a b F : Nat) (ws : List Int) (rs : List Fr) (hn : 1 ≤ n) (J Jx : List (Sp rs) → World → Prop) (W : World) (hJ : AbidesFrom W.heap.size J)
    (hY : ∀ pre x W1, J pre W1 → pre.length < rs.length → YieldAt Fence.wide (n - 1) Tryd.prog l #[.int .i64 ((wd x.1.2).length : Int), .int .i64 (x.1.1.ps.length : Int)] W1 fun e W' =>
      (e = .returned (.bool true) ∧ J (pre ++ [x]) W' ∧ Sy (SyA Bu Bw p a b) W1 W') ∨ (e = .returned (.bool false) ∧ Jx (pre ++ [x]) W'))
    (hL : LiesA W Bu Bw p a b F ws rs) (h0 : J [] W) :
    CallsIn Fence.wide n Tryd.prog 56 #[.func (.yield l) #[] #[], .pointer (some ⟨Bu, 0, none⟩), .pointer (some ⟨Bw, 0, none⟩)] W fun e W' => (∃ v, e = .returned v) ∧
      ((∃ ys : List (Sp rs), ys.map Subtype.val = sfx rs ∧ J ys W') ∨ (∃ pre : List (Sp rs), pre.map Subtype.val <+: sfx rs ∧ Jx pre W')) := by
  refine callsIn_of_wp Tryd.func56 rfl trivial ?_ rfl
  simp only [Tryd.ntmps56, List.size_toArray, List.length_cons, List.length_nil, Nat.reduceAdd, Nat.reduceSub, Array.replicate_succ, Array.replicate_zero, List.push_toArray, List.append_toArray, List.nil_append, List.cons_append]
  have cu : W.cell? ⟨Bu, 0, none⟩ = some (.int .i64 (wd rs).length) := by rw [Joins.cell_of_block hL.u]; rfl
  have hus := hL.us
  gi_wp2
  gi_loopw [4] (fun e wr => ∃ (r : List Fr) (pre : List (Sp rs)), e = .int .i64 (wd r).length ∧ (∃ q, rs = q ++ r) ∧ pre.map Subtype.val ++ sfx r = sfx rs ∧ J pre wr ∧ LiesA wr Bu Bw p a b F ws rs)
    (fun e _ => (intOf e).toNat)
  case atStart => exact ⟨rs, [], rfl, ⟨[], rfl⟩, rfl, h0, hL⟩
  case round =>
    obtain ⟨r, pre, rfl, ⟨q, hq⟩, hp, hJs, L⟩ := hrel
    cases r with
    | nil =>
      simp only [wd, List.length_nil]
      gi_wp2
      go_end0
      exact ⟨⟨_, rfl⟩, .inl ⟨pre, by simpa [sfx] using hp, hJs⟩⟩
    | cons f r =>
      have hm : (f, r) ∈ sfx rs := by rw [← hp]; simp [sfx]
      have hok : Okf f := L.ok f (by rw [hq]; simp)
      have hlen : pre.length < rs.length := by
        have := congrArg List.length hp
        simp [sfx_len] at this
        omega
      have HQ : Hid ((pre ++ [(⟨(f, r), hm⟩ : Sp rs)]).map Subtype.val ++ sfx r = sfx rs) := ⟨by simpa [sfx] using hp⟩
      have HQ2 : Hid (∃ q', rs = q' ++ r) := ⟨⟨q ++ [f], by rw [hq]; simp⟩⟩
      obtain ⟨w1, w2, w3⟩ := words_of hq
      have tl : (wd (f :: r)).length = (wd r).length + (f.ps.length + 1) := wd_cons_len f r
      obtain ⟨E, hE⟩ : ∃ E, (wd (f :: r)).length = E := ⟨_, rfl⟩
      have WA : ∀ W, LiesA W Bu Bw p a b F ws rs → Calls Tryd.prog 45 #[.pointer (some ⟨p, 0, none⟩), .int .i64 ((E : Int) - 1)] W fun e w' => e = .returned (.int .u64 (last f)) ∧ Below W.heap.size W w' := fun W h => by
        have := word_any h.rd ((wd r).length + f.ps.length) w3
        rw [w2] at this
        rw [show (E : Int) - 1 = ((wd r).length + f.ps.length : Nat) by omega]
        exact this
      have PA := fun W => pointers_any f W hok
      have hY' := fun W1 h => hY pre ⟨(f, r), hm⟩ W1 h hlen
      dsimp only at hY'
      have fn4 := hok.n
      rw [hE]
      rw [hE] at tl
      obtain ⟨n', hn'⟩ : ∃ n', f.ps.length = n' := ⟨_, rfl⟩
      obtain ⟨t', ht'⟩ : ∃ t', (wd r).length = t' := ⟨_, rfl⟩
      simp only [hn', ht'] at tl PA hY' fn4
      rw [show (t' : Int) = (E : Int) - ((n' : Int) + 1) by omega] at hY'
      have cf : wr.cell? ⟨Bw, 0, none⟩ = some (.func (.func 45) #[.pointer (some ⟨p, 0, none⟩)] #[]) := by rw [Joins.cell_of_block L.f]; rfl
      have el : E ≤ 65536 := by rw [hq] at hus; have := wd_len_le q (f :: r); omega
      have HT : Hid ((wd r).length = t' ∧ E = t' + (n' + 1)) := ⟨ht', tl⟩
      have ep : 0 < E := by omega
      have ep' : (0 : Int) < E := by omega
      have mn : min (n' : Int) ((E : Int) - 1) = n' := by omega
      have mn2 : (n' : Int) ≤ (E : Int) - 1 := by omega
      generalize last f = lw at *
      clear hE hn' ht' tl w1 w2 w3 hp hq hus cu
      gi_wp2_with (first
        | (refine ⟨trivial, ?_⟩; gi_at_call 45; refine (callsIn_wide.2 (WA wr L)).mono ?_; rintro e W2 ⟨rfl, B⟩; have L2 := L.below B; obtain ⟨fn, tmps, assign, body, hy, hR⟩ := hY' W2 (hJ _ _ _ none hJs ⟨B.os, B.tape, B.output, B.size, fun q hq _ => B.block q hq⟩ (fun q e => by cases e)))
        | (refine ⟨trivial, ?_⟩; gi_at_call 57; refine (callsIn_wide.2 (PA _)).mono ?_; rintro e W3 ⟨rfl, rfl⟩))
      refine hR.mono ?_
      rintro e W3 (⟨rfl, hJ3, hk3⟩ | ⟨rfl, hJx3⟩)
      · gi_wp2
        go_roundw
        case rel => exact ⟨r, _, by rw [HT.out.1]; simp only [Value.int.injEq, true_and]; have := HT.out; omega, HQ2.out, HQ.out, hJ3, L2.stay hk3⟩
        case measure => simp [intOf]; omega
      · gi_wp2
        refine bodyPost_ret (results_none rfl _ _ _) rfl ?_
        exact ⟨⟨_, rfl⟩, .inr ⟨_, ⟨_, HQ.out⟩, hJx3⟩⟩
theorem spots_A (n Bu Bw p a b F : Nat) (ws : List Int) (rs : List Fr) (hn : 1 ≤ n) (w : World) (hL : LiesA w Bu Bw p a b F ws rs) :
    SeqStopsK Fence.wide n Tryd.prog 56 #[.pointer (some ⟨Bu, 0, none⟩), .pointer (some ⟨Bw, 0, none⟩)] (fun x : Sp rs => #[Value.int .i64 ((wd x.1.2).length : Int), Value.int .i64 (x.1.1.ps.length : Int)]) (Sy (SyA Bu Bw p a b))
      (fun ys => ys.map Subtype.val = sfx rs) (fun pre => pre.map Subtype.val <+: sfx rs) rs.length w := fun l J Jx W hW hJ _ hY h0 =>
  spots1_A n l Bu Bw p a b F ws rs hn J Jx W hJ hY (hL.below hW) h0

/-! ## The places of the frames, reader B -/
def SyB (Bu Bw z g : Nat) (k : Nat) : Prop := k = Bu ∨ k = Bw ∨ k = z ∨ k = g
structure LiesB (W : World) (Bu Bw z g cap : Nat) (rs : List Fr) : Prop where
  u : W.heap[Bu]? = some (.cells #[.int .i64 (wd rs).length] 3 (0, 0))
  f : W.heap[Bw]? = some (.cells #[.func (.func 59) #[] #[.pointer (some ⟨z, 0, none⟩)]] 82 (0, 0))
  rd : RdB W z g cap (wd rs)
  ok : ∀ f ∈ rs, Okf f
  us : (wd rs).length ≤ 65536
theorem LiesB.stay {W W' : World} {Bu Bw : Nat} {z g cap : Nat} {rs : List Fr} (h : LiesB W Bu Bw z g cap rs) (k : Sy (SyB Bu Bw z g) W W') : LiesB W' Bu Bw z g cap rs :=
  ⟨(k _ (by simp [SyB])).trans h.u, (k _ (by simp [SyB])).trans h.f, h.rd.same (k _ (by simp [SyB])) (k _ (by simp [SyB])), h.ok, h.us⟩
theorem LiesB.lt {W : World} {Bu Bw : Nat} {z g cap : Nat} {rs : List Fr} (h : LiesB W Bu Bw z g cap rs) : ∀ k, SyB Bu Bw z g k → k < W.heap.size := by
  have l := h.rd.lt
  have l1 : Bu < W.heap.size := (Array.getElem?_eq_some_iff.1 h.u).1
  have l2 : Bw < W.heap.size := (Array.getElem?_eq_some_iff.1 h.f).1
  rintro k (rfl | rfl | rfl | rfl)
  all_goals omega
theorem LiesB.below {W W' : World} {Bu Bw : Nat} {z g cap : Nat} {rs : List Fr} (h : LiesB W Bu Bw z g cap rs) (k : Below W.heap.size W W') : LiesB W' Bu Bw z g cap rs :=
  h.stay fun j hj => k.block j (h.lt j hj)
set_option maxRecDepth 100000 in
set_option maxHeartbeats 4000000 in
theorem spots1_B (n l Bu Bw z g cap : Nat) (rs : List Fr) (hn : 1 ≤ n) (J Jx : List (Sp rs) → World → Prop) (W : World) (hJ : AbidesFrom W.heap.size J)
    (hY : ∀ pre x W1, J pre W1 → pre.length < rs.length → YieldAt Fence.wide (n - 1) Tryd.prog l #[.int .i64 ((wd x.1.2).length : Int), .int .i64 (x.1.1.ps.length : Int)] W1 fun e W' =>
      (e = .returned (.bool true) ∧ J (pre ++ [x]) W' ∧ Sy (SyB Bu Bw z g) W1 W') ∨ (e = .returned (.bool false) ∧ Jx (pre ++ [x]) W'))
    (hL : LiesB W Bu Bw z g cap rs) (h0 : J [] W) :
    CallsIn Fence.wide n Tryd.prog 56 #[.func (.yield l) #[] #[], .pointer (some ⟨Bu, 0, none⟩), .pointer (some ⟨Bw, 0, none⟩)] W fun e W' => (∃ v, e = .returned v) ∧
      ((∃ ys : List (Sp rs), ys.map Subtype.val = sfx rs ∧ J ys W') ∨ (∃ pre : List (Sp rs), pre.map Subtype.val <+: sfx rs ∧ Jx pre W')) := by
  refine callsIn_of_wp Tryd.func56 rfl trivial ?_ rfl
  simp only [Tryd.ntmps56, List.size_toArray, List.length_cons, List.length_nil, Nat.reduceAdd, Nat.reduceSub, Array.replicate_succ, Array.replicate_zero, List.push_toArray, List.append_toArray, List.nil_append, List.cons_append]
  have cu : W.cell? ⟨Bu, 0, none⟩ = some (.int .i64 (wd rs).length) := by rw [Joins.cell_of_block hL.u]; rfl
  have hus := hL.us
  gi_wp2
  gi_loopw [4] (fun e wr => ∃ (r : List Fr) (pre : List (Sp rs)), e = .int .i64 (wd r).length ∧ (∃ q, rs = q ++ r) ∧ pre.map Subtype.val ++ sfx r = sfx rs ∧ J pre wr ∧ LiesB wr Bu Bw z g cap rs)
    (fun e _ => (intOf e).toNat)
  case atStart => exact ⟨rs, [], rfl, ⟨[], rfl⟩, rfl, h0, hL⟩
  case round =>
    obtain ⟨r, pre, rfl, ⟨q, hq⟩, hp, hJs, L⟩ := hrel
    cases r with
    | nil =>
      simp only [wd, List.length_nil]
      gi_wp2
      go_end0
      exact ⟨⟨_, rfl⟩, .inl ⟨pre, by simpa [sfx] using hp, hJs⟩⟩
    | cons f r =>
      have hm : (f, r) ∈ sfx rs := by rw [← hp]; simp [sfx]
      have hok : Okf f := L.ok f (by rw [hq]; simp)
      have hlen : pre.length < rs.length := by
        have := congrArg List.length hp
        simp [sfx_len] at this
        omega
      have HQ : Hid ((pre ++ [(⟨(f, r), hm⟩ : Sp rs)]).map Subtype.val ++ sfx r = sfx rs) := ⟨by simpa [sfx] using hp⟩
      have HQ2 : Hid (∃ q', rs = q' ++ r) := ⟨⟨q ++ [f], by rw [hq]; simp⟩⟩
      obtain ⟨w1, w2, w3⟩ := words_of hq
      have tl : (wd (f :: r)).length = (wd r).length + (f.ps.length + 1) := wd_cons_len f r
      obtain ⟨E, hE⟩ : ∃ E, (wd (f :: r)).length = E := ⟨_, rfl⟩
      have WA : ∀ W, LiesB W Bu Bw z g cap rs → Calls Tryd.prog 59 #[.int .i64 ((E : Int) - 1), .pointer (some ⟨z, 0, none⟩)] W fun e w' => e = .returned (.int .u64 (last f)) ∧ Below W.heap.size W w' := fun W h => by
        have := inrow_any h.rd ((wd r).length + f.ps.length) w3
        rw [w2] at this
        rw [show (E : Int) - 1 = ((wd r).length + f.ps.length : Nat) by omega]
        exact this
      have PA := fun W => pointers_any f W hok
      have hY' := fun W1 h => hY pre ⟨(f, r), hm⟩ W1 h hlen
      dsimp only at hY'
      have fn4 := hok.n
      rw [hE]
      rw [hE] at tl
      obtain ⟨n', hn'⟩ : ∃ n', f.ps.length = n' := ⟨_, rfl⟩
      obtain ⟨t', ht'⟩ : ∃ t', (wd r).length = t' := ⟨_, rfl⟩
      simp only [hn', ht'] at tl PA hY' fn4
      rw [show (t' : Int) = (E : Int) - ((n' : Int) + 1) by omega] at hY'
      have cf : wr.cell? ⟨Bw, 0, none⟩ = some (.func (.func 59) #[] #[.pointer (some ⟨z, 0, none⟩)]) := by rw [Joins.cell_of_block L.f]; rfl
      have el : E ≤ 65536 := by rw [hq] at hus; have := wd_len_le q (f :: r); omega
      have HT : Hid ((wd r).length = t' ∧ E = t' + (n' + 1)) := ⟨ht', tl⟩
      have ep : 0 < E := by omega
      have ep' : (0 : Int) < E := by omega
      have mn : min (n' : Int) ((E : Int) - 1) = n' := by omega
      have mn2 : (n' : Int) ≤ (E : Int) - 1 := by omega
      generalize last f = lw at *
      clear hE hn' ht' tl w1 w2 w3 hp hq hus cu
      gi_wp2_with (first
        | (refine ⟨trivial, ?_⟩; gi_at_call 59; refine (callsIn_wide.2 (WA wr L)).mono ?_; rintro e W2 ⟨rfl, B⟩; have L2 := L.below B; obtain ⟨fn, tmps, assign, body, hy, hR⟩ := hY' W2 (hJ _ _ _ none hJs ⟨B.os, B.tape, B.output, B.size, fun q hq _ => B.block q hq⟩ (fun q e => by cases e)))
        | (refine ⟨trivial, ?_⟩; gi_at_call 57; refine (callsIn_wide.2 (PA _)).mono ?_; rintro e W3 ⟨rfl, rfl⟩))
      refine hR.mono ?_
      rintro e W3 (⟨rfl, hJ3, hk3⟩ | ⟨rfl, hJx3⟩)
      · gi_wp2
        go_roundw
        case rel => exact ⟨r, _, by rw [HT.out.1]; simp only [Value.int.injEq, true_and]; have := HT.out; omega, HQ2.out, HQ.out, hJ3, L2.stay hk3⟩
        case measure => simp [intOf]; omega
      · gi_wp2
        refine bodyPost_ret (results_none rfl _ _ _) rfl ?_
        exact ⟨⟨_, rfl⟩, .inr ⟨_, ⟨_, HQ.out⟩, hJx3⟩⟩
theorem spots_B (n Bu Bw z g cap : Nat) (rs : List Fr) (hn : 1 ≤ n) (w : World) (hL : LiesB w Bu Bw z g cap rs) :
    SeqStopsK Fence.wide n Tryd.prog 56 #[.pointer (some ⟨Bu, 0, none⟩), .pointer (some ⟨Bw, 0, none⟩)] (fun x : Sp rs => #[Value.int .i64 ((wd x.1.2).length : Int), Value.int .i64 (x.1.1.ps.length : Int)]) (Sy (SyB Bu Bw z g))
      (fun ys => ys.map Subtype.val = sfx rs) (fun pre => pre.map Subtype.val <+: sfx rs) rs.length w := fun l J Jx W hW hJ _ hY h0 =>
  spots1_B n l Bu Bw z g cap rs hn J Jx W hJ hY (hL.below hW) h0
end Go.Proofs.YtglimbpnekephaaDoor
