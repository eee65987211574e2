/- A region that draws its order, by an invariant over what has been done: of no program. -/
import Derived.Orders
import Derived.Test.YtoedeedoecdajaaDoorAppS
import Derived.Test.YtoedeedoecdajaaDoorProgs
namespace Go.Proofs.YtoedeedoecdajaaDoor
open Go
set_option linter.unusedVariables false
section
variable {P : Program} {ops : Array Oper} {Q : Exit → Act → World → Prop} {md : Region.Mode}
/-- each operation waits for earlier ones alone -/
def Region.up (md : Region.Mode) (ops : Array Oper) : Bool := (List.range ops.size).all fun i => ((ops[i]?).map (·.after.all fun e => !Region.binds md e || decide (e.on < i))).getD true
theorem up_spec (h : Region.up md ops = true) {i : Nat} {o : Oper} (ho : ops[i]? = some o) : ∀ e ∈ o.after, Region.binds md e = true → e.on < i := by
  intro e he hb
  have hi : i < ops.size := (Array.getElem?_eq_some_iff.1 ho).1
  have h1 := List.all_eq_true.1 h i (List.mem_range.2 hi)
  simp only [ho, Option.map_some, Option.getD_some] at h1
  have h2 := Array.all_eq_true'.1 h1 e he
  simpa [hb] using h2
/-- where nothing is ready all is done -/
theorem ready_nil (hu : Region.up md ops = true) {listed : Array Bool} (hs : listed.size = ops.size) (h : Region.ready md ops listed = []) : ∀ i, i < ops.size → listed.getD i true = true := by
  intro i
  induction i using Nat.strongRecOn with
  | _ i ih =>
    intro hi
    cases hl : listed.getD i true with
    | true => rfl
    | false =>
      obtain ⟨o, ho⟩ : ∃ o, ops[i]? = some o := ⟨_, Array.getElem?_eq_getElem hi⟩
      have hm : i ∈ Region.ready md ops listed := by
        unfold Region.ready
        refine List.mem_filter.2 ⟨List.mem_range.2 hi, ?_⟩
        simp only [hl, Bool.not_false, Bool.true_and, ho, Option.map_some, Option.getD_some]
        refine Array.all_eq_true'.2 fun e he => ?_
        cases hb : Region.binds md e with
        | false => rfl
        | true =>
          have hlt := up_spec hu ho e he hb
          have hd := ih e.on hlt (by omega)
          simp only [Bool.not_true, Bool.false_or]
          rw [Array.getD_eq_getD_getElem?] at hd ⊢
          have : e.on < listed.size := by omega
          rw [Array.getElem?_eq_getElem this] at hd ⊢
          simpa using hd
      rw [h] at hm
      cases hm
/-- how many are left -/
def left (listed : Array Bool) : Nat := listed.toList.countP (fun b => !b)
theorem count_set : ∀ (l : List Bool) (i : Nat) (h : i < l.length), l[i]'h = false → (l.set i true).countP (fun b => !b) + 1 = l.countP (fun b => !b)
  | [], i, h, _ => absurd h (Nat.not_lt_zero _)
  | b :: l, 0, h, hg => by
    simp only [List.getElem_cons_zero] at hg
    subst hg
    simp
  | b :: l, i + 1, h, hg => by
    have ih := count_set l i (by simpa using h) (by simpa using hg)
    simp only [List.set_cons_succ, List.countP_cons]
    omega
theorem left_set {listed : Array Bool} {i : Nat} (hi : i < listed.size) (h : listed.getD i true = false) : left (listed.setIfInBounds i true) + 1 = left listed := by
  unfold left
  rw [Array.getD_eq_getD_getElem?, Array.getElem?_eq_getElem hi] at h
  simp only [Option.getD_some] at h
  have e : (listed.setIfInBounds i true).toList = listed.toList.set i true := by simp
  rw [e]
  exact count_set _ _ (by simpa using hi) (by simpa using h)
/-- an invariant over what has been done, kept by each operation that may come up -/
theorem wpAny_inv (hu : Region.up md ops = true) (I : Array Bool → Act → World → Prop)
    (hstep : ∀ listed a w i, listed.size = ops.size → I listed a w → i ∈ Region.ready md ops listed → wpOp P ops Q i (I (listed.setIfInBounds i true)) a w)
    (hend : ∀ listed a w, listed.size = ops.size → I listed a w → (∀ i, i < ops.size → listed.getD i true = true) → Q .normal a w) :
    ∀ fuel listed a w, listed.size = ops.size → left listed ≤ fuel → I listed a w → wpAny P md ops Q fuel listed a w
  | 0, listed, a, w, hs, hf, h => by
    have all : ∀ i, i < ops.size → listed.getD i true = true := fun i hi => by
      cases hl : listed.getD i true with
      | true => rfl
      | false => have := left_set (by omega) hl; omega
    refine ⟨?_, hend listed a w hs h all⟩
    unfold Region.ready
    refine List.filter_eq_nil_iff.2 fun i hi => ?_
    simp [all i (List.mem_range.1 hi)]
  | fuel + 1, listed, a, w, hs, hf, h => by
    refine ⟨fun hr => hend listed a w hs h (ready_nil hu hs hr), fun i hi => ?_⟩
    refine wpOp_mono (fun a' w' h' => ?_) (hstep listed a w i hs h hi)
    have hm := List.mem_filter.1 hi
    have hlt := List.mem_range.1 hm.1
    have hl : listed.getD i true = false := by
      have := hm.2
      simp only [Bool.and_eq_true, Bool.not_eq_true'] at this
      exact this.1
    have := left_set (by omega) hl
    exact wpAny_inv hu I hstep hend fuel _ a' w' (by simpa using hs) (by omega) h'
/-- the beginning: a region that draws, by such an invariant -/
theorem wp_region_inv {id : Nat} {a : Act} {w : World} (hm : P.follows .mixedOrders = true) (hu : Region.up .any ops = true) (I : Array Bool → Act → World → Prop)
    (hstep : ∀ listed a w i, listed.size = ops.size → I listed a w → i ∈ Region.ready .any ops listed → wpOp P ops Q i (I (listed.setIfInBounds i true)) a w)
    (hend : ∀ listed a w, listed.size = ops.size → I listed a w → (∀ i, i < ops.size → listed.getD i true = true) → Q .normal a w)
    (h : I (Array.replicate ops.size false) a { w with drawn := w.drawn + 1 }) : (Code.region id ops true).wp P Q a w :=
  wp_region_any hm (wpAny_inv hu I hstep hend _ _ _ _ (by simp) (by
    unfold left
    have := List.countP_le_length (p := fun b => !b) (l := (Array.replicate ops.size false).toList)
    simpa using this) h)
end
end Go.Proofs.YtoedeedoecdajaaDoor

/- Region 6 of the law TreeJoins: what its operations do, one by one. -/
namespace Go.Proofs.YtoedeedoecdajaaDoor
open Go.RowKit
set_option linter.unusedVariables false
set_option linter.unusedSimpArgs false
def ops6 : Array Oper := #[{ dst := some 67, op := Op.buildSlice 22 0 #[], type := 22, pos := "law.go:51", after := #[], guard := none },
      { dst := some 68, op := Op.fieldAddr 25 (Operand.tmp 5) 0, type := 0, pos := "law.go:51", after := #[],
        guard := none },
      { dst := some 69, op := Op.load 22 (Operand.tmp 68), type := 22, pos := "law.go:51",
        after := #[{ on := 1, ground := Ground.data }], guard := none },
      { dst := some 70,
        op :=
          Op.call
            { callee := Callee.builtin Builtin.append, args := #[Operand.tmp 67, Operand.tmp 69],
              argTypes := #[22, 22] },
        type := 22, pos := "law.go:51",
        after := #[{ on := 0, ground := Ground.data }, { on := 2, ground := Ground.data }], guard := none },
      { dst := some 71, op := Op.fieldAddr 25 (Operand.tmp 8) 0, type := 0, pos := "law.go:51", after := #[],
        guard := none },
      { dst := some 72, op := Op.load 22 (Operand.tmp 71), type := 22, pos := "law.go:51",
        after := #[{ on := 4, ground := Ground.data }], guard := none },
      { dst := some 73,
        op :=
          Op.call
            { callee := Callee.builtin Builtin.append, args := #[Operand.tmp 70, Operand.tmp 72],
              argTypes := #[22, 22] },
        type := 22, pos := "law.go:51",
        after :=
          #[{ on := 3, ground := Ground.data }, { on := 5, ground := Ground.data },
            { on := 3, ground := Ground.chain }],
        guard := none },
      { dst := some 74, op := Op.buildSlice 23 0 #[], type := 23, pos := "law.go:51", after := #[], guard := none },
      { dst := some 75, op := Op.fieldAddr 25 (Operand.tmp 5) 1, type := 0, pos := "law.go:51", after := #[],
        guard := none },
      { dst := some 76, op := Op.load 23 (Operand.tmp 75), type := 23, pos := "law.go:51",
        after := #[{ on := 8, ground := Ground.data }], guard := none },
      { dst := some 77,
        op :=
          Op.call
            { callee := Callee.builtin Builtin.append, args := #[Operand.tmp 74, Operand.tmp 76],
              argTypes := #[23, 23] },
        type := 23, pos := "law.go:51",
        after :=
          #[{ on := 7, ground := Ground.data }, { on := 9, ground := Ground.data },
            { on := 6, ground := Ground.chain }],
        guard := none },
      { dst := some 78, op := Op.fieldAddr 25 (Operand.tmp 8) 1, type := 0, pos := "law.go:51", after := #[],
        guard := none },
      { dst := some 79, op := Op.load 23 (Operand.tmp 78), type := 23, pos := "law.go:51",
        after := #[{ on := 11, ground := Ground.data }], guard := none },
      { dst := some 80,
        op :=
          Op.call
            { callee := Callee.builtin Builtin.append, args := #[Operand.tmp 77, Operand.tmp 79],
              argTypes := #[23, 23] },
        type := 23, pos := "law.go:51",
        after :=
          #[{ on := 10, ground := Ground.data }, { on := 12, ground := Ground.data },
            { on := 10, ground := Ground.chain }],
        guard := none },
      { dst := some 81, op := Op.build 25 #[(0, Operand.tmp 73), (1, Operand.tmp 80)], type := 25, pos := "law.go:51",
        after := #[{ on := 6, ground := Ground.data }, { on := 13, ground := Ground.data }], guard := none },
      { dst := some 14, op := Op.alloc 25, type := 0, pos := "law.go:51", after := #[], guard := none },
      { dst := none, op := Op.store 25 (Operand.tmp 14) (Operand.tmp 81), type := 0, pos := "law.go:51",
        after :=
          #[{ on := 15, ground := Ground.data }, { on := 14, ground := Ground.data },
            { on := 13, ground := Ground.chain }, { on := 0, ground := Ground.phase },
            { on := 1, ground := Ground.phase }, { on := 2, ground := Ground.phase },
            { on := 3, ground := Ground.phase }, { on := 4, ground := Ground.phase },
            { on := 5, ground := Ground.phase }, { on := 6, ground := Ground.phase },
            { on := 7, ground := Ground.phase }, { on := 8, ground := Ground.phase },
            { on := 9, ground := Ground.phase }, { on := 10, ground := Ground.phase },
            { on := 11, ground := Ground.phase }, { on := 12, ground := Ground.phase },
            { on := 13, ground := Ground.phase }, { on := 14, ground := Ground.phase },
            { on := 15, ground := Ground.phase }],
        guard := none }]
section
variable {Q : Exit → Act → World → Prop} {K : Act → World → Prop} {a : Act} {w : World}
theorem wp_of {P : Program} {ops : Array Oper} {i : Nat} {o : Oper} (ho : ops[i]? = some o) (hg : o.guard = none) (h : o.wp P a w K Q) : wpOp P ops Q i K a w := by
  unfold wpOp
  rw [ho]
  simp only [Region.wanted, hg]
  exact .inl h
set_option maxRecDepth 100000 in
theorem t_addr {o : Oper} {s : Operand} {g j : Nat} (hop : o.op = .fieldAddr 25 s j) (hj : j = 0 ∨ j = 1) (h : a.eval s = ptr g) (hK : K (a.put o.dst (.pointer (some ⟨g, j, none⟩))) w) : o.wp Tryd.prog a w K Q := by
  have e : (Instr.fieldAt 25 (ptr g) j).run Tryd.prog w = .ok (.pointer (some ⟨g, j, none⟩)) w := by
    rcases hj with rfl | rfl
    · simp [Instr.fieldAt, go_sem, Tryd.underlying25]
    · simp [Instr.fieldAt, go_sem, Tryd.underlying25]
  unfold Oper.wp execOp
  rw [hop]
  simp only [h, Sem.run_bind, Sem.run_pure, Result.andThen_ok, e]
  exact hK
set_option maxRecDepth 100000 in
theorem t_alloc {o : Oper} (hop : o.op = .alloc 25) (hK : K (a.put o.dst (ptr w.heap.size)) (w.alloc (.cells #[nil3, nil3] 25))) : o.wp Tryd.prog a w K Q := by
  have e : (Instr.alloc 25 true (Value.tuple #[])).run Tryd.prog w = .ok (ptr w.heap.size) (w.alloc (.cells #[nil3, nil3] 25)) := by kernel_rfl
  unfold Oper.wp execOp
  rw [hop]
  simp only [Sem.run_bind, Sem.run_pure, Result.andThen_ok, e]
  exact hK
set_option maxRecDepth 100000 in
theorem t_build {o : Oper} {s x : Operand} {gu gv : Option Addr} {nu nv cu cv : Nat} (hop : o.op = .build 25 #[(0, s), (1, x)]) (h1 : a.eval s = .slice gu nu cu) (h2 : a.eval x = .slice gv nv cv) (hK : K (a.put o.dst (.agg #[.slice gu nu cu, .slice gv nv cv])) w) : o.wp Tryd.prog a w K Q := by
  have e : (Instr.build 25 #[(0, .slice gu nu cu), (1, .slice gv nv cv)]).run Tryd.prog w = .ok (.agg #[.slice gu nu cu, .slice gv nv cv]) w := by kernel_rfl
  unfold Oper.wp execOp
  rw [hop]
  simp only [List.map_toArray, List.map_cons, List.map_nil, h1, h2, Sem.run_bind, Sem.run_pure, Result.andThen_ok, e]
  exact hK
set_option maxRecDepth 100000 in
theorem t_load {o : Oper} {s : Operand} {t : TypeId} {g j : Nat} {v : Value} (ht : t = 22 ∨ t = 23) (hop : o.op = .load t s) (h : a.eval s = .pointer (some ⟨g, j, none⟩)) (hc : w.cell? ⟨g, j, none⟩ = some v) (hK : K (a.put o.dst v) w) : o.wp Tryd.prog a w K Q := by
  have e : (Instr.loadAt t (.pointer (some ⟨g, j, none⟩))).run Tryd.prog w = .ok v w := by
    rcases ht with rfl | rfl
    · simp [Instr.loadAt, go_sem, hc, Tryd.underlying22]
    · simp [Instr.loadAt, go_sem, hc, Tryd.underlying23]
  unfold Oper.wp execOp
  rw [hop]
  simp only [h, Sem.run_bind, Sem.run_pure, Result.andThen_ok, e]
  exact hK
set_option maxRecDepth 100000 in
theorem t_lit {o : Oper} {t : TypeId} (ht : t = 22 ∨ t = 23) (hop : o.op = .buildSlice t 0 #[]) (hK : ∀ ga x, K (a.put o.dst (.slice ga 0 0)) (w.alloc x)) : o.wp Tryd.prog a w K Q := by
  unfold Oper.wp execOp
  rw [hop]
  rcases ht with rfl | rfl
  · simp [Sem.run_bind, Sem.run_pure, Result.andThen_ok, go_sem, Tryd.underlying22]
    exact hK _ _
  · simp [Sem.run_bind, Sem.run_pure, Result.andThen_ok, go_sem, Tryd.underlying23]
    exact hK _ _
set_option maxRecDepth 100000 in
theorem t_store {o : Oper} {s x : Operand} {g : Nat} {gu gv : Option Addr} {nu nv cu cv : Nat} (hop : o.op = .store 25 s x) (hd : o.dst = none) (h : a.eval s = ptr g) (h2 : a.eval x = .agg #[.slice gu nu cu, .slice gv nv cv]) (hb : Blk w g #[nil3, nil3] 25) (hK : K a ((w.setCell ⟨g, 0, none⟩ (.slice gu nu cu)).setCell ⟨g, 1, none⟩ (.slice gv nv cv))) : o.wp Tryd.prog a w K Q := by
  have c0 : w.cell? ⟨g, 0, none⟩ = some nil3 := hb.cell 0
  have c1 : w.cell? ⟨g, 1, none⟩ = some nil3 := hb.cell 1
  have z0 := hb.z 0
  have z1 := hb.z 1
  have e : (Instr.storeAt 25 (ptr g) (.agg #[.slice gu nu cu, .slice gv nv cv])).run Tryd.prog w = .ok () ((w.setCell ⟨g, 0, none⟩ (.slice gu nu cu)).setCell ⟨g, 1, none⟩ (.slice gv nv cv)) := by
    simp [Instr.storeAt, go_sem, Tryd.underlying25, c0, c1, z0, z1]
  unfold Oper.wp execOp
  rw [hop]
  simp only [h, h2, Sem.run_bind, Sem.run_pure, Result.andThen_ok, e]
  simpa [Oper.upon, hd, Act.put] using hK
end
end Go.Proofs.YtoedeedoecdajaaDoor

/- Region 6 of the law TreeJoins: what holds whatever has been done of it. -/
namespace Go.Proofs.YtoedeedoecdajaaDoor
open Go.RowKit
set_option linter.unusedVariables false
set_option linter.unusedSimpArgs false
structure C6 where
  a0 : Act
  wz : World
  p5 : Nat
  p8 : Nat
  nd : Nat
  md : Nat
  nb : Nat
  mb : Nat
  gda : Option Addr
  gdb : Option Addr
  gba : Option Addr
  gbb : Option Addr
  cda : Nat
  cdb : Nat
  cba : Nat
  cbb : Nat
  xda : List Value
  xdb : List Value
  xba : List Value
  xbb : List Value
def Dn (L : Array Bool) (k : Nat) : Prop := L.getD k false = true
structure Six (c : C6) (L : Array Bool) (a : Act) (w : World) : Prop where
  df : a.defers = c.a0.defers ∧ a.tmps.size = c.a0.tmps.size
  ks : ∀ t, ¬ (t = 14 ∨ (67 ≤ t ∧ t ≤ 81)) → a.eval (.tmp t) = c.a0.eval (.tmp t)
  be : Below c.wz.heap.size c.wz w
  od : (Dn L 6 → Dn L 3) ∧ (Dn L 10 → Dn L 6) ∧ (Dn L 13 → Dn L 10) ∧ (Dn L 14 → Dn L 6 ∧ Dn L 13)
  f0 : Dn L 0 → ∃ ga, a.eval (.tmp 67) = .slice ga 0 0
  f1 : Dn L 1 → a.eval (.tmp 68) = .pointer (some ⟨c.p5, 0, none⟩)
  f2 : Dn L 2 → a.eval (.tmp 69) = .slice c.gda c.nd c.cda
  f3 : Dn L 3 → ∃ g k, a.eval (.tmp 70) = .slice g c.nd k ∧ (¬ Dn L 6 → RowS w c.wz.heap.size 55 3 (.slice g c.nd k) c.nd c.xda)
  f4 : Dn L 4 → a.eval (.tmp 71) = .pointer (some ⟨c.p8, 0, none⟩)
  f5 : Dn L 5 → a.eval (.tmp 72) = .slice c.gdb c.md c.cdb
  f6 : Dn L 6 → ∃ g k, a.eval (.tmp 73) = .slice g (c.nd + c.md) k ∧ RowS w c.wz.heap.size 55 3 (.slice g (c.nd + c.md) k) (c.nd + c.md) (c.xda ++ c.xdb)
  f7 : Dn L 7 → ∃ ga, a.eval (.tmp 74) = .slice ga 0 0
  f8 : Dn L 8 → a.eval (.tmp 75) = .pointer (some ⟨c.p5, 1, none⟩)
  f9 : Dn L 9 → a.eval (.tmp 76) = .slice c.gba c.nb c.cba
  f10 : Dn L 10 → ∃ g k, a.eval (.tmp 77) = .slice g c.nb k ∧ (¬ Dn L 13 → RowS w c.wz.heap.size 51 11 (.slice g c.nb k) c.nb c.xba)
  f11 : Dn L 11 → a.eval (.tmp 78) = .pointer (some ⟨c.p8, 1, none⟩)
  f12 : Dn L 12 → a.eval (.tmp 79) = .slice c.gbb c.mb c.cbb
  f13 : Dn L 13 → ∃ g k, a.eval (.tmp 80) = .slice g (c.nb + c.mb) k ∧ RowS w c.wz.heap.size 51 11 (.slice g (c.nb + c.mb) k) (c.nb + c.mb) (c.xba ++ c.xbb)
  f14 : Dn L 14 → a.eval (.tmp 81) = .agg #[a.eval (.tmp 73), a.eval (.tmp 80)]
  f15 : Dn L 15 → ∃ g, a.eval (.tmp 14) = ptr g ∧ (¬ Dn L 16 → AB c.wz.heap.size w g) ∧ (Dn L 16 → Blk w g #[a.eval (.tmp 73), a.eval (.tmp 80)] 25)
/-- what the region finds -/
structure G6 (c : C6) : Prop where
  e5 : c.a0.eval (.tmp 5) = ptr c.p5
  e8 : c.a0.eval (.tmp 8) = ptr c.p8
  sz : c.a0.tmps.size = 103
  q0 : c.wz.cell? ⟨c.p5, 0, none⟩ = some (.slice c.gda c.nd c.cda)
  q1 : c.wz.cell? ⟨c.p5, 1, none⟩ = some (.slice c.gba c.nb c.cba)
  r0 : c.wz.cell? ⟨c.p8, 0, none⟩ = some (.slice c.gdb c.md c.cdb)
  r1 : c.wz.cell? ⟨c.p8, 1, none⟩ = some (.slice c.gbb c.mb c.cbb)
theorem dn_other {L : Array Bool} {k j : Nat} (h : k ≠ j) : Dn (L.setIfInBounds k true) j ↔ Dn L j := by
  unfold Dn
  rw [Array.getD_eq_getD_getElem?, Array.getD_eq_getD_getElem?, Array.getElem?_setIfInBounds_ne h]
theorem ev_other {a : Act} {d t : Nat} {v : Value} (h : d ≠ t) : (a.put (some d) v).eval (.tmp t) = a.eval (.tmp t) := Act.eval_put (fun x hx e => by cases hx; cases e; exact h rfl)
theorem ev_same {a : Act} {d : Nat} {v : Value} (h : d < a.tmps.size) : (a.put (some d) v).eval (.tmp d) = v := by
  simp [Act.put, Act.eval, Array.getD_eq_getD_getElem?, h]
theorem cell_be {z : World} {w : World} (h : Below z.heap.size z w) {g j : Nat} {v : Value} (hc : z.cell? ⟨g, j, none⟩ = some v) : w.cell? ⟨g, j, none⟩ = some v := (h.cell (World.block_lt_of_cell? _ _ hc)).trans hc
section
variable {Q : Exit → Act → World → Prop} {c : C6} {L : Array Bool} {a : Act} {w w' : World}
/-- how memory may move between two operations -/
structure Mv (c : C6) (w w' : World) (pd pb : Prop) : Prop where
  be : Below c.wz.heap.size w w'
  d : pd → ∀ v n xs, RowS w c.wz.heap.size 55 3 v n xs → RowS w' c.wz.heap.size 55 3 v n xs
  b : pb → ∀ v n xs, RowS w c.wz.heap.size 51 11 v n xs → RowS w' c.wz.heap.size 51 11 v n xs
  ab : ∀ g, AB c.wz.heap.size w g → AB c.wz.heap.size w' g
theorem Mv.refl : Mv c w w True True := ⟨Below.refl _ _, fun _ _ _ _ h => h, fun _ _ _ _ h => h, fun _ h => h⟩
theorem Mv.alloc (hz : c.wz.heap.size ≤ w.heap.size) (o : Obj) : Mv c w (w.alloc o) True True := ⟨(Below.refl _ w).alloc hz o, fun _ _ _ _ h => h.alloc o, fun _ _ _ _ h => h.alloc o, fun _ h => h.alloc o⟩
theorem dn_set {L : Array Bool} {k : Nat} (h : k < L.size) : Dn (L.setIfInBounds k true) k := by
  unfold Dn
  rw [Array.getD_eq_getD_getElem?, Array.getElem?_setIfInBounds_self_of_lt h]
  rfl
theorem put0 {v : Value} (hs : L.size = 17) (S : Six c L a w) (n16 : ¬ Dn L 16) (nk : ¬ Dn L 0) (M : Mv c w w' True True) (fk : ∃ ga, (a.put (some 67) v).eval (.tmp 67) = .slice ga 0 0) : Six c (L.setIfInBounds 0 true) (a.put (some 67) v) w' :=
  { df := ⟨S.df.1, by simpa [Act.put] using S.df.2⟩
    ks := fun t ht => (ev_other (fun e => ht (by subst e; decide))).trans (S.ks t ht)
    be := S.be.trans M.be
    od := ⟨fun h => (dn_other (by decide)).2 (S.od.1 ((dn_other (by decide)).1 h)), fun h => (dn_other (by decide)).2 (S.od.2.1 ((dn_other (by decide)).1 h)), fun h => (dn_other (by decide)).2 (S.od.2.2.1 ((dn_other (by decide)).1 h)), fun h => ⟨(dn_other (by decide)).2 (S.od.2.2.2 ((dn_other (by decide)).1 h)).1, (dn_other (by decide)).2 (S.od.2.2.2 ((dn_other (by decide)).1 h)).2⟩⟩
    f0 := fun _ => fk
    f1 := fun h => by rw [ev_other (by decide)]; exact S.f1 ((dn_other (by decide)).1 h)
    f2 := fun h => by rw [ev_other (by decide)]; exact S.f2 ((dn_other (by decide)).1 h)
    f3 := fun h => by obtain ⟨g, q, e, r⟩ := S.f3 ((dn_other (by decide)).1 h); exact ⟨g, q, by rw [ev_other (by decide)]; exact e, fun n => M.d trivial _ _ _ (r (fun x => n ((dn_other (by decide)).2 x)))⟩
    f4 := fun h => by rw [ev_other (by decide)]; exact S.f4 ((dn_other (by decide)).1 h)
    f5 := fun h => by rw [ev_other (by decide)]; exact S.f5 ((dn_other (by decide)).1 h)
    f6 := fun h => by obtain ⟨g, q, e, r⟩ := S.f6 ((dn_other (by decide)).1 h); exact ⟨g, q, by rw [ev_other (by decide)]; exact e, M.d trivial _ _ _ r⟩
    f7 := fun h => by obtain ⟨g, e⟩ := S.f7 ((dn_other (by decide)).1 h); exact ⟨g, by rw [ev_other (by decide)]; exact e⟩
    f8 := fun h => by rw [ev_other (by decide)]; exact S.f8 ((dn_other (by decide)).1 h)
    f9 := fun h => by rw [ev_other (by decide)]; exact S.f9 ((dn_other (by decide)).1 h)
    f10 := fun h => by obtain ⟨g, q, e, r⟩ := S.f10 ((dn_other (by decide)).1 h); exact ⟨g, q, by rw [ev_other (by decide)]; exact e, fun n => M.b trivial _ _ _ (r (fun x => n ((dn_other (by decide)).2 x)))⟩
    f11 := fun h => by rw [ev_other (by decide)]; exact S.f11 ((dn_other (by decide)).1 h)
    f12 := fun h => by rw [ev_other (by decide)]; exact S.f12 ((dn_other (by decide)).1 h)
    f13 := fun h => by obtain ⟨g, q, e, r⟩ := S.f13 ((dn_other (by decide)).1 h); exact ⟨g, q, by rw [ev_other (by decide)]; exact e, M.b trivial _ _ _ r⟩
    f14 := fun h => by have e := S.f14 ((dn_other (by decide)).1 h); rw [ev_other (by decide), ev_other (by decide), ev_other (by decide)]; exact e
    f15 := fun h => by obtain ⟨g, e, r, _⟩ := S.f15 ((dn_other (by decide)).1 h); exact ⟨g, by rw [ev_other (by decide)]; exact e, fun n => M.ab _ (r (fun x => n ((dn_other (by decide)).2 x))), fun x => absurd ((dn_other (by decide)).1 x) n16⟩ }
theorem put1 {v : Value} (hs : L.size = 17) (S : Six c L a w) (n16 : ¬ Dn L 16) (nk : ¬ Dn L 1) (M : Mv c w w' True True) (fk : (a.put (some 68) v).eval (.tmp 68) = .pointer (some ⟨c.p5, 0, none⟩)) : Six c (L.setIfInBounds 1 true) (a.put (some 68) v) w' :=
  { df := ⟨S.df.1, by simpa [Act.put] using S.df.2⟩
    ks := fun t ht => (ev_other (fun e => ht (by subst e; decide))).trans (S.ks t ht)
    be := S.be.trans M.be
    od := ⟨fun h => (dn_other (by decide)).2 (S.od.1 ((dn_other (by decide)).1 h)), fun h => (dn_other (by decide)).2 (S.od.2.1 ((dn_other (by decide)).1 h)), fun h => (dn_other (by decide)).2 (S.od.2.2.1 ((dn_other (by decide)).1 h)), fun h => ⟨(dn_other (by decide)).2 (S.od.2.2.2 ((dn_other (by decide)).1 h)).1, (dn_other (by decide)).2 (S.od.2.2.2 ((dn_other (by decide)).1 h)).2⟩⟩
    f0 := fun h => by obtain ⟨g, e⟩ := S.f0 ((dn_other (by decide)).1 h); exact ⟨g, by rw [ev_other (by decide)]; exact e⟩
    f1 := fun _ => fk
    f2 := fun h => by rw [ev_other (by decide)]; exact S.f2 ((dn_other (by decide)).1 h)
    f3 := fun h => by obtain ⟨g, q, e, r⟩ := S.f3 ((dn_other (by decide)).1 h); exact ⟨g, q, by rw [ev_other (by decide)]; exact e, fun n => M.d trivial _ _ _ (r (fun x => n ((dn_other (by decide)).2 x)))⟩
    f4 := fun h => by rw [ev_other (by decide)]; exact S.f4 ((dn_other (by decide)).1 h)
    f5 := fun h => by rw [ev_other (by decide)]; exact S.f5 ((dn_other (by decide)).1 h)
    f6 := fun h => by obtain ⟨g, q, e, r⟩ := S.f6 ((dn_other (by decide)).1 h); exact ⟨g, q, by rw [ev_other (by decide)]; exact e, M.d trivial _ _ _ r⟩
    f7 := fun h => by obtain ⟨g, e⟩ := S.f7 ((dn_other (by decide)).1 h); exact ⟨g, by rw [ev_other (by decide)]; exact e⟩
    f8 := fun h => by rw [ev_other (by decide)]; exact S.f8 ((dn_other (by decide)).1 h)
    f9 := fun h => by rw [ev_other (by decide)]; exact S.f9 ((dn_other (by decide)).1 h)
    f10 := fun h => by obtain ⟨g, q, e, r⟩ := S.f10 ((dn_other (by decide)).1 h); exact ⟨g, q, by rw [ev_other (by decide)]; exact e, fun n => M.b trivial _ _ _ (r (fun x => n ((dn_other (by decide)).2 x)))⟩
    f11 := fun h => by rw [ev_other (by decide)]; exact S.f11 ((dn_other (by decide)).1 h)
    f12 := fun h => by rw [ev_other (by decide)]; exact S.f12 ((dn_other (by decide)).1 h)
    f13 := fun h => by obtain ⟨g, q, e, r⟩ := S.f13 ((dn_other (by decide)).1 h); exact ⟨g, q, by rw [ev_other (by decide)]; exact e, M.b trivial _ _ _ r⟩
    f14 := fun h => by have e := S.f14 ((dn_other (by decide)).1 h); rw [ev_other (by decide), ev_other (by decide), ev_other (by decide)]; exact e
    f15 := fun h => by obtain ⟨g, e, r, _⟩ := S.f15 ((dn_other (by decide)).1 h); exact ⟨g, by rw [ev_other (by decide)]; exact e, fun n => M.ab _ (r (fun x => n ((dn_other (by decide)).2 x))), fun x => absurd ((dn_other (by decide)).1 x) n16⟩ }
theorem put2 {v : Value} (hs : L.size = 17) (S : Six c L a w) (n16 : ¬ Dn L 16) (nk : ¬ Dn L 2) (M : Mv c w w' True True) (fk : (a.put (some 69) v).eval (.tmp 69) = .slice c.gda c.nd c.cda) : Six c (L.setIfInBounds 2 true) (a.put (some 69) v) w' :=
  { df := ⟨S.df.1, by simpa [Act.put] using S.df.2⟩
    ks := fun t ht => (ev_other (fun e => ht (by subst e; decide))).trans (S.ks t ht)
    be := S.be.trans M.be
    od := ⟨fun h => (dn_other (by decide)).2 (S.od.1 ((dn_other (by decide)).1 h)), fun h => (dn_other (by decide)).2 (S.od.2.1 ((dn_other (by decide)).1 h)), fun h => (dn_other (by decide)).2 (S.od.2.2.1 ((dn_other (by decide)).1 h)), fun h => ⟨(dn_other (by decide)).2 (S.od.2.2.2 ((dn_other (by decide)).1 h)).1, (dn_other (by decide)).2 (S.od.2.2.2 ((dn_other (by decide)).1 h)).2⟩⟩
    f0 := fun h => by obtain ⟨g, e⟩ := S.f0 ((dn_other (by decide)).1 h); exact ⟨g, by rw [ev_other (by decide)]; exact e⟩
    f1 := fun h => by rw [ev_other (by decide)]; exact S.f1 ((dn_other (by decide)).1 h)
    f2 := fun _ => fk
    f3 := fun h => by obtain ⟨g, q, e, r⟩ := S.f3 ((dn_other (by decide)).1 h); exact ⟨g, q, by rw [ev_other (by decide)]; exact e, fun n => M.d trivial _ _ _ (r (fun x => n ((dn_other (by decide)).2 x)))⟩
    f4 := fun h => by rw [ev_other (by decide)]; exact S.f4 ((dn_other (by decide)).1 h)
    f5 := fun h => by rw [ev_other (by decide)]; exact S.f5 ((dn_other (by decide)).1 h)
    f6 := fun h => by obtain ⟨g, q, e, r⟩ := S.f6 ((dn_other (by decide)).1 h); exact ⟨g, q, by rw [ev_other (by decide)]; exact e, M.d trivial _ _ _ r⟩
    f7 := fun h => by obtain ⟨g, e⟩ := S.f7 ((dn_other (by decide)).1 h); exact ⟨g, by rw [ev_other (by decide)]; exact e⟩
    f8 := fun h => by rw [ev_other (by decide)]; exact S.f8 ((dn_other (by decide)).1 h)
    f9 := fun h => by rw [ev_other (by decide)]; exact S.f9 ((dn_other (by decide)).1 h)
    f10 := fun h => by obtain ⟨g, q, e, r⟩ := S.f10 ((dn_other (by decide)).1 h); exact ⟨g, q, by rw [ev_other (by decide)]; exact e, fun n => M.b trivial _ _ _ (r (fun x => n ((dn_other (by decide)).2 x)))⟩
    f11 := fun h => by rw [ev_other (by decide)]; exact S.f11 ((dn_other (by decide)).1 h)
    f12 := fun h => by rw [ev_other (by decide)]; exact S.f12 ((dn_other (by decide)).1 h)
    f13 := fun h => by obtain ⟨g, q, e, r⟩ := S.f13 ((dn_other (by decide)).1 h); exact ⟨g, q, by rw [ev_other (by decide)]; exact e, M.b trivial _ _ _ r⟩
    f14 := fun h => by have e := S.f14 ((dn_other (by decide)).1 h); rw [ev_other (by decide), ev_other (by decide), ev_other (by decide)]; exact e
    f15 := fun h => by obtain ⟨g, e, r, _⟩ := S.f15 ((dn_other (by decide)).1 h); exact ⟨g, by rw [ev_other (by decide)]; exact e, fun n => M.ab _ (r (fun x => n ((dn_other (by decide)).2 x))), fun x => absurd ((dn_other (by decide)).1 x) n16⟩ }
theorem put3 {v : Value} (hs : L.size = 17) (S : Six c L a w) (n16 : ¬ Dn L 16) (nk : ¬ Dn L 3) (M : Mv c w w' False True) (fk : ∃ g k, (a.put (some 70) v).eval (.tmp 70) = .slice g c.nd k ∧ (¬ Dn (L.setIfInBounds 3 true) 6 → RowS w' c.wz.heap.size 55 3 (.slice g c.nd k) c.nd c.xda)) : Six c (L.setIfInBounds 3 true) (a.put (some 70) v) w' :=
  { df := ⟨S.df.1, by simpa [Act.put] using S.df.2⟩
    ks := fun t ht => (ev_other (fun e => ht (by subst e; decide))).trans (S.ks t ht)
    be := S.be.trans M.be
    od := ⟨fun h => dn_set (by omega), fun h => (dn_other (by decide)).2 (S.od.2.1 ((dn_other (by decide)).1 h)), fun h => (dn_other (by decide)).2 (S.od.2.2.1 ((dn_other (by decide)).1 h)), fun h => ⟨(dn_other (by decide)).2 (S.od.2.2.2 ((dn_other (by decide)).1 h)).1, (dn_other (by decide)).2 (S.od.2.2.2 ((dn_other (by decide)).1 h)).2⟩⟩
    f0 := fun h => by obtain ⟨g, e⟩ := S.f0 ((dn_other (by decide)).1 h); exact ⟨g, by rw [ev_other (by decide)]; exact e⟩
    f1 := fun h => by rw [ev_other (by decide)]; exact S.f1 ((dn_other (by decide)).1 h)
    f2 := fun h => by rw [ev_other (by decide)]; exact S.f2 ((dn_other (by decide)).1 h)
    f3 := fun _ => fk
    f4 := fun h => by rw [ev_other (by decide)]; exact S.f4 ((dn_other (by decide)).1 h)
    f5 := fun h => by rw [ev_other (by decide)]; exact S.f5 ((dn_other (by decide)).1 h)
    f6 := fun h => absurd (S.od.1 ((dn_other (by decide)).1 h)) nk
    f7 := fun h => by obtain ⟨g, e⟩ := S.f7 ((dn_other (by decide)).1 h); exact ⟨g, by rw [ev_other (by decide)]; exact e⟩
    f8 := fun h => by rw [ev_other (by decide)]; exact S.f8 ((dn_other (by decide)).1 h)
    f9 := fun h => by rw [ev_other (by decide)]; exact S.f9 ((dn_other (by decide)).1 h)
    f10 := fun h => by obtain ⟨g, q, e, r⟩ := S.f10 ((dn_other (by decide)).1 h); exact ⟨g, q, by rw [ev_other (by decide)]; exact e, fun n => M.b trivial _ _ _ (r (fun x => n ((dn_other (by decide)).2 x)))⟩
    f11 := fun h => by rw [ev_other (by decide)]; exact S.f11 ((dn_other (by decide)).1 h)
    f12 := fun h => by rw [ev_other (by decide)]; exact S.f12 ((dn_other (by decide)).1 h)
    f13 := fun h => by obtain ⟨g, q, e, r⟩ := S.f13 ((dn_other (by decide)).1 h); exact ⟨g, q, by rw [ev_other (by decide)]; exact e, M.b trivial _ _ _ r⟩
    f14 := fun h => by have e := S.f14 ((dn_other (by decide)).1 h); rw [ev_other (by decide), ev_other (by decide), ev_other (by decide)]; exact e
    f15 := fun h => by obtain ⟨g, e, r, _⟩ := S.f15 ((dn_other (by decide)).1 h); exact ⟨g, by rw [ev_other (by decide)]; exact e, fun n => M.ab _ (r (fun x => n ((dn_other (by decide)).2 x))), fun x => absurd ((dn_other (by decide)).1 x) n16⟩ }
theorem put4 {v : Value} (hs : L.size = 17) (S : Six c L a w) (n16 : ¬ Dn L 16) (nk : ¬ Dn L 4) (M : Mv c w w' True True) (fk : (a.put (some 71) v).eval (.tmp 71) = .pointer (some ⟨c.p8, 0, none⟩)) : Six c (L.setIfInBounds 4 true) (a.put (some 71) v) w' :=
  { df := ⟨S.df.1, by simpa [Act.put] using S.df.2⟩
    ks := fun t ht => (ev_other (fun e => ht (by subst e; decide))).trans (S.ks t ht)
    be := S.be.trans M.be
    od := ⟨fun h => (dn_other (by decide)).2 (S.od.1 ((dn_other (by decide)).1 h)), fun h => (dn_other (by decide)).2 (S.od.2.1 ((dn_other (by decide)).1 h)), fun h => (dn_other (by decide)).2 (S.od.2.2.1 ((dn_other (by decide)).1 h)), fun h => ⟨(dn_other (by decide)).2 (S.od.2.2.2 ((dn_other (by decide)).1 h)).1, (dn_other (by decide)).2 (S.od.2.2.2 ((dn_other (by decide)).1 h)).2⟩⟩
    f0 := fun h => by obtain ⟨g, e⟩ := S.f0 ((dn_other (by decide)).1 h); exact ⟨g, by rw [ev_other (by decide)]; exact e⟩
    f1 := fun h => by rw [ev_other (by decide)]; exact S.f1 ((dn_other (by decide)).1 h)
    f2 := fun h => by rw [ev_other (by decide)]; exact S.f2 ((dn_other (by decide)).1 h)
    f3 := fun h => by obtain ⟨g, q, e, r⟩ := S.f3 ((dn_other (by decide)).1 h); exact ⟨g, q, by rw [ev_other (by decide)]; exact e, fun n => M.d trivial _ _ _ (r (fun x => n ((dn_other (by decide)).2 x)))⟩
    f4 := fun _ => fk
    f5 := fun h => by rw [ev_other (by decide)]; exact S.f5 ((dn_other (by decide)).1 h)
    f6 := fun h => by obtain ⟨g, q, e, r⟩ := S.f6 ((dn_other (by decide)).1 h); exact ⟨g, q, by rw [ev_other (by decide)]; exact e, M.d trivial _ _ _ r⟩
    f7 := fun h => by obtain ⟨g, e⟩ := S.f7 ((dn_other (by decide)).1 h); exact ⟨g, by rw [ev_other (by decide)]; exact e⟩
    f8 := fun h => by rw [ev_other (by decide)]; exact S.f8 ((dn_other (by decide)).1 h)
    f9 := fun h => by rw [ev_other (by decide)]; exact S.f9 ((dn_other (by decide)).1 h)
    f10 := fun h => by obtain ⟨g, q, e, r⟩ := S.f10 ((dn_other (by decide)).1 h); exact ⟨g, q, by rw [ev_other (by decide)]; exact e, fun n => M.b trivial _ _ _ (r (fun x => n ((dn_other (by decide)).2 x)))⟩
    f11 := fun h => by rw [ev_other (by decide)]; exact S.f11 ((dn_other (by decide)).1 h)
    f12 := fun h => by rw [ev_other (by decide)]; exact S.f12 ((dn_other (by decide)).1 h)
    f13 := fun h => by obtain ⟨g, q, e, r⟩ := S.f13 ((dn_other (by decide)).1 h); exact ⟨g, q, by rw [ev_other (by decide)]; exact e, M.b trivial _ _ _ r⟩
    f14 := fun h => by have e := S.f14 ((dn_other (by decide)).1 h); rw [ev_other (by decide), ev_other (by decide), ev_other (by decide)]; exact e
    f15 := fun h => by obtain ⟨g, e, r, _⟩ := S.f15 ((dn_other (by decide)).1 h); exact ⟨g, by rw [ev_other (by decide)]; exact e, fun n => M.ab _ (r (fun x => n ((dn_other (by decide)).2 x))), fun x => absurd ((dn_other (by decide)).1 x) n16⟩ }
theorem put5 {v : Value} (hs : L.size = 17) (S : Six c L a w) (n16 : ¬ Dn L 16) (nk : ¬ Dn L 5) (M : Mv c w w' True True) (fk : (a.put (some 72) v).eval (.tmp 72) = .slice c.gdb c.md c.cdb) : Six c (L.setIfInBounds 5 true) (a.put (some 72) v) w' :=
  { df := ⟨S.df.1, by simpa [Act.put] using S.df.2⟩
    ks := fun t ht => (ev_other (fun e => ht (by subst e; decide))).trans (S.ks t ht)
    be := S.be.trans M.be
    od := ⟨fun h => (dn_other (by decide)).2 (S.od.1 ((dn_other (by decide)).1 h)), fun h => (dn_other (by decide)).2 (S.od.2.1 ((dn_other (by decide)).1 h)), fun h => (dn_other (by decide)).2 (S.od.2.2.1 ((dn_other (by decide)).1 h)), fun h => ⟨(dn_other (by decide)).2 (S.od.2.2.2 ((dn_other (by decide)).1 h)).1, (dn_other (by decide)).2 (S.od.2.2.2 ((dn_other (by decide)).1 h)).2⟩⟩
    f0 := fun h => by obtain ⟨g, e⟩ := S.f0 ((dn_other (by decide)).1 h); exact ⟨g, by rw [ev_other (by decide)]; exact e⟩
    f1 := fun h => by rw [ev_other (by decide)]; exact S.f1 ((dn_other (by decide)).1 h)
    f2 := fun h => by rw [ev_other (by decide)]; exact S.f2 ((dn_other (by decide)).1 h)
    f3 := fun h => by obtain ⟨g, q, e, r⟩ := S.f3 ((dn_other (by decide)).1 h); exact ⟨g, q, by rw [ev_other (by decide)]; exact e, fun n => M.d trivial _ _ _ (r (fun x => n ((dn_other (by decide)).2 x)))⟩
    f4 := fun h => by rw [ev_other (by decide)]; exact S.f4 ((dn_other (by decide)).1 h)
    f5 := fun _ => fk
    f6 := fun h => by obtain ⟨g, q, e, r⟩ := S.f6 ((dn_other (by decide)).1 h); exact ⟨g, q, by rw [ev_other (by decide)]; exact e, M.d trivial _ _ _ r⟩
    f7 := fun h => by obtain ⟨g, e⟩ := S.f7 ((dn_other (by decide)).1 h); exact ⟨g, by rw [ev_other (by decide)]; exact e⟩
    f8 := fun h => by rw [ev_other (by decide)]; exact S.f8 ((dn_other (by decide)).1 h)
    f9 := fun h => by rw [ev_other (by decide)]; exact S.f9 ((dn_other (by decide)).1 h)
    f10 := fun h => by obtain ⟨g, q, e, r⟩ := S.f10 ((dn_other (by decide)).1 h); exact ⟨g, q, by rw [ev_other (by decide)]; exact e, fun n => M.b trivial _ _ _ (r (fun x => n ((dn_other (by decide)).2 x)))⟩
    f11 := fun h => by rw [ev_other (by decide)]; exact S.f11 ((dn_other (by decide)).1 h)
    f12 := fun h => by rw [ev_other (by decide)]; exact S.f12 ((dn_other (by decide)).1 h)
    f13 := fun h => by obtain ⟨g, q, e, r⟩ := S.f13 ((dn_other (by decide)).1 h); exact ⟨g, q, by rw [ev_other (by decide)]; exact e, M.b trivial _ _ _ r⟩
    f14 := fun h => by have e := S.f14 ((dn_other (by decide)).1 h); rw [ev_other (by decide), ev_other (by decide), ev_other (by decide)]; exact e
    f15 := fun h => by obtain ⟨g, e, r, _⟩ := S.f15 ((dn_other (by decide)).1 h); exact ⟨g, by rw [ev_other (by decide)]; exact e, fun n => M.ab _ (r (fun x => n ((dn_other (by decide)).2 x))), fun x => absurd ((dn_other (by decide)).1 x) n16⟩ }
theorem put6 {v : Value} (hs : L.size = 17) (S : Six c L a w) (n16 : ¬ Dn L 16) (nk : ¬ Dn L 6) (d3 : Dn L 3) (M : Mv c w w' False True) (fk : ∃ g k, (a.put (some 73) v).eval (.tmp 73) = .slice g (c.nd + c.md) k ∧ RowS w' c.wz.heap.size 55 3 (.slice g (c.nd + c.md) k) (c.nd + c.md) (c.xda ++ c.xdb)) : Six c (L.setIfInBounds 6 true) (a.put (some 73) v) w' :=
  { df := ⟨S.df.1, by simpa [Act.put] using S.df.2⟩
    ks := fun t ht => (ev_other (fun e => ht (by subst e; decide))).trans (S.ks t ht)
    be := S.be.trans M.be
    od := ⟨fun _ => (dn_other (by decide)).2 d3, fun h => dn_set (by omega), fun h => (dn_other (by decide)).2 (S.od.2.2.1 ((dn_other (by decide)).1 h)), fun h => ⟨dn_set (by omega), (dn_other (by decide)).2 (S.od.2.2.2 ((dn_other (by decide)).1 h)).2⟩⟩
    f0 := fun h => by obtain ⟨g, e⟩ := S.f0 ((dn_other (by decide)).1 h); exact ⟨g, by rw [ev_other (by decide)]; exact e⟩
    f1 := fun h => by rw [ev_other (by decide)]; exact S.f1 ((dn_other (by decide)).1 h)
    f2 := fun h => by rw [ev_other (by decide)]; exact S.f2 ((dn_other (by decide)).1 h)
    f3 := fun h => by obtain ⟨g, q, e, r⟩ := S.f3 ((dn_other (by decide)).1 h); exact ⟨g, q, by rw [ev_other (by decide)]; exact e, fun n => absurd (dn_set (by omega)) n⟩
    f4 := fun h => by rw [ev_other (by decide)]; exact S.f4 ((dn_other (by decide)).1 h)
    f5 := fun h => by rw [ev_other (by decide)]; exact S.f5 ((dn_other (by decide)).1 h)
    f6 := fun _ => fk
    f7 := fun h => by obtain ⟨g, e⟩ := S.f7 ((dn_other (by decide)).1 h); exact ⟨g, by rw [ev_other (by decide)]; exact e⟩
    f8 := fun h => by rw [ev_other (by decide)]; exact S.f8 ((dn_other (by decide)).1 h)
    f9 := fun h => by rw [ev_other (by decide)]; exact S.f9 ((dn_other (by decide)).1 h)
    f10 := fun h => by obtain ⟨g, q, e, r⟩ := S.f10 ((dn_other (by decide)).1 h); exact ⟨g, q, by rw [ev_other (by decide)]; exact e, fun n => M.b trivial _ _ _ (r (fun x => n ((dn_other (by decide)).2 x)))⟩
    f11 := fun h => by rw [ev_other (by decide)]; exact S.f11 ((dn_other (by decide)).1 h)
    f12 := fun h => by rw [ev_other (by decide)]; exact S.f12 ((dn_other (by decide)).1 h)
    f13 := fun h => by obtain ⟨g, q, e, r⟩ := S.f13 ((dn_other (by decide)).1 h); exact ⟨g, q, by rw [ev_other (by decide)]; exact e, M.b trivial _ _ _ r⟩
    f14 := fun h => absurd (S.od.2.2.2 ((dn_other (by decide)).1 h)).1 nk
    f15 := fun h => by obtain ⟨g, e, r, _⟩ := S.f15 ((dn_other (by decide)).1 h); exact ⟨g, by rw [ev_other (by decide)]; exact e, fun n => M.ab _ (r (fun x => n ((dn_other (by decide)).2 x))), fun x => absurd ((dn_other (by decide)).1 x) n16⟩ }
theorem put7 {v : Value} (hs : L.size = 17) (S : Six c L a w) (n16 : ¬ Dn L 16) (nk : ¬ Dn L 7) (M : Mv c w w' True True) (fk : ∃ ga, (a.put (some 74) v).eval (.tmp 74) = .slice ga 0 0) : Six c (L.setIfInBounds 7 true) (a.put (some 74) v) w' :=
  { df := ⟨S.df.1, by simpa [Act.put] using S.df.2⟩
    ks := fun t ht => (ev_other (fun e => ht (by subst e; decide))).trans (S.ks t ht)
    be := S.be.trans M.be
    od := ⟨fun h => (dn_other (by decide)).2 (S.od.1 ((dn_other (by decide)).1 h)), fun h => (dn_other (by decide)).2 (S.od.2.1 ((dn_other (by decide)).1 h)), fun h => (dn_other (by decide)).2 (S.od.2.2.1 ((dn_other (by decide)).1 h)), fun h => ⟨(dn_other (by decide)).2 (S.od.2.2.2 ((dn_other (by decide)).1 h)).1, (dn_other (by decide)).2 (S.od.2.2.2 ((dn_other (by decide)).1 h)).2⟩⟩
    f0 := fun h => by obtain ⟨g, e⟩ := S.f0 ((dn_other (by decide)).1 h); exact ⟨g, by rw [ev_other (by decide)]; exact e⟩
    f1 := fun h => by rw [ev_other (by decide)]; exact S.f1 ((dn_other (by decide)).1 h)
    f2 := fun h => by rw [ev_other (by decide)]; exact S.f2 ((dn_other (by decide)).1 h)
    f3 := fun h => by obtain ⟨g, q, e, r⟩ := S.f3 ((dn_other (by decide)).1 h); exact ⟨g, q, by rw [ev_other (by decide)]; exact e, fun n => M.d trivial _ _ _ (r (fun x => n ((dn_other (by decide)).2 x)))⟩
    f4 := fun h => by rw [ev_other (by decide)]; exact S.f4 ((dn_other (by decide)).1 h)
    f5 := fun h => by rw [ev_other (by decide)]; exact S.f5 ((dn_other (by decide)).1 h)
    f6 := fun h => by obtain ⟨g, q, e, r⟩ := S.f6 ((dn_other (by decide)).1 h); exact ⟨g, q, by rw [ev_other (by decide)]; exact e, M.d trivial _ _ _ r⟩
    f7 := fun _ => fk
    f8 := fun h => by rw [ev_other (by decide)]; exact S.f8 ((dn_other (by decide)).1 h)
    f9 := fun h => by rw [ev_other (by decide)]; exact S.f9 ((dn_other (by decide)).1 h)
    f10 := fun h => by obtain ⟨g, q, e, r⟩ := S.f10 ((dn_other (by decide)).1 h); exact ⟨g, q, by rw [ev_other (by decide)]; exact e, fun n => M.b trivial _ _ _ (r (fun x => n ((dn_other (by decide)).2 x)))⟩
    f11 := fun h => by rw [ev_other (by decide)]; exact S.f11 ((dn_other (by decide)).1 h)
    f12 := fun h => by rw [ev_other (by decide)]; exact S.f12 ((dn_other (by decide)).1 h)
    f13 := fun h => by obtain ⟨g, q, e, r⟩ := S.f13 ((dn_other (by decide)).1 h); exact ⟨g, q, by rw [ev_other (by decide)]; exact e, M.b trivial _ _ _ r⟩
    f14 := fun h => by have e := S.f14 ((dn_other (by decide)).1 h); rw [ev_other (by decide), ev_other (by decide), ev_other (by decide)]; exact e
    f15 := fun h => by obtain ⟨g, e, r, _⟩ := S.f15 ((dn_other (by decide)).1 h); exact ⟨g, by rw [ev_other (by decide)]; exact e, fun n => M.ab _ (r (fun x => n ((dn_other (by decide)).2 x))), fun x => absurd ((dn_other (by decide)).1 x) n16⟩ }
theorem put8 {v : Value} (hs : L.size = 17) (S : Six c L a w) (n16 : ¬ Dn L 16) (nk : ¬ Dn L 8) (M : Mv c w w' True True) (fk : (a.put (some 75) v).eval (.tmp 75) = .pointer (some ⟨c.p5, 1, none⟩)) : Six c (L.setIfInBounds 8 true) (a.put (some 75) v) w' :=
  { df := ⟨S.df.1, by simpa [Act.put] using S.df.2⟩
    ks := fun t ht => (ev_other (fun e => ht (by subst e; decide))).trans (S.ks t ht)
    be := S.be.trans M.be
    od := ⟨fun h => (dn_other (by decide)).2 (S.od.1 ((dn_other (by decide)).1 h)), fun h => (dn_other (by decide)).2 (S.od.2.1 ((dn_other (by decide)).1 h)), fun h => (dn_other (by decide)).2 (S.od.2.2.1 ((dn_other (by decide)).1 h)), fun h => ⟨(dn_other (by decide)).2 (S.od.2.2.2 ((dn_other (by decide)).1 h)).1, (dn_other (by decide)).2 (S.od.2.2.2 ((dn_other (by decide)).1 h)).2⟩⟩
    f0 := fun h => by obtain ⟨g, e⟩ := S.f0 ((dn_other (by decide)).1 h); exact ⟨g, by rw [ev_other (by decide)]; exact e⟩
    f1 := fun h => by rw [ev_other (by decide)]; exact S.f1 ((dn_other (by decide)).1 h)
    f2 := fun h => by rw [ev_other (by decide)]; exact S.f2 ((dn_other (by decide)).1 h)
    f3 := fun h => by obtain ⟨g, q, e, r⟩ := S.f3 ((dn_other (by decide)).1 h); exact ⟨g, q, by rw [ev_other (by decide)]; exact e, fun n => M.d trivial _ _ _ (r (fun x => n ((dn_other (by decide)).2 x)))⟩
    f4 := fun h => by rw [ev_other (by decide)]; exact S.f4 ((dn_other (by decide)).1 h)
    f5 := fun h => by rw [ev_other (by decide)]; exact S.f5 ((dn_other (by decide)).1 h)
    f6 := fun h => by obtain ⟨g, q, e, r⟩ := S.f6 ((dn_other (by decide)).1 h); exact ⟨g, q, by rw [ev_other (by decide)]; exact e, M.d trivial _ _ _ r⟩
    f7 := fun h => by obtain ⟨g, e⟩ := S.f7 ((dn_other (by decide)).1 h); exact ⟨g, by rw [ev_other (by decide)]; exact e⟩
    f8 := fun _ => fk
    f9 := fun h => by rw [ev_other (by decide)]; exact S.f9 ((dn_other (by decide)).1 h)
    f10 := fun h => by obtain ⟨g, q, e, r⟩ := S.f10 ((dn_other (by decide)).1 h); exact ⟨g, q, by rw [ev_other (by decide)]; exact e, fun n => M.b trivial _ _ _ (r (fun x => n ((dn_other (by decide)).2 x)))⟩
    f11 := fun h => by rw [ev_other (by decide)]; exact S.f11 ((dn_other (by decide)).1 h)
    f12 := fun h => by rw [ev_other (by decide)]; exact S.f12 ((dn_other (by decide)).1 h)
    f13 := fun h => by obtain ⟨g, q, e, r⟩ := S.f13 ((dn_other (by decide)).1 h); exact ⟨g, q, by rw [ev_other (by decide)]; exact e, M.b trivial _ _ _ r⟩
    f14 := fun h => by have e := S.f14 ((dn_other (by decide)).1 h); rw [ev_other (by decide), ev_other (by decide), ev_other (by decide)]; exact e
    f15 := fun h => by obtain ⟨g, e, r, _⟩ := S.f15 ((dn_other (by decide)).1 h); exact ⟨g, by rw [ev_other (by decide)]; exact e, fun n => M.ab _ (r (fun x => n ((dn_other (by decide)).2 x))), fun x => absurd ((dn_other (by decide)).1 x) n16⟩ }
theorem put9 {v : Value} (hs : L.size = 17) (S : Six c L a w) (n16 : ¬ Dn L 16) (nk : ¬ Dn L 9) (M : Mv c w w' True True) (fk : (a.put (some 76) v).eval (.tmp 76) = .slice c.gba c.nb c.cba) : Six c (L.setIfInBounds 9 true) (a.put (some 76) v) w' :=
  { df := ⟨S.df.1, by simpa [Act.put] using S.df.2⟩
    ks := fun t ht => (ev_other (fun e => ht (by subst e; decide))).trans (S.ks t ht)
    be := S.be.trans M.be
    od := ⟨fun h => (dn_other (by decide)).2 (S.od.1 ((dn_other (by decide)).1 h)), fun h => (dn_other (by decide)).2 (S.od.2.1 ((dn_other (by decide)).1 h)), fun h => (dn_other (by decide)).2 (S.od.2.2.1 ((dn_other (by decide)).1 h)), fun h => ⟨(dn_other (by decide)).2 (S.od.2.2.2 ((dn_other (by decide)).1 h)).1, (dn_other (by decide)).2 (S.od.2.2.2 ((dn_other (by decide)).1 h)).2⟩⟩
    f0 := fun h => by obtain ⟨g, e⟩ := S.f0 ((dn_other (by decide)).1 h); exact ⟨g, by rw [ev_other (by decide)]; exact e⟩
    f1 := fun h => by rw [ev_other (by decide)]; exact S.f1 ((dn_other (by decide)).1 h)
    f2 := fun h => by rw [ev_other (by decide)]; exact S.f2 ((dn_other (by decide)).1 h)
    f3 := fun h => by obtain ⟨g, q, e, r⟩ := S.f3 ((dn_other (by decide)).1 h); exact ⟨g, q, by rw [ev_other (by decide)]; exact e, fun n => M.d trivial _ _ _ (r (fun x => n ((dn_other (by decide)).2 x)))⟩
    f4 := fun h => by rw [ev_other (by decide)]; exact S.f4 ((dn_other (by decide)).1 h)
    f5 := fun h => by rw [ev_other (by decide)]; exact S.f5 ((dn_other (by decide)).1 h)
    f6 := fun h => by obtain ⟨g, q, e, r⟩ := S.f6 ((dn_other (by decide)).1 h); exact ⟨g, q, by rw [ev_other (by decide)]; exact e, M.d trivial _ _ _ r⟩
    f7 := fun h => by obtain ⟨g, e⟩ := S.f7 ((dn_other (by decide)).1 h); exact ⟨g, by rw [ev_other (by decide)]; exact e⟩
    f8 := fun h => by rw [ev_other (by decide)]; exact S.f8 ((dn_other (by decide)).1 h)
    f9 := fun _ => fk
    f10 := fun h => by obtain ⟨g, q, e, r⟩ := S.f10 ((dn_other (by decide)).1 h); exact ⟨g, q, by rw [ev_other (by decide)]; exact e, fun n => M.b trivial _ _ _ (r (fun x => n ((dn_other (by decide)).2 x)))⟩
    f11 := fun h => by rw [ev_other (by decide)]; exact S.f11 ((dn_other (by decide)).1 h)
    f12 := fun h => by rw [ev_other (by decide)]; exact S.f12 ((dn_other (by decide)).1 h)
    f13 := fun h => by obtain ⟨g, q, e, r⟩ := S.f13 ((dn_other (by decide)).1 h); exact ⟨g, q, by rw [ev_other (by decide)]; exact e, M.b trivial _ _ _ r⟩
    f14 := fun h => by have e := S.f14 ((dn_other (by decide)).1 h); rw [ev_other (by decide), ev_other (by decide), ev_other (by decide)]; exact e
    f15 := fun h => by obtain ⟨g, e, r, _⟩ := S.f15 ((dn_other (by decide)).1 h); exact ⟨g, by rw [ev_other (by decide)]; exact e, fun n => M.ab _ (r (fun x => n ((dn_other (by decide)).2 x))), fun x => absurd ((dn_other (by decide)).1 x) n16⟩ }
theorem put10 {v : Value} (hs : L.size = 17) (S : Six c L a w) (n16 : ¬ Dn L 16) (nk : ¬ Dn L 10) (d6 : Dn L 6) (M : Mv c w w' True False) (fk : ∃ g k, (a.put (some 77) v).eval (.tmp 77) = .slice g c.nb k ∧ (¬ Dn (L.setIfInBounds 10 true) 13 → RowS w' c.wz.heap.size 51 11 (.slice g c.nb k) c.nb c.xba)) : Six c (L.setIfInBounds 10 true) (a.put (some 77) v) w' :=
  { df := ⟨S.df.1, by simpa [Act.put] using S.df.2⟩
    ks := fun t ht => (ev_other (fun e => ht (by subst e; decide))).trans (S.ks t ht)
    be := S.be.trans M.be
    od := ⟨fun h => (dn_other (by decide)).2 (S.od.1 ((dn_other (by decide)).1 h)), fun _ => (dn_other (by decide)).2 d6, fun h => dn_set (by omega), fun h => ⟨(dn_other (by decide)).2 (S.od.2.2.2 ((dn_other (by decide)).1 h)).1, (dn_other (by decide)).2 (S.od.2.2.2 ((dn_other (by decide)).1 h)).2⟩⟩
    f0 := fun h => by obtain ⟨g, e⟩ := S.f0 ((dn_other (by decide)).1 h); exact ⟨g, by rw [ev_other (by decide)]; exact e⟩
    f1 := fun h => by rw [ev_other (by decide)]; exact S.f1 ((dn_other (by decide)).1 h)
    f2 := fun h => by rw [ev_other (by decide)]; exact S.f2 ((dn_other (by decide)).1 h)
    f3 := fun h => by obtain ⟨g, q, e, r⟩ := S.f3 ((dn_other (by decide)).1 h); exact ⟨g, q, by rw [ev_other (by decide)]; exact e, fun n => M.d trivial _ _ _ (r (fun x => n ((dn_other (by decide)).2 x)))⟩
    f4 := fun h => by rw [ev_other (by decide)]; exact S.f4 ((dn_other (by decide)).1 h)
    f5 := fun h => by rw [ev_other (by decide)]; exact S.f5 ((dn_other (by decide)).1 h)
    f6 := fun h => by obtain ⟨g, q, e, r⟩ := S.f6 ((dn_other (by decide)).1 h); exact ⟨g, q, by rw [ev_other (by decide)]; exact e, M.d trivial _ _ _ r⟩
    f7 := fun h => by obtain ⟨g, e⟩ := S.f7 ((dn_other (by decide)).1 h); exact ⟨g, by rw [ev_other (by decide)]; exact e⟩
    f8 := fun h => by rw [ev_other (by decide)]; exact S.f8 ((dn_other (by decide)).1 h)
    f9 := fun h => by rw [ev_other (by decide)]; exact S.f9 ((dn_other (by decide)).1 h)
    f10 := fun _ => fk
    f11 := fun h => by rw [ev_other (by decide)]; exact S.f11 ((dn_other (by decide)).1 h)
    f12 := fun h => by rw [ev_other (by decide)]; exact S.f12 ((dn_other (by decide)).1 h)
    f13 := fun h => absurd (S.od.2.2.1 ((dn_other (by decide)).1 h)) nk
    f14 := fun h => by have e := S.f14 ((dn_other (by decide)).1 h); rw [ev_other (by decide), ev_other (by decide), ev_other (by decide)]; exact e
    f15 := fun h => by obtain ⟨g, e, r, _⟩ := S.f15 ((dn_other (by decide)).1 h); exact ⟨g, by rw [ev_other (by decide)]; exact e, fun n => M.ab _ (r (fun x => n ((dn_other (by decide)).2 x))), fun x => absurd ((dn_other (by decide)).1 x) n16⟩ }
theorem put11 {v : Value} (hs : L.size = 17) (S : Six c L a w) (n16 : ¬ Dn L 16) (nk : ¬ Dn L 11) (M : Mv c w w' True True) (fk : (a.put (some 78) v).eval (.tmp 78) = .pointer (some ⟨c.p8, 1, none⟩)) : Six c (L.setIfInBounds 11 true) (a.put (some 78) v) w' :=
  { df := ⟨S.df.1, by simpa [Act.put] using S.df.2⟩
    ks := fun t ht => (ev_other (fun e => ht (by subst e; decide))).trans (S.ks t ht)
    be := S.be.trans M.be
    od := ⟨fun h => (dn_other (by decide)).2 (S.od.1 ((dn_other (by decide)).1 h)), fun h => (dn_other (by decide)).2 (S.od.2.1 ((dn_other (by decide)).1 h)), fun h => (dn_other (by decide)).2 (S.od.2.2.1 ((dn_other (by decide)).1 h)), fun h => ⟨(dn_other (by decide)).2 (S.od.2.2.2 ((dn_other (by decide)).1 h)).1, (dn_other (by decide)).2 (S.od.2.2.2 ((dn_other (by decide)).1 h)).2⟩⟩
    f0 := fun h => by obtain ⟨g, e⟩ := S.f0 ((dn_other (by decide)).1 h); exact ⟨g, by rw [ev_other (by decide)]; exact e⟩
    f1 := fun h => by rw [ev_other (by decide)]; exact S.f1 ((dn_other (by decide)).1 h)
    f2 := fun h => by rw [ev_other (by decide)]; exact S.f2 ((dn_other (by decide)).1 h)
    f3 := fun h => by obtain ⟨g, q, e, r⟩ := S.f3 ((dn_other (by decide)).1 h); exact ⟨g, q, by rw [ev_other (by decide)]; exact e, fun n => M.d trivial _ _ _ (r (fun x => n ((dn_other (by decide)).2 x)))⟩
    f4 := fun h => by rw [ev_other (by decide)]; exact S.f4 ((dn_other (by decide)).1 h)
    f5 := fun h => by rw [ev_other (by decide)]; exact S.f5 ((dn_other (by decide)).1 h)
    f6 := fun h => by obtain ⟨g, q, e, r⟩ := S.f6 ((dn_other (by decide)).1 h); exact ⟨g, q, by rw [ev_other (by decide)]; exact e, M.d trivial _ _ _ r⟩
    f7 := fun h => by obtain ⟨g, e⟩ := S.f7 ((dn_other (by decide)).1 h); exact ⟨g, by rw [ev_other (by decide)]; exact e⟩
    f8 := fun h => by rw [ev_other (by decide)]; exact S.f8 ((dn_other (by decide)).1 h)
    f9 := fun h => by rw [ev_other (by decide)]; exact S.f9 ((dn_other (by decide)).1 h)
    f10 := fun h => by obtain ⟨g, q, e, r⟩ := S.f10 ((dn_other (by decide)).1 h); exact ⟨g, q, by rw [ev_other (by decide)]; exact e, fun n => M.b trivial _ _ _ (r (fun x => n ((dn_other (by decide)).2 x)))⟩
    f11 := fun _ => fk
    f12 := fun h => by rw [ev_other (by decide)]; exact S.f12 ((dn_other (by decide)).1 h)
    f13 := fun h => by obtain ⟨g, q, e, r⟩ := S.f13 ((dn_other (by decide)).1 h); exact ⟨g, q, by rw [ev_other (by decide)]; exact e, M.b trivial _ _ _ r⟩
    f14 := fun h => by have e := S.f14 ((dn_other (by decide)).1 h); rw [ev_other (by decide), ev_other (by decide), ev_other (by decide)]; exact e
    f15 := fun h => by obtain ⟨g, e, r, _⟩ := S.f15 ((dn_other (by decide)).1 h); exact ⟨g, by rw [ev_other (by decide)]; exact e, fun n => M.ab _ (r (fun x => n ((dn_other (by decide)).2 x))), fun x => absurd ((dn_other (by decide)).1 x) n16⟩ }
theorem put12 {v : Value} (hs : L.size = 17) (S : Six c L a w) (n16 : ¬ Dn L 16) (nk : ¬ Dn L 12) (M : Mv c w w' True True) (fk : (a.put (some 79) v).eval (.tmp 79) = .slice c.gbb c.mb c.cbb) : Six c (L.setIfInBounds 12 true) (a.put (some 79) v) w' :=
  { df := ⟨S.df.1, by simpa [Act.put] using S.df.2⟩
    ks := fun t ht => (ev_other (fun e => ht (by subst e; decide))).trans (S.ks t ht)
    be := S.be.trans M.be
    od := ⟨fun h => (dn_other (by decide)).2 (S.od.1 ((dn_other (by decide)).1 h)), fun h => (dn_other (by decide)).2 (S.od.2.1 ((dn_other (by decide)).1 h)), fun h => (dn_other (by decide)).2 (S.od.2.2.1 ((dn_other (by decide)).1 h)), fun h => ⟨(dn_other (by decide)).2 (S.od.2.2.2 ((dn_other (by decide)).1 h)).1, (dn_other (by decide)).2 (S.od.2.2.2 ((dn_other (by decide)).1 h)).2⟩⟩
    f0 := fun h => by obtain ⟨g, e⟩ := S.f0 ((dn_other (by decide)).1 h); exact ⟨g, by rw [ev_other (by decide)]; exact e⟩
    f1 := fun h => by rw [ev_other (by decide)]; exact S.f1 ((dn_other (by decide)).1 h)
    f2 := fun h => by rw [ev_other (by decide)]; exact S.f2 ((dn_other (by decide)).1 h)
    f3 := fun h => by obtain ⟨g, q, e, r⟩ := S.f3 ((dn_other (by decide)).1 h); exact ⟨g, q, by rw [ev_other (by decide)]; exact e, fun n => M.d trivial _ _ _ (r (fun x => n ((dn_other (by decide)).2 x)))⟩
    f4 := fun h => by rw [ev_other (by decide)]; exact S.f4 ((dn_other (by decide)).1 h)
    f5 := fun h => by rw [ev_other (by decide)]; exact S.f5 ((dn_other (by decide)).1 h)
    f6 := fun h => by obtain ⟨g, q, e, r⟩ := S.f6 ((dn_other (by decide)).1 h); exact ⟨g, q, by rw [ev_other (by decide)]; exact e, M.d trivial _ _ _ r⟩
    f7 := fun h => by obtain ⟨g, e⟩ := S.f7 ((dn_other (by decide)).1 h); exact ⟨g, by rw [ev_other (by decide)]; exact e⟩
    f8 := fun h => by rw [ev_other (by decide)]; exact S.f8 ((dn_other (by decide)).1 h)
    f9 := fun h => by rw [ev_other (by decide)]; exact S.f9 ((dn_other (by decide)).1 h)
    f10 := fun h => by obtain ⟨g, q, e, r⟩ := S.f10 ((dn_other (by decide)).1 h); exact ⟨g, q, by rw [ev_other (by decide)]; exact e, fun n => M.b trivial _ _ _ (r (fun x => n ((dn_other (by decide)).2 x)))⟩
    f11 := fun h => by rw [ev_other (by decide)]; exact S.f11 ((dn_other (by decide)).1 h)
    f12 := fun _ => fk
    f13 := fun h => by obtain ⟨g, q, e, r⟩ := S.f13 ((dn_other (by decide)).1 h); exact ⟨g, q, by rw [ev_other (by decide)]; exact e, M.b trivial _ _ _ r⟩
    f14 := fun h => by have e := S.f14 ((dn_other (by decide)).1 h); rw [ev_other (by decide), ev_other (by decide), ev_other (by decide)]; exact e
    f15 := fun h => by obtain ⟨g, e, r, _⟩ := S.f15 ((dn_other (by decide)).1 h); exact ⟨g, by rw [ev_other (by decide)]; exact e, fun n => M.ab _ (r (fun x => n ((dn_other (by decide)).2 x))), fun x => absurd ((dn_other (by decide)).1 x) n16⟩ }
theorem put13 {v : Value} (hs : L.size = 17) (S : Six c L a w) (n16 : ¬ Dn L 16) (nk : ¬ Dn L 13) (d10 : Dn L 10) (M : Mv c w w' True False) (fk : ∃ g k, (a.put (some 80) v).eval (.tmp 80) = .slice g (c.nb + c.mb) k ∧ RowS w' c.wz.heap.size 51 11 (.slice g (c.nb + c.mb) k) (c.nb + c.mb) (c.xba ++ c.xbb)) : Six c (L.setIfInBounds 13 true) (a.put (some 80) v) w' :=
  { df := ⟨S.df.1, by simpa [Act.put] using S.df.2⟩
    ks := fun t ht => (ev_other (fun e => ht (by subst e; decide))).trans (S.ks t ht)
    be := S.be.trans M.be
    od := ⟨fun h => (dn_other (by decide)).2 (S.od.1 ((dn_other (by decide)).1 h)), fun h => (dn_other (by decide)).2 (S.od.2.1 ((dn_other (by decide)).1 h)), fun _ => (dn_other (by decide)).2 d10, fun h => ⟨(dn_other (by decide)).2 (S.od.2.2.2 ((dn_other (by decide)).1 h)).1, dn_set (by omega)⟩⟩
    f0 := fun h => by obtain ⟨g, e⟩ := S.f0 ((dn_other (by decide)).1 h); exact ⟨g, by rw [ev_other (by decide)]; exact e⟩
    f1 := fun h => by rw [ev_other (by decide)]; exact S.f1 ((dn_other (by decide)).1 h)
    f2 := fun h => by rw [ev_other (by decide)]; exact S.f2 ((dn_other (by decide)).1 h)
    f3 := fun h => by obtain ⟨g, q, e, r⟩ := S.f3 ((dn_other (by decide)).1 h); exact ⟨g, q, by rw [ev_other (by decide)]; exact e, fun n => M.d trivial _ _ _ (r (fun x => n ((dn_other (by decide)).2 x)))⟩
    f4 := fun h => by rw [ev_other (by decide)]; exact S.f4 ((dn_other (by decide)).1 h)
    f5 := fun h => by rw [ev_other (by decide)]; exact S.f5 ((dn_other (by decide)).1 h)
    f6 := fun h => by obtain ⟨g, q, e, r⟩ := S.f6 ((dn_other (by decide)).1 h); exact ⟨g, q, by rw [ev_other (by decide)]; exact e, M.d trivial _ _ _ r⟩
    f7 := fun h => by obtain ⟨g, e⟩ := S.f7 ((dn_other (by decide)).1 h); exact ⟨g, by rw [ev_other (by decide)]; exact e⟩
    f8 := fun h => by rw [ev_other (by decide)]; exact S.f8 ((dn_other (by decide)).1 h)
    f9 := fun h => by rw [ev_other (by decide)]; exact S.f9 ((dn_other (by decide)).1 h)
    f10 := fun h => by obtain ⟨g, q, e, r⟩ := S.f10 ((dn_other (by decide)).1 h); exact ⟨g, q, by rw [ev_other (by decide)]; exact e, fun n => absurd (dn_set (by omega)) n⟩
    f11 := fun h => by rw [ev_other (by decide)]; exact S.f11 ((dn_other (by decide)).1 h)
    f12 := fun h => by rw [ev_other (by decide)]; exact S.f12 ((dn_other (by decide)).1 h)
    f13 := fun _ => fk
    f14 := fun h => absurd (S.od.2.2.2 ((dn_other (by decide)).1 h)).2 nk
    f15 := fun h => by obtain ⟨g, e, r, _⟩ := S.f15 ((dn_other (by decide)).1 h); exact ⟨g, by rw [ev_other (by decide)]; exact e, fun n => M.ab _ (r (fun x => n ((dn_other (by decide)).2 x))), fun x => absurd ((dn_other (by decide)).1 x) n16⟩ }
theorem put14 {v : Value} (hs : L.size = 17) (S : Six c L a w) (n16 : ¬ Dn L 16) (nk : ¬ Dn L 14) (d6 : Dn L 6) (d13 : Dn L 13) (M : Mv c w w' True True) (fk : (a.put (some 81) v).eval (.tmp 81) = .agg #[(a.put (some 81) v).eval (.tmp 73), (a.put (some 81) v).eval (.tmp 80)]) : Six c (L.setIfInBounds 14 true) (a.put (some 81) v) w' :=
  { df := ⟨S.df.1, by simpa [Act.put] using S.df.2⟩
    ks := fun t ht => (ev_other (fun e => ht (by subst e; decide))).trans (S.ks t ht)
    be := S.be.trans M.be
    od := ⟨fun h => (dn_other (by decide)).2 (S.od.1 ((dn_other (by decide)).1 h)), fun h => (dn_other (by decide)).2 (S.od.2.1 ((dn_other (by decide)).1 h)), fun h => (dn_other (by decide)).2 (S.od.2.2.1 ((dn_other (by decide)).1 h)), fun _ => ⟨(dn_other (by decide)).2 d6, (dn_other (by decide)).2 d13⟩⟩
    f0 := fun h => by obtain ⟨g, e⟩ := S.f0 ((dn_other (by decide)).1 h); exact ⟨g, by rw [ev_other (by decide)]; exact e⟩
    f1 := fun h => by rw [ev_other (by decide)]; exact S.f1 ((dn_other (by decide)).1 h)
    f2 := fun h => by rw [ev_other (by decide)]; exact S.f2 ((dn_other (by decide)).1 h)
    f3 := fun h => by obtain ⟨g, q, e, r⟩ := S.f3 ((dn_other (by decide)).1 h); exact ⟨g, q, by rw [ev_other (by decide)]; exact e, fun n => M.d trivial _ _ _ (r (fun x => n ((dn_other (by decide)).2 x)))⟩
    f4 := fun h => by rw [ev_other (by decide)]; exact S.f4 ((dn_other (by decide)).1 h)
    f5 := fun h => by rw [ev_other (by decide)]; exact S.f5 ((dn_other (by decide)).1 h)
    f6 := fun h => by obtain ⟨g, q, e, r⟩ := S.f6 ((dn_other (by decide)).1 h); exact ⟨g, q, by rw [ev_other (by decide)]; exact e, M.d trivial _ _ _ r⟩
    f7 := fun h => by obtain ⟨g, e⟩ := S.f7 ((dn_other (by decide)).1 h); exact ⟨g, by rw [ev_other (by decide)]; exact e⟩
    f8 := fun h => by rw [ev_other (by decide)]; exact S.f8 ((dn_other (by decide)).1 h)
    f9 := fun h => by rw [ev_other (by decide)]; exact S.f9 ((dn_other (by decide)).1 h)
    f10 := fun h => by obtain ⟨g, q, e, r⟩ := S.f10 ((dn_other (by decide)).1 h); exact ⟨g, q, by rw [ev_other (by decide)]; exact e, fun n => M.b trivial _ _ _ (r (fun x => n ((dn_other (by decide)).2 x)))⟩
    f11 := fun h => by rw [ev_other (by decide)]; exact S.f11 ((dn_other (by decide)).1 h)
    f12 := fun h => by rw [ev_other (by decide)]; exact S.f12 ((dn_other (by decide)).1 h)
    f13 := fun h => by obtain ⟨g, q, e, r⟩ := S.f13 ((dn_other (by decide)).1 h); exact ⟨g, q, by rw [ev_other (by decide)]; exact e, M.b trivial _ _ _ r⟩
    f14 := fun _ => fk
    f15 := fun h => by obtain ⟨g, e, r, _⟩ := S.f15 ((dn_other (by decide)).1 h); exact ⟨g, by rw [ev_other (by decide)]; exact e, fun n => M.ab _ (r (fun x => n ((dn_other (by decide)).2 x))), fun x => absurd ((dn_other (by decide)).1 x) n16⟩ }
theorem put15 {v : Value} (hs : L.size = 17) (S : Six c L a w) (n16 : ¬ Dn L 16) (nk : ¬ Dn L 15) (M : Mv c w w' True True) (fk : ∃ g, (a.put (some 14) v).eval (.tmp 14) = ptr g ∧ (¬ Dn (L.setIfInBounds 15 true) 16 → AB c.wz.heap.size w' g) ∧ (Dn (L.setIfInBounds 15 true) 16 → Blk w' g #[(a.put (some 14) v).eval (.tmp 73), (a.put (some 14) v).eval (.tmp 80)] 25)) : Six c (L.setIfInBounds 15 true) (a.put (some 14) v) w' :=
  { df := ⟨S.df.1, by simpa [Act.put] using S.df.2⟩
    ks := fun t ht => (ev_other (fun e => ht (by subst e; decide))).trans (S.ks t ht)
    be := S.be.trans M.be
    od := ⟨fun h => (dn_other (by decide)).2 (S.od.1 ((dn_other (by decide)).1 h)), fun h => (dn_other (by decide)).2 (S.od.2.1 ((dn_other (by decide)).1 h)), fun h => (dn_other (by decide)).2 (S.od.2.2.1 ((dn_other (by decide)).1 h)), fun h => ⟨(dn_other (by decide)).2 (S.od.2.2.2 ((dn_other (by decide)).1 h)).1, (dn_other (by decide)).2 (S.od.2.2.2 ((dn_other (by decide)).1 h)).2⟩⟩
    f0 := fun h => by obtain ⟨g, e⟩ := S.f0 ((dn_other (by decide)).1 h); exact ⟨g, by rw [ev_other (by decide)]; exact e⟩
    f1 := fun h => by rw [ev_other (by decide)]; exact S.f1 ((dn_other (by decide)).1 h)
    f2 := fun h => by rw [ev_other (by decide)]; exact S.f2 ((dn_other (by decide)).1 h)
    f3 := fun h => by obtain ⟨g, q, e, r⟩ := S.f3 ((dn_other (by decide)).1 h); exact ⟨g, q, by rw [ev_other (by decide)]; exact e, fun n => M.d trivial _ _ _ (r (fun x => n ((dn_other (by decide)).2 x)))⟩
    f4 := fun h => by rw [ev_other (by decide)]; exact S.f4 ((dn_other (by decide)).1 h)
    f5 := fun h => by rw [ev_other (by decide)]; exact S.f5 ((dn_other (by decide)).1 h)
    f6 := fun h => by obtain ⟨g, q, e, r⟩ := S.f6 ((dn_other (by decide)).1 h); exact ⟨g, q, by rw [ev_other (by decide)]; exact e, M.d trivial _ _ _ r⟩
    f7 := fun h => by obtain ⟨g, e⟩ := S.f7 ((dn_other (by decide)).1 h); exact ⟨g, by rw [ev_other (by decide)]; exact e⟩
    f8 := fun h => by rw [ev_other (by decide)]; exact S.f8 ((dn_other (by decide)).1 h)
    f9 := fun h => by rw [ev_other (by decide)]; exact S.f9 ((dn_other (by decide)).1 h)
    f10 := fun h => by obtain ⟨g, q, e, r⟩ := S.f10 ((dn_other (by decide)).1 h); exact ⟨g, q, by rw [ev_other (by decide)]; exact e, fun n => M.b trivial _ _ _ (r (fun x => n ((dn_other (by decide)).2 x)))⟩
    f11 := fun h => by rw [ev_other (by decide)]; exact S.f11 ((dn_other (by decide)).1 h)
    f12 := fun h => by rw [ev_other (by decide)]; exact S.f12 ((dn_other (by decide)).1 h)
    f13 := fun h => by obtain ⟨g, q, e, r⟩ := S.f13 ((dn_other (by decide)).1 h); exact ⟨g, q, by rw [ev_other (by decide)]; exact e, M.b trivial _ _ _ r⟩
    f14 := fun h => by have e := S.f14 ((dn_other (by decide)).1 h); rw [ev_other (by decide), ev_other (by decide), ev_other (by decide)]; exact e
    f15 := fun _ => fk }
/-- what is appended -/
structure A6 (c : C6) : Prop where
  da : c.xda.length = c.nd * 3 ∧ (∀ W, Below c.wz.heap.size c.wz W → 0 < c.nd → ∃ ad, c.gda = some ad ∧ ∀ j u, c.xda[j]? = some u → W.cell? (ad.add j) = some u) ∧ (∀ u ∈ c.xda, u.oneCell' = true)
  db : c.xdb.length = c.md * 3 ∧ (∀ W, Below c.wz.heap.size c.wz W → 0 < c.md → ∃ ad, c.gdb = some ad ∧ ∀ j u, c.xdb[j]? = some u → W.cell? (ad.add j) = some u) ∧ (∀ u ∈ c.xdb, u.oneCell' = true)
  ba : c.xba.length = c.nb * 11 ∧ (∀ W, Below c.wz.heap.size c.wz W → 0 < c.nb → ∃ ad, c.gba = some ad ∧ ∀ j u, c.xba[j]? = some u → W.cell? (ad.add j) = some u) ∧ (∀ u ∈ c.xba, u.oneCell' = true)
  bb : c.xbb.length = c.mb * 11 ∧ (∀ W, Below c.wz.heap.size c.wz W → 0 < c.mb → ∃ ad, c.gbb = some ad ∧ ∀ j u, c.xbb[j]? = some u → W.cell? (ad.add j) = some u) ∧ (∀ u ∈ c.xbb, u.oneCell' = true)
  le : (c.nd ≤ 1000000000 ∧ c.md ≤ 1000000000) ∧ c.nb ≤ 1000000000 ∧ c.mb ≤ 1000000000
theorem mv_d (B : Below c.wz.heap.size w w') (O : Others 55 w w') : Mv c w w' False True := ⟨B, fun h => h.elim, fun _ _ _ _ h => h.others O (by decide), fun _ h => h.others O (by decide)⟩
theorem mv_b (B : Below c.wz.heap.size w w') (O : Others 51 w w') : Mv c w w' True False := ⟨B, fun _ _ _ _ h => h.others O (by decide), fun h => h.elim, fun _ h => h.others O (by decide)⟩
theorem t_append {P : Program} {K : Act → World → Prop} {o : Oper} (s x : Operand) (t : TypeId) (ho : o.op = .call { callee := .builtin .append, args := #[s, x], argTypes := #[t, t] })
    (base : Nat) (e : TypeId) (i : TypeInfo) (z : Value) (size bytes : Nat) (ht : P.underlying t = some (.slice e)) (hi : P.info? e = some i) (hz : i.zero = some z)
    (hsize : i.size = size) (hby : i.bytes = bytes) (hzs : z.cells.size = size) (hsz : 0 < size)
    (v : Value) (n : Nat) (xs : List Value) (hs : a.eval s = v) (hown : RowS w base e size v n xs)
    (ga : Option Addr) (m k : Nat) (news : List Value) (hx : a.eval x = .slice ga m k) (hl : news.length = m * size) (hnews : 0 < m → ∃ ad, ga = some ad ∧ ∀ j u, news[j]? = some u → w.cell? (ad.add j) = some u) (h1 : ∀ u ∈ news, u.oneCell' = true)
    (h63 : n + m ≤ maxLen) (hbytes : (n + m) * bytes ≤ 140737488355328) (hbase : base ≤ w.heap.size)
    (h : ∀ ga' cap' w', RowS w' base e size (.slice ga' (n + m) cap') (n + m) (xs ++ news) → Below base w w' → Others e w w' → K (a.put o.dst (.slice ga' (n + m) cap')) w') : o.wp P a w K Q := by
  obtain ⟨ga', cap', w', hr, h2, h3, h4⟩ := run_append_S (P := P) w t o.type e base i z size bytes ht hi hz hsize hby hzs hsz v n xs hown ga m k news hl hnews h1 h63 hbytes hbase
  unfold Oper.wp execOp
  simp only [ho, resolve, invoke, builtin, Sem.run_bind, Sem.run_pure, Result.andThen_ok, List.map_toArray, List.map_cons, List.map_nil, hs, hx, hr]
  exact h ga' cap' w' h2 h3 h4
/-- the last one done: all done -/
def Last (L : Array Bool) : Prop := Dn L 16 → ∀ k, k < 16 → Dn L k
theorem rdy {i : Nat} (h : i ∈ Region.ready .any ops6 L) : i < 17 ∧ L.getD i true = false ∧ ∀ o, ops6[i]? = some o → ∀ e ∈ o.after, Region.binds .any e = true → Dn L e.on := by
  have hm := List.mem_filter.1 h
  have h1 := List.mem_range.1 hm.1
  have h2 := hm.2
  simp only [Bool.and_eq_true, Bool.not_eq_true'] at h2
  refine ⟨h1, h2.1, fun o ho e he hb => ?_⟩
  have h3 := h2.2
  rw [ho] at h3
  simp only [Option.map_some, Option.getD_some] at h3
  have h4 := Array.all_eq_true'.1 h3 e he
  simpa [hb, Dn] using h4
theorem nd_of (hs : L.size = 17) {i : Nat} (hi : i < 17) (h : L.getD i true = false) : ¬ Dn L i := by
  unfold Dn
  rw [Array.getD_eq_getD_getElem?, Array.getElem?_eq_getElem (by omega)] at h ⊢
  simpa using h
end
end Go.Proofs.YtoedeedoecdajaaDoor

/- Region 6 of the law TreeJoins: each operation keeps what holds. -/
namespace Go.Proofs.YtoedeedoecdajaaDoor
open Go.RowKit
set_option linter.unusedVariables false
set_option linter.unusedSimpArgs false
section
variable {Q : Exit → Act → World → Prop} {c : C6} {L : Array Bool} {a : Act} {w : World}
set_option maxRecDepth 100000 in
theorem step_0 (G : G6 c) (A : A6 c) (hs : L.size = 17) (S : Six c L a w) (hL : Last L) (hi : 0 ∈ Region.ready .any ops6 L) : wpOp Tryd.prog ops6 Q 0 (fun a' w' => Six c (L.setIfInBounds 0 true) a' w' ∧ Last (L.setIfInBounds 0 true)) a w := by
  obtain ⟨hlt, hl, hd⟩ := rdy hi
  have nk := nd_of hs hlt hl
  have n16 : ¬ Dn L 16 := fun h => nk (hL h 0 (by decide))
  have last : Last (L.setIfInBounds 0 true) := fun h => absurd ((dn_other (by decide)).1 h) n16
  have hw : ∀ d, d < 103 → d < a.tmps.size := fun d h => by rw [S.df.2, G.sz]; exact h
  exact wp_of (o := _) rfl rfl (t_lit (.inl rfl) rfl (fun ga x => ⟨put0 hs S n16 nk (Mv.alloc S.be.size x) ⟨ga, ev_same (hw 67 (by decide))⟩, last⟩))
set_option maxRecDepth 100000 in
theorem step_1 (G : G6 c) (A : A6 c) (hs : L.size = 17) (S : Six c L a w) (hL : Last L) (hi : 1 ∈ Region.ready .any ops6 L) : wpOp Tryd.prog ops6 Q 1 (fun a' w' => Six c (L.setIfInBounds 1 true) a' w' ∧ Last (L.setIfInBounds 1 true)) a w := by
  obtain ⟨hlt, hl, hd⟩ := rdy hi
  have nk := nd_of hs hlt hl
  have n16 : ¬ Dn L 16 := fun h => nk (hL h 1 (by decide))
  have last : Last (L.setIfInBounds 1 true) := fun h => absurd ((dn_other (by decide)).1 h) n16
  have hw : ∀ d, d < 103 → d < a.tmps.size := fun d h => by rw [S.df.2, G.sz]; exact h
  exact wp_of (o := _) rfl rfl (t_addr rfl (.inl rfl) ((S.ks 5 (by decide)).trans G.e5) ⟨put1 hs S n16 nk Mv.refl (ev_same (hw 68 (by decide))), last⟩)
set_option maxRecDepth 100000 in
theorem step_2 (G : G6 c) (A : A6 c) (hs : L.size = 17) (S : Six c L a w) (hL : Last L) (hi : 2 ∈ Region.ready .any ops6 L) : wpOp Tryd.prog ops6 Q 2 (fun a' w' => Six c (L.setIfInBounds 2 true) a' w' ∧ Last (L.setIfInBounds 2 true)) a w := by
  obtain ⟨hlt, hl, hd⟩ := rdy hi
  have nk := nd_of hs hlt hl
  have n16 : ¬ Dn L 16 := fun h => nk (hL h 2 (by decide))
  have last : Last (L.setIfInBounds 2 true) := fun h => absurd ((dn_other (by decide)).1 h) n16
  have hw : ∀ d, d < 103 → d < a.tmps.size := fun d h => by rw [S.df.2, G.sz]; exact h
  have d1 : Dn L 1 := hd _ rfl { on := 1, ground := Ground.data } (by simp [ops6]) (by rfl)
  exact wp_of (o := _) rfl rfl (t_load (.inl rfl) rfl (S.f1 d1) (cell_be S.be G.q0) ⟨put2 hs S n16 nk Mv.refl (ev_same (hw 69 (by decide))), last⟩)
set_option maxRecDepth 100000 in
theorem step_3 (G : G6 c) (A : A6 c) (hs : L.size = 17) (S : Six c L a w) (hL : Last L) (hi : 3 ∈ Region.ready .any ops6 L) : wpOp Tryd.prog ops6 Q 3 (fun a' w' => Six c (L.setIfInBounds 3 true) a' w' ∧ Last (L.setIfInBounds 3 true)) a w := by
  obtain ⟨hlt, hl, hd⟩ := rdy hi
  have nk := nd_of hs hlt hl
  have n16 : ¬ Dn L 16 := fun h => nk (hL h 3 (by decide))
  have last : Last (L.setIfInBounds 3 true) := fun h => absurd ((dn_other (by decide)).1 h) n16
  have hw : ∀ d, d < 103 → d < a.tmps.size := fun d h => by rw [S.df.2, G.sz]; exact h
  have d0 : Dn L 0 := hd _ rfl { on := 0, ground := Ground.data } (by simp [ops6]) (by rfl)
  have d2 : Dn L 2 := hd _ rfl { on := 2, ground := Ground.data } (by simp [ops6]) (by rfl)
  obtain ⟨ga, e0⟩ := S.f0 d0
  obtain ⟨di, dh, dz0, dz1, dz2⟩ := info_parts info55
  have le := A.le
  exact wp_of (o := _) rfl rfl (t_append (.tmp 67) (.tmp 69) 22 rfl c.wz.heap.size 55 di _ 3 32 Tryd.underlying22 dh dz0 dz1 dz2 rfl (by decide) _ 0 [] e0 (.inl ⟨rfl, rfl, _, rfl⟩) c.gda c.nd c.cda c.xda (S.f2 d2) A.da.1 (A.da.2.1 w S.be) A.da.2.2 (by unfold maxLen; omega) (by omega) S.be.size (fun g q w' r B O => ⟨put3 hs S n16 nk (mv_d B O) ⟨g, q, by rw [Nat.zero_add]; exact ev_same (hw 70 (by decide)), fun _ => by simpa using r⟩, last⟩))
set_option maxRecDepth 100000 in
theorem step_4 (G : G6 c) (A : A6 c) (hs : L.size = 17) (S : Six c L a w) (hL : Last L) (hi : 4 ∈ Region.ready .any ops6 L) : wpOp Tryd.prog ops6 Q 4 (fun a' w' => Six c (L.setIfInBounds 4 true) a' w' ∧ Last (L.setIfInBounds 4 true)) a w := by
  obtain ⟨hlt, hl, hd⟩ := rdy hi
  have nk := nd_of hs hlt hl
  have n16 : ¬ Dn L 16 := fun h => nk (hL h 4 (by decide))
  have last : Last (L.setIfInBounds 4 true) := fun h => absurd ((dn_other (by decide)).1 h) n16
  have hw : ∀ d, d < 103 → d < a.tmps.size := fun d h => by rw [S.df.2, G.sz]; exact h
  exact wp_of (o := _) rfl rfl (t_addr rfl (.inl rfl) ((S.ks 8 (by decide)).trans G.e8) ⟨put4 hs S n16 nk Mv.refl (ev_same (hw 71 (by decide))), last⟩)
set_option maxRecDepth 100000 in
theorem step_5 (G : G6 c) (A : A6 c) (hs : L.size = 17) (S : Six c L a w) (hL : Last L) (hi : 5 ∈ Region.ready .any ops6 L) : wpOp Tryd.prog ops6 Q 5 (fun a' w' => Six c (L.setIfInBounds 5 true) a' w' ∧ Last (L.setIfInBounds 5 true)) a w := by
  obtain ⟨hlt, hl, hd⟩ := rdy hi
  have nk := nd_of hs hlt hl
  have n16 : ¬ Dn L 16 := fun h => nk (hL h 5 (by decide))
  have last : Last (L.setIfInBounds 5 true) := fun h => absurd ((dn_other (by decide)).1 h) n16
  have hw : ∀ d, d < 103 → d < a.tmps.size := fun d h => by rw [S.df.2, G.sz]; exact h
  have d4 : Dn L 4 := hd _ rfl { on := 4, ground := Ground.data } (by simp [ops6]) (by rfl)
  exact wp_of (o := _) rfl rfl (t_load (.inl rfl) rfl (S.f4 d4) (cell_be S.be G.r0) ⟨put5 hs S n16 nk Mv.refl (ev_same (hw 72 (by decide))), last⟩)
set_option maxRecDepth 100000 in
theorem step_6 (G : G6 c) (A : A6 c) (hs : L.size = 17) (S : Six c L a w) (hL : Last L) (hi : 6 ∈ Region.ready .any ops6 L) : wpOp Tryd.prog ops6 Q 6 (fun a' w' => Six c (L.setIfInBounds 6 true) a' w' ∧ Last (L.setIfInBounds 6 true)) a w := by
  obtain ⟨hlt, hl, hd⟩ := rdy hi
  have nk := nd_of hs hlt hl
  have n16 : ¬ Dn L 16 := fun h => nk (hL h 6 (by decide))
  have last : Last (L.setIfInBounds 6 true) := fun h => absurd ((dn_other (by decide)).1 h) n16
  have hw : ∀ d, d < 103 → d < a.tmps.size := fun d h => by rw [S.df.2, G.sz]; exact h
  have d3 : Dn L 3 := hd _ rfl { on := 3, ground := Ground.data } (by simp [ops6]) (by rfl)
  have d5 : Dn L 5 := hd _ rfl { on := 5, ground := Ground.data } (by simp [ops6]) (by rfl)
  obtain ⟨g0, q0, e0, r0⟩ := S.f3 d3
  obtain ⟨di, dh, dz0, dz1, dz2⟩ := info_parts info55
  have le := A.le
  exact wp_of (o := _) rfl rfl (t_append (.tmp 70) (.tmp 72) 22 rfl c.wz.heap.size 55 di _ 3 32 Tryd.underlying22 dh dz0 dz1 dz2 rfl (by decide) _ c.nd c.xda e0 (r0 nk) c.gdb c.md c.cdb c.xdb (S.f5 d5) A.db.1 (A.db.2.1 w S.be) A.db.2.2 (by unfold maxLen; omega) (by omega) S.be.size (fun g q w' r B O => ⟨put6 hs S n16 nk d3 (mv_d B O) ⟨g, q, ev_same (hw 73 (by decide)), r⟩, last⟩))
set_option maxRecDepth 100000 in
theorem step_7 (G : G6 c) (A : A6 c) (hs : L.size = 17) (S : Six c L a w) (hL : Last L) (hi : 7 ∈ Region.ready .any ops6 L) : wpOp Tryd.prog ops6 Q 7 (fun a' w' => Six c (L.setIfInBounds 7 true) a' w' ∧ Last (L.setIfInBounds 7 true)) a w := by
  obtain ⟨hlt, hl, hd⟩ := rdy hi
  have nk := nd_of hs hlt hl
  have n16 : ¬ Dn L 16 := fun h => nk (hL h 7 (by decide))
  have last : Last (L.setIfInBounds 7 true) := fun h => absurd ((dn_other (by decide)).1 h) n16
  have hw : ∀ d, d < 103 → d < a.tmps.size := fun d h => by rw [S.df.2, G.sz]; exact h
  exact wp_of (o := _) rfl rfl (t_lit (.inr rfl) rfl (fun ga x => ⟨put7 hs S n16 nk (Mv.alloc S.be.size x) ⟨ga, ev_same (hw 74 (by decide))⟩, last⟩))
set_option maxRecDepth 100000 in
theorem step_8 (G : G6 c) (A : A6 c) (hs : L.size = 17) (S : Six c L a w) (hL : Last L) (hi : 8 ∈ Region.ready .any ops6 L) : wpOp Tryd.prog ops6 Q 8 (fun a' w' => Six c (L.setIfInBounds 8 true) a' w' ∧ Last (L.setIfInBounds 8 true)) a w := by
  obtain ⟨hlt, hl, hd⟩ := rdy hi
  have nk := nd_of hs hlt hl
  have n16 : ¬ Dn L 16 := fun h => nk (hL h 8 (by decide))
  have last : Last (L.setIfInBounds 8 true) := fun h => absurd ((dn_other (by decide)).1 h) n16
  have hw : ∀ d, d < 103 → d < a.tmps.size := fun d h => by rw [S.df.2, G.sz]; exact h
  exact wp_of (o := _) rfl rfl (t_addr rfl (.inr rfl) ((S.ks 5 (by decide)).trans G.e5) ⟨put8 hs S n16 nk Mv.refl (ev_same (hw 75 (by decide))), last⟩)
set_option maxRecDepth 100000 in
theorem step_9 (G : G6 c) (A : A6 c) (hs : L.size = 17) (S : Six c L a w) (hL : Last L) (hi : 9 ∈ Region.ready .any ops6 L) : wpOp Tryd.prog ops6 Q 9 (fun a' w' => Six c (L.setIfInBounds 9 true) a' w' ∧ Last (L.setIfInBounds 9 true)) a w := by
  obtain ⟨hlt, hl, hd⟩ := rdy hi
  have nk := nd_of hs hlt hl
  have n16 : ¬ Dn L 16 := fun h => nk (hL h 9 (by decide))
  have last : Last (L.setIfInBounds 9 true) := fun h => absurd ((dn_other (by decide)).1 h) n16
  have hw : ∀ d, d < 103 → d < a.tmps.size := fun d h => by rw [S.df.2, G.sz]; exact h
  have d8 : Dn L 8 := hd _ rfl { on := 8, ground := Ground.data } (by simp [ops6]) (by rfl)
  exact wp_of (o := _) rfl rfl (t_load (.inr rfl) rfl (S.f8 d8) (cell_be S.be G.q1) ⟨put9 hs S n16 nk Mv.refl (ev_same (hw 76 (by decide))), last⟩)
set_option maxRecDepth 100000 in
theorem step_10 (G : G6 c) (A : A6 c) (hs : L.size = 17) (S : Six c L a w) (hL : Last L) (hi : 10 ∈ Region.ready .any ops6 L) : wpOp Tryd.prog ops6 Q 10 (fun a' w' => Six c (L.setIfInBounds 10 true) a' w' ∧ Last (L.setIfInBounds 10 true)) a w := by
  obtain ⟨hlt, hl, hd⟩ := rdy hi
  have nk := nd_of hs hlt hl
  have n16 : ¬ Dn L 16 := fun h => nk (hL h 10 (by decide))
  have last : Last (L.setIfInBounds 10 true) := fun h => absurd ((dn_other (by decide)).1 h) n16
  have hw : ∀ d, d < 103 → d < a.tmps.size := fun d h => by rw [S.df.2, G.sz]; exact h
  have d7 : Dn L 7 := hd _ rfl { on := 7, ground := Ground.data } (by simp [ops6]) (by rfl)
  have d9 : Dn L 9 := hd _ rfl { on := 9, ground := Ground.data } (by simp [ops6]) (by rfl)
  have d6 : Dn L 6 := hd _ rfl { on := 6, ground := Ground.chain } (by simp [ops6]) (by rfl)
  obtain ⟨ga, e0⟩ := S.f7 d7
  obtain ⟨bi, bh, bz0, bz1, bz2⟩ := info_parts info51
  have le := A.le
  exact wp_of (o := _) rfl rfl (t_append (.tmp 74) (.tmp 76) 23 rfl c.wz.heap.size 51 bi _ 11 184 Tryd.underlying23 bh bz0 bz1 bz2 rfl (by decide) _ 0 [] e0 (.inl ⟨rfl, rfl, _, rfl⟩) c.gba c.nb c.cba c.xba (S.f9 d9) A.ba.1 (A.ba.2.1 w S.be) A.ba.2.2 (by unfold maxLen; omega) (by omega) S.be.size (fun g q w' r B O => ⟨put10 hs S n16 nk d6 (mv_b B O) ⟨g, q, by rw [Nat.zero_add]; exact ev_same (hw 77 (by decide)), fun _ => by simpa using r⟩, last⟩))
set_option maxRecDepth 100000 in
theorem step_11 (G : G6 c) (A : A6 c) (hs : L.size = 17) (S : Six c L a w) (hL : Last L) (hi : 11 ∈ Region.ready .any ops6 L) : wpOp Tryd.prog ops6 Q 11 (fun a' w' => Six c (L.setIfInBounds 11 true) a' w' ∧ Last (L.setIfInBounds 11 true)) a w := by
  obtain ⟨hlt, hl, hd⟩ := rdy hi
  have nk := nd_of hs hlt hl
  have n16 : ¬ Dn L 16 := fun h => nk (hL h 11 (by decide))
  have last : Last (L.setIfInBounds 11 true) := fun h => absurd ((dn_other (by decide)).1 h) n16
  have hw : ∀ d, d < 103 → d < a.tmps.size := fun d h => by rw [S.df.2, G.sz]; exact h
  exact wp_of (o := _) rfl rfl (t_addr rfl (.inr rfl) ((S.ks 8 (by decide)).trans G.e8) ⟨put11 hs S n16 nk Mv.refl (ev_same (hw 78 (by decide))), last⟩)
set_option maxRecDepth 100000 in
theorem step_12 (G : G6 c) (A : A6 c) (hs : L.size = 17) (S : Six c L a w) (hL : Last L) (hi : 12 ∈ Region.ready .any ops6 L) : wpOp Tryd.prog ops6 Q 12 (fun a' w' => Six c (L.setIfInBounds 12 true) a' w' ∧ Last (L.setIfInBounds 12 true)) a w := by
  obtain ⟨hlt, hl, hd⟩ := rdy hi
  have nk := nd_of hs hlt hl
  have n16 : ¬ Dn L 16 := fun h => nk (hL h 12 (by decide))
  have last : Last (L.setIfInBounds 12 true) := fun h => absurd ((dn_other (by decide)).1 h) n16
  have hw : ∀ d, d < 103 → d < a.tmps.size := fun d h => by rw [S.df.2, G.sz]; exact h
  have d11 : Dn L 11 := hd _ rfl { on := 11, ground := Ground.data } (by simp [ops6]) (by rfl)
  exact wp_of (o := _) rfl rfl (t_load (.inr rfl) rfl (S.f11 d11) (cell_be S.be G.r1) ⟨put12 hs S n16 nk Mv.refl (ev_same (hw 79 (by decide))), last⟩)
set_option maxRecDepth 100000 in
theorem step_13 (G : G6 c) (A : A6 c) (hs : L.size = 17) (S : Six c L a w) (hL : Last L) (hi : 13 ∈ Region.ready .any ops6 L) : wpOp Tryd.prog ops6 Q 13 (fun a' w' => Six c (L.setIfInBounds 13 true) a' w' ∧ Last (L.setIfInBounds 13 true)) a w := by
  obtain ⟨hlt, hl, hd⟩ := rdy hi
  have nk := nd_of hs hlt hl
  have n16 : ¬ Dn L 16 := fun h => nk (hL h 13 (by decide))
  have last : Last (L.setIfInBounds 13 true) := fun h => absurd ((dn_other (by decide)).1 h) n16
  have hw : ∀ d, d < 103 → d < a.tmps.size := fun d h => by rw [S.df.2, G.sz]; exact h
  have d10 : Dn L 10 := hd _ rfl { on := 10, ground := Ground.data } (by simp [ops6]) (by rfl)
  have d12 : Dn L 12 := hd _ rfl { on := 12, ground := Ground.data } (by simp [ops6]) (by rfl)
  obtain ⟨g0, q0, e0, r0⟩ := S.f10 d10
  obtain ⟨bi, bh, bz0, bz1, bz2⟩ := info_parts info51
  have le := A.le
  exact wp_of (o := _) rfl rfl (t_append (.tmp 77) (.tmp 79) 23 rfl c.wz.heap.size 51 bi _ 11 184 Tryd.underlying23 bh bz0 bz1 bz2 rfl (by decide) _ c.nb c.xba e0 (r0 nk) c.gbb c.mb c.cbb c.xbb (S.f12 d12) A.bb.1 (A.bb.2.1 w S.be) A.bb.2.2 (by unfold maxLen; omega) (by omega) S.be.size (fun g q w' r B O => ⟨put13 hs S n16 nk d10 (mv_b B O) ⟨g, q, ev_same (hw 80 (by decide)), r⟩, last⟩))
set_option maxRecDepth 100000 in
theorem step_14 (G : G6 c) (A : A6 c) (hs : L.size = 17) (S : Six c L a w) (hL : Last L) (hi : 14 ∈ Region.ready .any ops6 L) : wpOp Tryd.prog ops6 Q 14 (fun a' w' => Six c (L.setIfInBounds 14 true) a' w' ∧ Last (L.setIfInBounds 14 true)) a w := by
  obtain ⟨hlt, hl, hd⟩ := rdy hi
  have nk := nd_of hs hlt hl
  have n16 : ¬ Dn L 16 := fun h => nk (hL h 14 (by decide))
  have last : Last (L.setIfInBounds 14 true) := fun h => absurd ((dn_other (by decide)).1 h) n16
  have hw : ∀ d, d < 103 → d < a.tmps.size := fun d h => by rw [S.df.2, G.sz]; exact h
  have d6 : Dn L 6 := hd _ rfl { on := 6, ground := Ground.data } (by simp [ops6]) (by rfl)
  have d13 : Dn L 13 := hd _ rfl { on := 13, ground := Ground.data } (by simp [ops6]) (by rfl)
  obtain ⟨g6, q6, e6, r6⟩ := S.f6 d6
  obtain ⟨g13, q13, e13, r13⟩ := S.f13 d13
  exact wp_of (o := _) rfl rfl (t_build rfl e6 e13 ⟨put14 hs S n16 nk d6 d13 Mv.refl (by rw [ev_same (hw 81 (by decide)), ev_other (by decide), ev_other (by decide), e6, e13]), last⟩)
set_option maxRecDepth 100000 in
theorem step_15 (G : G6 c) (A : A6 c) (hs : L.size = 17) (S : Six c L a w) (hL : Last L) (hi : 15 ∈ Region.ready .any ops6 L) : wpOp Tryd.prog ops6 Q 15 (fun a' w' => Six c (L.setIfInBounds 15 true) a' w' ∧ Last (L.setIfInBounds 15 true)) a w := by
  obtain ⟨hlt, hl, hd⟩ := rdy hi
  have nk := nd_of hs hlt hl
  have n16 : ¬ Dn L 16 := fun h => nk (hL h 15 (by decide))
  have last : Last (L.setIfInBounds 15 true) := fun h => absurd ((dn_other (by decide)).1 h) n16
  have hw : ∀ d, d < 103 → d < a.tmps.size := fun d h => by rw [S.df.2, G.sz]; exact h
  exact wp_of (o := _) rfl rfl (t_alloc rfl ⟨put15 hs S n16 nk (Mv.alloc S.be.size _) ⟨w.heap.size, ev_same (hw 14 (by decide)), fun _ => AB.fresh0 w S.be.size, fun x => absurd ((dn_other (by decide)).1 x) n16⟩, last⟩)
set_option maxRecDepth 100000 in
theorem step_16 (G : G6 c) (A : A6 c) (hs : L.size = 17) (S : Six c L a w) (hL : Last L) (hi : 16 ∈ Region.ready .any ops6 L) : wpOp Tryd.prog ops6 Q 16 (fun a' w' => Six c (L.setIfInBounds 16 true) a' w' ∧ Last (L.setIfInBounds 16 true)) a w := by
  obtain ⟨hlt, hl, hd⟩ := rdy hi
  have nk := nd_of hs hlt hl
  have d0 : Dn L 0 := hd _ rfl { on := 0, ground := Ground.phase } (by simp [ops6]) (by rfl)
  have d1 : Dn L 1 := hd _ rfl { on := 1, ground := Ground.phase } (by simp [ops6]) (by rfl)
  have d2 : Dn L 2 := hd _ rfl { on := 2, ground := Ground.phase } (by simp [ops6]) (by rfl)
  have d3 : Dn L 3 := hd _ rfl { on := 3, ground := Ground.phase } (by simp [ops6]) (by rfl)
  have d4 : Dn L 4 := hd _ rfl { on := 4, ground := Ground.phase } (by simp [ops6]) (by rfl)
  have d5 : Dn L 5 := hd _ rfl { on := 5, ground := Ground.phase } (by simp [ops6]) (by rfl)
  have d6 : Dn L 6 := hd _ rfl { on := 6, ground := Ground.phase } (by simp [ops6]) (by rfl)
  have d7 : Dn L 7 := hd _ rfl { on := 7, ground := Ground.phase } (by simp [ops6]) (by rfl)
  have d8 : Dn L 8 := hd _ rfl { on := 8, ground := Ground.phase } (by simp [ops6]) (by rfl)
  have d9 : Dn L 9 := hd _ rfl { on := 9, ground := Ground.phase } (by simp [ops6]) (by rfl)
  have d10 : Dn L 10 := hd _ rfl { on := 10, ground := Ground.phase } (by simp [ops6]) (by rfl)
  have d11 : Dn L 11 := hd _ rfl { on := 11, ground := Ground.phase } (by simp [ops6]) (by rfl)
  have d12 : Dn L 12 := hd _ rfl { on := 12, ground := Ground.phase } (by simp [ops6]) (by rfl)
  have d13 : Dn L 13 := hd _ rfl { on := 13, ground := Ground.phase } (by simp [ops6]) (by rfl)
  have d14 : Dn L 14 := hd _ rfl { on := 14, ground := Ground.phase } (by simp [ops6]) (by rfl)
  have d15 : Dn L 15 := hd _ rfl { on := 15, ground := Ground.phase } (by simp [ops6]) (by rfl)
  have last : Last (L.setIfInBounds 16 true) := fun _ k hk => (dn_other (by omega)).2 (by
    match k, hk with
    | 0, _ => exact d0
    | 1, _ => exact d1
    | 2, _ => exact d2
    | 3, _ => exact d3
    | 4, _ => exact d4
    | 5, _ => exact d5
    | 6, _ => exact d6
    | 7, _ => exact d7
    | 8, _ => exact d8
    | 9, _ => exact d9
    | 10, _ => exact d10
    | 11, _ => exact d11
    | 12, _ => exact d12
    | 13, _ => exact d13
    | 14, _ => exact d14
    | 15, _ => exact d15
    | n + 16, h => omega)
  obtain ⟨g6, q6, e6, r6⟩ := S.f6 d6
  obtain ⟨g13, q13, e13, r13⟩ := S.f13 d13
  obtain ⟨g, e, ab, _⟩ := S.f15 d15
  have e81 := S.f14 d14
  rw [e6, e13] at e81
  obtain ⟨⟨F1, F2, F3⟩, FB⟩ := fin_set (ab nk) r6 r13
  exact wp_of (o := _) rfl rfl (t_store rfl rfl e e81 (ab nk).blk ⟨
    { df := S.df
      ks := S.ks
      be := S.be.trans FB
      od := ⟨fun h => (dn_other (by decide)).2 d3, fun h => (dn_other (by decide)).2 d6, fun h => (dn_other (by decide)).2 d10, fun h => ⟨(dn_other (by decide)).2 d6, (dn_other (by decide)).2 d13⟩⟩
      f0 := fun _ => S.f0 d0
      f1 := fun _ => S.f1 d1
      f2 := fun _ => S.f2 d2
      f3 := fun _ => by obtain ⟨g, q, e, r⟩ := S.f3 d3; exact ⟨g, q, e, fun n => absurd ((dn_other (by decide)).2 d6) n⟩
      f4 := fun _ => S.f4 d4
      f5 := fun _ => S.f5 d5
      f6 := fun _ => ⟨g6, q6, e6, F2⟩
      f7 := fun _ => S.f7 d7
      f8 := fun _ => S.f8 d8
      f9 := fun _ => S.f9 d9
      f10 := fun _ => by obtain ⟨g, q, e, r⟩ := S.f10 d10; exact ⟨g, q, e, fun n => absurd ((dn_other (by decide)).2 d13) n⟩
      f11 := fun _ => S.f11 d11
      f12 := fun _ => S.f12 d12
      f13 := fun _ => ⟨g13, q13, e13, F3⟩
      f14 := fun _ => S.f14 d14
      f15 := fun _ => ⟨g, e, fun n => absurd (dn_set (by omega)) n, fun _ => by rw [e6, e13]; exact F1⟩ }, last⟩)
/-- the region, in whatever order -/
theorem six_run (G : G6 c) (A : A6 c) {id : Nat} (h0 : Six c (Array.replicate 17 false) c.a0 c.wz.drew)
    (hend : ∀ a w, (a.defers = c.a0.defers ∧ a.tmps.size = c.a0.tmps.size) → (∀ t, ¬ (t = 14 ∨ (67 ≤ t ∧ t ≤ 81)) → a.eval (.tmp t) = c.a0.eval (.tmp t)) → (∃ g gD cD gB cB, a.eval (.tmp 14) = ptr g ∧ Fin c.wz.heap.size w g (.slice gD (c.nd + c.md) cD) (.slice gB (c.nb + c.mb) cB) (c.nd + c.md) (c.nb + c.mb) (c.xda ++ c.xdb) (c.xba ++ c.xbb)) → Below c.wz.heap.size c.wz w → Q .normal a w) :
    (Code.region id ops6 true).wp Tryd.prog Q c.a0 c.wz := by
  refine wp_region_inv (by kernel_rfl) (by kernel_rfl) (fun L a w => Six c L a w ∧ Last L) (fun L a w i hs h hi => ?_) (fun L a w hs h all => ?_) ⟨h0, fun h => absurd h (by unfold Dn; rw [show ops6.size = 17 from rfl]; decide)⟩
  · have hs : L.size = 17 := hs
    obtain ⟨hlt, _, _⟩ := rdy hi
    match i, hlt with
    | 0, _ => exact step_0 G A hs h.1 h.2 hi
    | 1, _ => exact step_1 G A hs h.1 h.2 hi
    | 2, _ => exact step_2 G A hs h.1 h.2 hi
    | 3, _ => exact step_3 G A hs h.1 h.2 hi
    | 4, _ => exact step_4 G A hs h.1 h.2 hi
    | 5, _ => exact step_5 G A hs h.1 h.2 hi
    | 6, _ => exact step_6 G A hs h.1 h.2 hi
    | 7, _ => exact step_7 G A hs h.1 h.2 hi
    | 8, _ => exact step_8 G A hs h.1 h.2 hi
    | 9, _ => exact step_9 G A hs h.1 h.2 hi
    | 10, _ => exact step_10 G A hs h.1 h.2 hi
    | 11, _ => exact step_11 G A hs h.1 h.2 hi
    | 12, _ => exact step_12 G A hs h.1 h.2 hi
    | 13, _ => exact step_13 G A hs h.1 h.2 hi
    | 14, _ => exact step_14 G A hs h.1 h.2 hi
    | 15, _ => exact step_15 G A hs h.1 h.2 hi
    | 16, _ => exact step_16 G A hs h.1 h.2 hi
    | n + 17, h => omega
  · have hs : L.size = 17 := hs
    have dn : ∀ k, k < 17 → Dn L k := fun k hk => by
      have := all k hk
      unfold Dn
      rw [Array.getD_eq_getD_getElem?, Array.getElem?_eq_getElem (by omega)] at this ⊢
      simpa using this
    obtain ⟨S, _⟩ := h
    obtain ⟨g6, q6, e6, r6⟩ := S.f6 (dn 6 (by decide))
    obtain ⟨g13, q13, e13, r13⟩ := S.f13 (dn 13 (by decide))
    obtain ⟨g, e, _, hb⟩ := S.f15 (dn 15 (by decide))
    have hb := hb (dn 16 (by decide))
    rw [e6, e13] at hb
    exact hend a w S.df S.ks ⟨g, g6, q6, g13, q13, e, hb, r6, r13⟩ S.be
end
end Go.Proofs.YtoedeedoecdajaaDoor
