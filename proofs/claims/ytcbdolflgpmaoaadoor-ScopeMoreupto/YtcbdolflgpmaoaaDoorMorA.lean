/- A region that draws its order, by an invariant over what has been done: of no program. -/
import Derived.Orders
import Derived.Test.YtcbdolflgpmaoaaDoorWok
namespace Go.Proofs.YtcbdolflgpmaoaaDoor
open Go
set_option linter.unusedVariables false
section
variable {P : Program} {ops : Array Oper} {Q : Exit → Act → World → Prop} {md : Region.Mode}
/-- each operation waits for earlier ones alone -/
def Region.up (md : Region.Mode) (ops : Array Oper) : Bool := (List.range ops.size).all fun i => ((ops[i]?).map (·.after.all fun e => !Region.binds md e || decide (e.on < i))).getD true
theorem up_spec (h : Region.up md ops = true) {i : Nat} {o : Oper} (ho : ops[i]? = some o) : ∀ e ∈ o.after, Region.binds md e = true → e.on < i := by
  intro e he hb
  have hi : i < ops.size := (Array.getElem?_eq_some_iff.1 ho).1
  have h1 := List.all_eq_true.1 h i (List.mem_range.2 hi)
  simp only [ho, Option.map_some, Option.getD_some] at h1
  have h2 := Array.all_eq_true'.1 h1 e he
  simpa [hb] using h2
/-- where nothing is ready all is done -/
theorem ready_nil (hu : Region.up md ops = true) {listed : Array Bool} (hs : listed.size = ops.size) (h : Region.ready md ops listed = []) : ∀ i, i < ops.size → listed.getD i true = true := by
  intro i
  induction i using Nat.strongRecOn with
  | _ i ih =>
    intro hi
    cases hl : listed.getD i true with
    | true => rfl
    | false =>
      obtain ⟨o, ho⟩ : ∃ o, ops[i]? = some o := ⟨_, Array.getElem?_eq_getElem hi⟩
      have hm : i ∈ Region.ready md ops listed := by
        unfold Region.ready
        refine List.mem_filter.2 ⟨List.mem_range.2 hi, ?_⟩
        simp only [hl, Bool.not_false, Bool.true_and, ho, Option.map_some, Option.getD_some]
        refine Array.all_eq_true'.2 fun e he => ?_
        cases hb : Region.binds md e with
        | false => rfl
        | true =>
          have hlt := up_spec hu ho e he hb
          have hd := ih e.on hlt (by omega)
          simp only [Bool.not_true, Bool.false_or]
          rw [Array.getD_eq_getD_getElem?] at hd ⊢
          have : e.on < listed.size := by omega
          rw [Array.getElem?_eq_getElem this] at hd ⊢
          simpa using hd
      rw [h] at hm
      cases hm
/-- how many are left -/
def left (listed : Array Bool) : Nat := listed.toList.countP (fun b => !b)
theorem count_set : ∀ (l : List Bool) (i : Nat) (h : i < l.length), l[i]'h = false → (l.set i true).countP (fun b => !b) + 1 = l.countP (fun b => !b)
  | [], i, h, _ => absurd h (Nat.not_lt_zero _)
  | b :: l, 0, h, hg => by
    simp only [List.getElem_cons_zero] at hg
    subst hg
    simp
  | b :: l, i + 1, h, hg => by
    have ih := count_set l i (by simpa using h) (by simpa using hg)
    simp only [List.set_cons_succ, List.countP_cons]
    omega
theorem left_set {listed : Array Bool} {i : Nat} (hi : i < listed.size) (h : listed.getD i true = false) : left (listed.setIfInBounds i true) + 1 = left listed := by
  unfold left
  rw [Array.getD_eq_getD_getElem?, Array.getElem?_eq_getElem hi] at h
  simp only [Option.getD_some] at h
  have e : (listed.setIfInBounds i true).toList = listed.toList.set i true := by simp
  rw [e]
  exact count_set _ _ (by simpa using hi) (by simpa using h)
/-- an invariant over what has been done, kept by each operation that may come up -/
theorem wpAny_inv (hu : Region.up md ops = true) (I : Array Bool → Act → World → Prop)
    (hstep : ∀ listed a w i, listed.size = ops.size → I listed a w → i ∈ Region.ready md ops listed → wpOp P ops Q i (I (listed.setIfInBounds i true)) a w)
    (hend : ∀ listed a w, listed.size = ops.size → I listed a w → (∀ i, i < ops.size → listed.getD i true = true) → Q .normal a w) :
    ∀ fuel listed a w, listed.size = ops.size → left listed ≤ fuel → I listed a w → wpAny P md ops Q fuel listed a w
  | 0, listed, a, w, hs, hf, h => by
    have all : ∀ i, i < ops.size → listed.getD i true = true := fun i hi => by
      cases hl : listed.getD i true with
      | true => rfl
      | false => have := left_set (by omega) hl; omega
    refine ⟨?_, hend listed a w hs h all⟩
    unfold Region.ready
    refine List.filter_eq_nil_iff.2 fun i hi => ?_
    simp [all i (List.mem_range.1 hi)]
  | fuel + 1, listed, a, w, hs, hf, h => by
    refine ⟨fun hr => hend listed a w hs h (ready_nil hu hs hr), fun i hi => ?_⟩
    refine wpOp_mono (fun a' w' h' => ?_) (hstep listed a w i hs h hi)
    have hm := List.mem_filter.1 hi
    have hlt := List.mem_range.1 hm.1
    have hl : listed.getD i true = false := by
      have := hm.2
      simp only [Bool.and_eq_true, Bool.not_eq_true'] at this
      exact this.1
    have := left_set (by omega) hl
    exact wpAny_inv hu I hstep hend fuel _ a' w' (by simpa using hs) (by omega) h'
/-- the beginning: a region that draws, by such an invariant -/
theorem wp_region_inv {id : Nat} {a : Act} {w : World} (hm : P.follows .mixedOrders = true) (hu : Region.up .any ops = true) (I : Array Bool → Act → World → Prop)
    (hstep : ∀ listed a w i, listed.size = ops.size → I listed a w → i ∈ Region.ready .any ops listed → wpOp P ops Q i (I (listed.setIfInBounds i true)) a w)
    (hend : ∀ listed a w, listed.size = ops.size → I listed a w → (∀ i, i < ops.size → listed.getD i true = true) → Q .normal a w)
    (h : I (Array.replicate ops.size false) a { w with drawn := w.drawn + 1 }) : (Code.region id ops true).wp P Q a w :=
  wp_region_any hm (wpAny_inv hu I hstep hend _ _ _ _ (by simp) (by
    unfold left
    have := List.countP_le_length (p := fun b => !b) (l := (Array.replicate ops.size false).toList)
    simpa using this) h)
end
end Go.Proofs.YtcbdolflgpmaoaaDoor

/- The statement of the law ScopeMore that puts a bind behind a program's: what holds whatever has been done of it, in whatever order. -/
namespace Go.Proofs.YtcbdolflgpmaoaaDoor
open Go.RowKit
set_option linter.unusedVariables false
set_option linter.unusedSimpArgs false

def ops5 : Array Oper := #[{ dst := some 35, op := Op.fieldAddr 25 (Operand.tmp 2) 0, type := 0, pos := "law.go:118", after := #[], guard := none }, { dst := some 36, op := Op.load 22 (Operand.tmp 35), type := 22, pos := "law.go:118", after := #[{ on := 0, ground := Ground.data }], guard := none }, { dst := some 37, op := Op.buildSlice 23 0 #[], type := 23, pos := "law.go:118", after := #[], guard := none }, { dst := some 38, op := Op.fieldAddr 25 (Operand.tmp 2) 1, type := 0, pos := "law.go:118", after := #[], guard := none }, { dst := some 39, op := Op.load 23 (Operand.tmp 38), type := 23, pos := "law.go:118", after := #[{ on := 3, ground := Ground.data }], guard := none }, { dst := some 40, op := Op.call { callee := Callee.builtin Builtin.append, args := #[Operand.tmp 37, Operand.tmp 39], argTypes := #[23, 23] }, type := 23, pos := "law.go:118", after := #[{ on := 2, ground := Ground.data }, { on := 4, ground := Ground.data }], guard := none }, { dst := some 41, op := Op.load 49 (Operand.tmp 7), type := 49, pos := "law.go:118", after := #[], guard := none }, { dst := some 42, op := Op.buildSlice 23 1 #[(0, Operand.tmp 41)], type := 23, pos := "law.go:118", after := #[{ on := 6, ground := Ground.data }], guard := none }, { dst := some 43, op := Op.call { callee := Callee.builtin Builtin.append, args := #[Operand.tmp 40, Operand.tmp 42], argTypes := #[23, 23] }, type := 23, pos := "law.go:118", after := #[{ on := 5, ground := Ground.data }, { on := 7, ground := Ground.data }, { on := 5, ground := Ground.chain }], guard := none }, { dst := some 44, op := Op.build 25 #[(0, Operand.tmp 36), (1, Operand.tmp 43)], type := 25, pos := "law.go:118", after := #[{ on := 1, ground := Ground.data }, { on := 8, ground := Ground.data }], guard := none }, { dst := some 8, op := Op.alloc 25, type := 0, pos := "law.go:118", after := #[], guard := none }, { dst := none, op := Op.store 25 (Operand.tmp 8) (Operand.tmp 44), type := 0, pos := "law.go:118", after := #[{ on := 10, ground := Ground.data }, { on := 9, ground := Ground.data }, { on := 8, ground := Ground.chain }, { on := 0, ground := Ground.phase }, { on := 1, ground := Ground.phase }, { on := 2, ground := Ground.phase }, { on := 3, ground := Ground.phase }, { on := 4, ground := Ground.phase }, { on := 5, ground := Ground.phase }, { on := 6, ground := Ground.phase }, { on := 7, ground := Ground.phase }, { on := 8, ground := Ground.phase }, { on := 9, ground := Ground.phase }, { on := 10, ground := Ground.phase }], guard := none }]
/-- blocks of another type stay -/
def Others (e : TypeId) (w w' : World) : Prop := ∀ g cs t, Bx w g cs t → t ≠ e → Bx w' g cs t
structure AB (z : Nat) (w : World) (g : Nat) : Prop where
  blk : Bx w g #[nl, nl] 25
  ge : z ≤ g
theorem Bx.blw {w w' : World} {g : Nat} {cs : Array Value} {t : TypeId} (h : Bx w g cs t) (k : Below w.heap.size w w') : Bx w' g cs t := (k.block g h.lt).trans h
theorem RowS.others {w w' : World} {base size n : Nat} {e e' : TypeId} {v : Value} {xs : List Value} (h : RowS w base e size v n xs) (ho : Others e' w w') (he : e ≠ e') : RowS w' base e size v n xs := by
  rcases h with h | h
  · exact .inl h
  · refine .inr ⟨h.1, ?_⟩
    rcases h.2 with h | ⟨g, cap, cur, e1, hb, hg, r⟩
    · exact .inl h
    · exact .inr ⟨g, cap, cur, e1, hb, ho g cur e hg he, r⟩
theorem others_grown {w w' : World} {base size n : Nat} {e : TypeId} {v : Value} {xs : List Value} (h : w.ownsRow base e size v n xs) (g : w.grownBy w' v.ownBlock) : Others e w w' := fun b cs t hb ht =>
  (g.block b hb.lt (fun q => by
    rcases h.2 with ⟨rfl, _⟩ | ⟨g', cap, cur, rfl, _, hg, _⟩
    · cases q
    · simp only [Value.ownBlock, Option.some.injEq] at q
      subst q
      have : some (Obj.cells cs t (0, 0)) = some (.cells cur e (0, 0)) := by rw [← hb, ← hg]
      simp only [Option.some.injEq, Obj.cells.injEq] at this
      exact ht this.2.1)).trans hb
theorem others_set {w : World} {g : Nat} {cs : Array Value} (h : Bx w g cs 25) (j : Nat) (u : Value) : Others 25 w (w.setCell ⟨g, j, none⟩ u) := fun b c t hb ht => by
  have hne : b ≠ g := fun q => by
    subst q
    have : some (Obj.cells c t (0, 0)) = some (.cells cs 25 (0, 0)) := by rw [← hb, ← h]
    simp only [Option.some.injEq, Obj.cells.injEq] at this
    exact ht this.2.1
  exact (setCell_block _ _ _ _ hne).trans hb
theorem run_append_O {P : Program} (w : World) (t ty e : TypeId) (base : Nat) (i : TypeInfo) (z : Value) (size bytes : Nat) (ht : P.underlying t = some (.slice e)) (hi : P.info? e = some i) (hz : i.zero = some z)
    (hsize : i.size = size) (hby : i.bytes = bytes) (hzs : z.cells.size = size) (hsz : 0 < size)
    (v : Value) (n : Nat) (xs : List Value) (hown : RowS w base e size v n xs) (ga : Option Addr) (m c : Nat) (news : List Value) (hl : news.length = m * size)
    (hnews : 0 < m → ∃ ad, ga = some ad ∧ ∀ j u, news[j]? = some u → w.cell? (ad.add j) = some u) (h1 : ∀ u ∈ news, u.oneCell' = true)
    (h63 : n + m ≤ maxLen) (hbytes : (n + m) * bytes ≤ 140737488355328) (hbase : base ≤ w.heap.size) :
    ∃ ga' cap' w', (Builtin.append_ #[t, t] ty #[v, .slice ga m c]).run P w = .ok (.slice ga' (n + m) cap') w' ∧ RowS w' base e size (.slice ga' (n + m) cap') (n + m) (xs ++ news) ∧ Below base w w' ∧ Others e w w' := by
  rcases Nat.eq_zero_or_pos m with rfl | hm
  · have hn : news = [] := List.eq_nil_of_length_eq_zero (by simpa using hl)
    subst hn
    obtain ⟨gu, cu, rfl, hle⟩ := hown.le
    exact ⟨gu, cu, w, run_append_zero w t ty e i ht hi gu n cu hle ga c, by simpa using hown, Below.refl _ _, fun _ _ _ h _ => h⟩
  · obtain ⟨ad, rfl, hc⟩ := hnews hm
    rcases hown with ⟨rfl, rfl, g0, rfl⟩ | hown
    · obtain ⟨g, cap, w', hr, h2, h3, _, _⟩ := run_append_lies (P := P) w t ty base e i z size bytes ht hi hz hsize hby hzs hsz (.slice none 0 0) 0 [] (World.ownsRow_nil _ _ _ _) ad m c news hl hc h1 hm h63 hbytes hbase _ rfl
      have hO := others_grown (World.ownsRow_nil w base e size) h3
      have hB := below_grown (World.ownsRow_nil w base e size) h3 hbase
      cases g0 with
      | none => exact ⟨_, cap, w', hr, .inr h2, hB, hO⟩
      | some b =>
        have hsm : m ≤ 9223372036854775807 := by simp only [maxLen] at h63; omega
        have hb2 : m * i.bytes ≤ 140737488355328 := by rw [hby]; simpa using hbytes
        have hn := run_append_nil (P := P) w t ty e i z ht hi hz ad m c news (by rw [hsize]; exact hl) hc hm (by omega) (by omega)
        have hg := run_append_grow (P := P) w t ty e i z ht hi hz b 0 0 [] (by simp) (fun j v h => by simp at h) ad m c news (by rw [hsize]; exact hl) hc (by omega) (by omega) (growslice_fits (by omega) (by simpa using hb2))
        simp only [Nat.zero_add, List.append_nil, List.nil_append, Array.empty_append] at hg
        rw [← hn, hr] at hg
        exact ⟨_, cap, w', hg, .inr h2, hB, hO⟩
    · obtain ⟨g, cap, w', hr, h2, h3, _, _⟩ := run_append_lies (P := P) w t ty base e i z size bytes ht hi hz hsize hby hzs hsz v n xs hown ad m c news hl hc h1 hm h63 hbytes hbase _ rfl
      exact ⟨_, cap, w', hr, .inr h2, below_grown hown h3 hbase, others_grown hown h3⟩
structure C5 where
  a0 : Act
  wz : World
  X : Nat
  Y : Nat
  gd : Option Addr
  ld : Nat
  cd : Nat
  gb : Option Addr
  lb : Nat
  cb : Nat
  xb : List Value
  mc : Array Value
def Dn (L : Array Bool) (k : Nat) : Prop := L.getD k false = true
structure Five (c : C5) (L : Array Bool) (a : Act) (w : World) : Prop where
  df : a.defers = c.a0.defers ∧ a.tmps.size = c.a0.tmps.size
  ks : ∀ t, ¬ (t = 8 ∨ (35 ≤ t ∧ t ≤ 44)) → a.eval (.tmp t) = c.a0.eval (.tmp t)
  be : Below c.wz.heap.size c.wz w
  od : (Dn L 8 → Dn L 5 ∧ Dn L 7) ∧ (Dn L 9 → Dn L 1 ∧ Dn L 8)
  f0 : Dn L 0 → a.eval (.tmp 35) = .pointer (some ⟨c.X, 0, none⟩)
  f1 : Dn L 1 → a.eval (.tmp 36) = .slice c.gd c.ld c.cd
  f2 : Dn L 2 → ∃ ga, a.eval (.tmp 37) = .slice ga 0 0
  f3 : Dn L 3 → a.eval (.tmp 38) = .pointer (some ⟨c.X, 1, none⟩)
  f4 : Dn L 4 → a.eval (.tmp 39) = .slice c.gb c.lb c.cb
  f5 : Dn L 5 → ∃ g k, a.eval (.tmp 40) = .slice g c.lb k ∧ (¬ Dn L 8 → RowS w c.wz.heap.size 49 11 (.slice g c.lb k) c.lb c.xb)
  f6 : Dn L 6 → a.eval (.tmp 41) = .agg c.mc
  f7 : Dn L 7 → ∃ g, a.eval (.tmp 42) = .slice (some ⟨g, 0, none⟩) 1 1 ∧ (¬ Dn L 8 → Bx w g c.mc 49)
  f8 : Dn L 8 → ∃ g k, a.eval (.tmp 43) = .slice g (c.lb + 1) k ∧ RowS w c.wz.heap.size 49 11 (.slice g (c.lb + 1) k) (c.lb + 1) (c.xb ++ c.mc.toList)
  f9 : Dn L 9 → a.eval (.tmp 44) = .agg #[a.eval (.tmp 36), a.eval (.tmp 43)]
  f10 : Dn L 10 → ∃ g, a.eval (.tmp 8) = ptr g ∧ (¬ Dn L 11 → AB c.wz.heap.size w g) ∧ (Dn L 11 → Bx w g #[a.eval (.tmp 36), a.eval (.tmp 43)] 25)
/-- what the statement finds -/
structure G5 (c : C5) : Prop where
  e2 : c.a0.eval (.tmp 2) = ptr c.X
  e7 : c.a0.eval (.tmp 7) = ptr c.Y
  sz : c.a0.tmps.size = 78
  q0 : c.wz.cell? ⟨c.X, 0, none⟩ = some (.slice c.gd c.ld c.cd)
  q1 : c.wz.cell? ⟨c.X, 1, none⟩ = some (.slice c.gb c.lb c.cb)
  y : Bx c.wz c.Y c.mc 49
  m : c.mc.size = 11 ∧ ∀ u ∈ c.mc.toList, u.oneCell' = true
  xl : c.xb.length = c.lb * 11 ∧ ∀ u ∈ c.xb, u.oneCell' = true
  xs : ∀ w, Below c.wz.heap.size c.wz w → 0 < c.lb → ∃ ad, c.gb = some ad ∧ ∀ j u, c.xb[j]? = some u → w.cell? (ad.add j) = some u
  le : c.lb ≤ 1000000000
theorem dn_other {L : Array Bool} {k j : Nat} (h : k ≠ j) : Dn (L.setIfInBounds k true) j ↔ Dn L j := by
  unfold Dn
  rw [Array.getD_eq_getD_getElem?, Array.getD_eq_getD_getElem?, Array.getElem?_setIfInBounds_ne h]
theorem dn_set {L : Array Bool} {k : Nat} (h : k < L.size) : Dn (L.setIfInBounds k true) k := by
  unfold Dn
  rw [Array.getD_eq_getD_getElem?, Array.getElem?_setIfInBounds_self_of_lt h]
  rfl
theorem ev_other {a : Act} {d t : Nat} {v : Value} (h : d ≠ t) : (a.put (some d) v).eval (.tmp t) = a.eval (.tmp t) := Act.eval_put (fun x hx e => by cases hx; cases e; exact h rfl)
theorem ev_same {a : Act} {d : Nat} {v : Value} (h : d < a.tmps.size) : (a.put (some d) v).eval (.tmp d) = v := by
  simp [Act.put, Act.eval, Array.getD_eq_getD_getElem?, h]
theorem cell_be {z : World} {w : World} (h : Below z.heap.size z w) {g j : Nat} {v : Value} (hc : z.cell? ⟨g, j, none⟩ = some v) : w.cell? ⟨g, j, none⟩ = some v := (h.cell (World.block_lt_of_cell? _ _ hc)).trans hc
section
variable {Q : Exit → Act → World → Prop} {K : Act → World → Prop} {c : C5} {L : Array Bool} {a : Act} {w w' : World}
/-- how memory may move between two operations -/
structure Mv (c : C5) (w w' : World) (p : Prop) : Prop where
  be : Below c.wz.heap.size w w'
  row : p → ∀ v n xs, RowS w c.wz.heap.size 49 11 v n xs → RowS w' c.wz.heap.size 49 11 v n xs
  lit : p → ∀ g cs, Bx w g cs 49 → Bx w' g cs 49
  ab : ∀ g, AB c.wz.heap.size w g → AB c.wz.heap.size w' g
theorem Mv.refl : Mv c w w True := ⟨Below.refl _ _, fun _ _ _ _ h => h, fun _ _ _ h => h, fun _ h => h⟩
theorem Mv.low (hz : c.wz.heap.size ≤ w.heap.size) (k : Below w.heap.size w w') : Mv c w w' True := ⟨Joins.below_le k hz, fun _ _ _ _ h => RowS.kept h k, fun _ _ _ h => h.blw k, fun _ h => ⟨h.blk.blw k, h.ge⟩⟩
theorem Mv.alloc (hz : c.wz.heap.size ≤ w.heap.size) (o : Obj) : Mv c w (w.alloc o) True := Mv.low hz (Joins.below_alloc1 w o)
theorem Mv.app (B : Below c.wz.heap.size w w') (O : Others 49 w w') : Mv c w w' False := ⟨B, fun h => h.elim, fun h => h.elim, fun _ h => ⟨O _ _ _ h.blk (by decide), h.ge⟩⟩
theorem put0 {v : Value} (hs : L.size = 12) (S : Five c L a w) (n11 : ¬ Dn L 11) (nk : ¬ Dn L 0) (M : Mv c w w' True) (h0 : (a.put (some 35) v).eval (.tmp 35) = .pointer (some ⟨c.X, 0, none⟩)) : Five c (L.setIfInBounds 0 true) (a.put (some 35) v) w' where
  df := ⟨S.df.1, by rw [← S.df.2]; simp [Act.put]⟩
  ks := fun t ht => by rw [ev_other (fun e => ht (by subst e; decide))]; exact S.ks t ht
  be := S.be.trans M.be
  od := ⟨fun h => ⟨(dn_other (by decide)).2 (S.od.1 ((dn_other (by decide)).1 h)).1, (dn_other (by decide)).2 (S.od.1 ((dn_other (by decide)).1 h)).2⟩, fun h => ⟨(dn_other (by decide)).2 (S.od.2 ((dn_other (by decide)).1 h)).1, (dn_other (by decide)).2 (S.od.2 ((dn_other (by decide)).1 h)).2⟩⟩
  f0 := fun _ => h0
  f1 := fun h => by rw [ev_other (by decide)]; exact S.f1 ((dn_other (by decide)).1 h)
  f2 := fun h => by obtain ⟨g, e⟩ := S.f2 ((dn_other (by decide)).1 h); exact ⟨g, by rw [ev_other (by decide)]; exact e⟩
  f3 := fun h => by rw [ev_other (by decide)]; exact S.f3 ((dn_other (by decide)).1 h)
  f4 := fun h => by rw [ev_other (by decide)]; exact S.f4 ((dn_other (by decide)).1 h)
  f5 := fun h => by obtain ⟨g, q, e, r⟩ := S.f5 ((dn_other (by decide)).1 h); exact ⟨g, q, by rw [ev_other (by decide)]; exact e, fun n => M.row trivial _ _ _ (r (fun x => n ((dn_other (by decide)).2 x)))⟩
  f6 := fun h => by rw [ev_other (by decide)]; exact S.f6 ((dn_other (by decide)).1 h)
  f7 := fun h => by obtain ⟨g, e, r⟩ := S.f7 ((dn_other (by decide)).1 h); exact ⟨g, by rw [ev_other (by decide)]; exact e, fun n => M.lit trivial _ _ (r (fun x => n ((dn_other (by decide)).2 x)))⟩
  f8 := fun h => by obtain ⟨g, q, e, r⟩ := S.f8 ((dn_other (by decide)).1 h); exact ⟨g, q, by rw [ev_other (by decide)]; exact e, M.row trivial _ _ _ r⟩
  f9 := fun h => by have e := S.f9 ((dn_other (by decide)).1 h); rw [ev_other (by decide), ev_other (by decide), ev_other (by decide)]; exact e
  f10 := fun h => by obtain ⟨g, e, r, _⟩ := S.f10 ((dn_other (by decide)).1 h); exact ⟨g, by rw [ev_other (by decide)]; exact e, fun n => M.ab _ (r (fun x => n ((dn_other (by decide)).2 x))), fun x => absurd ((dn_other (by decide)).1 x) n11⟩
theorem put1 {v : Value} (hs : L.size = 12) (S : Five c L a w) (n11 : ¬ Dn L 11) (nk : ¬ Dn L 1) (M : Mv c w w' True) (h1 : (a.put (some 36) v).eval (.tmp 36) = .slice c.gd c.ld c.cd) : Five c (L.setIfInBounds 1 true) (a.put (some 36) v) w' where
  df := ⟨S.df.1, by rw [← S.df.2]; simp [Act.put]⟩
  ks := fun t ht => by rw [ev_other (fun e => ht (by subst e; decide))]; exact S.ks t ht
  be := S.be.trans M.be
  od := ⟨fun h => ⟨(dn_other (by decide)).2 (S.od.1 ((dn_other (by decide)).1 h)).1, (dn_other (by decide)).2 (S.od.1 ((dn_other (by decide)).1 h)).2⟩, fun h => ⟨dn_set (by omega), (dn_other (by decide)).2 (S.od.2 ((dn_other (by decide)).1 h)).2⟩⟩
  f0 := fun h => by rw [ev_other (by decide)]; exact S.f0 ((dn_other (by decide)).1 h)
  f1 := fun _ => h1
  f2 := fun h => by obtain ⟨g, e⟩ := S.f2 ((dn_other (by decide)).1 h); exact ⟨g, by rw [ev_other (by decide)]; exact e⟩
  f3 := fun h => by rw [ev_other (by decide)]; exact S.f3 ((dn_other (by decide)).1 h)
  f4 := fun h => by rw [ev_other (by decide)]; exact S.f4 ((dn_other (by decide)).1 h)
  f5 := fun h => by obtain ⟨g, q, e, r⟩ := S.f5 ((dn_other (by decide)).1 h); exact ⟨g, q, by rw [ev_other (by decide)]; exact e, fun n => M.row trivial _ _ _ (r (fun x => n ((dn_other (by decide)).2 x)))⟩
  f6 := fun h => by rw [ev_other (by decide)]; exact S.f6 ((dn_other (by decide)).1 h)
  f7 := fun h => by obtain ⟨g, e, r⟩ := S.f7 ((dn_other (by decide)).1 h); exact ⟨g, by rw [ev_other (by decide)]; exact e, fun n => M.lit trivial _ _ (r (fun x => n ((dn_other (by decide)).2 x)))⟩
  f8 := fun h => by obtain ⟨g, q, e, r⟩ := S.f8 ((dn_other (by decide)).1 h); exact ⟨g, q, by rw [ev_other (by decide)]; exact e, M.row trivial _ _ _ r⟩
  f9 := fun h => absurd (S.od.2 ((dn_other (by decide)).1 h)).1 nk
  f10 := fun h => by obtain ⟨g, e, r, _⟩ := S.f10 ((dn_other (by decide)).1 h); exact ⟨g, by rw [ev_other (by decide)]; exact e, fun n => M.ab _ (r (fun x => n ((dn_other (by decide)).2 x))), fun x => absurd ((dn_other (by decide)).1 x) n11⟩
theorem put2 {v : Value} (hs : L.size = 12) (S : Five c L a w) (n11 : ¬ Dn L 11) (nk : ¬ Dn L 2) (M : Mv c w w' True) (h2 : ∃ ga, (a.put (some 37) v).eval (.tmp 37) = .slice ga 0 0) : Five c (L.setIfInBounds 2 true) (a.put (some 37) v) w' where
  df := ⟨S.df.1, by rw [← S.df.2]; simp [Act.put]⟩
  ks := fun t ht => by rw [ev_other (fun e => ht (by subst e; decide))]; exact S.ks t ht
  be := S.be.trans M.be
  od := ⟨fun h => ⟨(dn_other (by decide)).2 (S.od.1 ((dn_other (by decide)).1 h)).1, (dn_other (by decide)).2 (S.od.1 ((dn_other (by decide)).1 h)).2⟩, fun h => ⟨(dn_other (by decide)).2 (S.od.2 ((dn_other (by decide)).1 h)).1, (dn_other (by decide)).2 (S.od.2 ((dn_other (by decide)).1 h)).2⟩⟩
  f0 := fun h => by rw [ev_other (by decide)]; exact S.f0 ((dn_other (by decide)).1 h)
  f1 := fun h => by rw [ev_other (by decide)]; exact S.f1 ((dn_other (by decide)).1 h)
  f2 := fun _ => h2
  f3 := fun h => by rw [ev_other (by decide)]; exact S.f3 ((dn_other (by decide)).1 h)
  f4 := fun h => by rw [ev_other (by decide)]; exact S.f4 ((dn_other (by decide)).1 h)
  f5 := fun h => by obtain ⟨g, q, e, r⟩ := S.f5 ((dn_other (by decide)).1 h); exact ⟨g, q, by rw [ev_other (by decide)]; exact e, fun n => M.row trivial _ _ _ (r (fun x => n ((dn_other (by decide)).2 x)))⟩
  f6 := fun h => by rw [ev_other (by decide)]; exact S.f6 ((dn_other (by decide)).1 h)
  f7 := fun h => by obtain ⟨g, e, r⟩ := S.f7 ((dn_other (by decide)).1 h); exact ⟨g, by rw [ev_other (by decide)]; exact e, fun n => M.lit trivial _ _ (r (fun x => n ((dn_other (by decide)).2 x)))⟩
  f8 := fun h => by obtain ⟨g, q, e, r⟩ := S.f8 ((dn_other (by decide)).1 h); exact ⟨g, q, by rw [ev_other (by decide)]; exact e, M.row trivial _ _ _ r⟩
  f9 := fun h => by have e := S.f9 ((dn_other (by decide)).1 h); rw [ev_other (by decide), ev_other (by decide), ev_other (by decide)]; exact e
  f10 := fun h => by obtain ⟨g, e, r, _⟩ := S.f10 ((dn_other (by decide)).1 h); exact ⟨g, by rw [ev_other (by decide)]; exact e, fun n => M.ab _ (r (fun x => n ((dn_other (by decide)).2 x))), fun x => absurd ((dn_other (by decide)).1 x) n11⟩
theorem put3 {v : Value} (hs : L.size = 12) (S : Five c L a w) (n11 : ¬ Dn L 11) (nk : ¬ Dn L 3) (M : Mv c w w' True) (h3 : (a.put (some 38) v).eval (.tmp 38) = .pointer (some ⟨c.X, 1, none⟩)) : Five c (L.setIfInBounds 3 true) (a.put (some 38) v) w' where
  df := ⟨S.df.1, by rw [← S.df.2]; simp [Act.put]⟩
  ks := fun t ht => by rw [ev_other (fun e => ht (by subst e; decide))]; exact S.ks t ht
  be := S.be.trans M.be
  od := ⟨fun h => ⟨(dn_other (by decide)).2 (S.od.1 ((dn_other (by decide)).1 h)).1, (dn_other (by decide)).2 (S.od.1 ((dn_other (by decide)).1 h)).2⟩, fun h => ⟨(dn_other (by decide)).2 (S.od.2 ((dn_other (by decide)).1 h)).1, (dn_other (by decide)).2 (S.od.2 ((dn_other (by decide)).1 h)).2⟩⟩
  f0 := fun h => by rw [ev_other (by decide)]; exact S.f0 ((dn_other (by decide)).1 h)
  f1 := fun h => by rw [ev_other (by decide)]; exact S.f1 ((dn_other (by decide)).1 h)
  f2 := fun h => by obtain ⟨g, e⟩ := S.f2 ((dn_other (by decide)).1 h); exact ⟨g, by rw [ev_other (by decide)]; exact e⟩
  f3 := fun _ => h3
  f4 := fun h => by rw [ev_other (by decide)]; exact S.f4 ((dn_other (by decide)).1 h)
  f5 := fun h => by obtain ⟨g, q, e, r⟩ := S.f5 ((dn_other (by decide)).1 h); exact ⟨g, q, by rw [ev_other (by decide)]; exact e, fun n => M.row trivial _ _ _ (r (fun x => n ((dn_other (by decide)).2 x)))⟩
  f6 := fun h => by rw [ev_other (by decide)]; exact S.f6 ((dn_other (by decide)).1 h)
  f7 := fun h => by obtain ⟨g, e, r⟩ := S.f7 ((dn_other (by decide)).1 h); exact ⟨g, by rw [ev_other (by decide)]; exact e, fun n => M.lit trivial _ _ (r (fun x => n ((dn_other (by decide)).2 x)))⟩
  f8 := fun h => by obtain ⟨g, q, e, r⟩ := S.f8 ((dn_other (by decide)).1 h); exact ⟨g, q, by rw [ev_other (by decide)]; exact e, M.row trivial _ _ _ r⟩
  f9 := fun h => by have e := S.f9 ((dn_other (by decide)).1 h); rw [ev_other (by decide), ev_other (by decide), ev_other (by decide)]; exact e
  f10 := fun h => by obtain ⟨g, e, r, _⟩ := S.f10 ((dn_other (by decide)).1 h); exact ⟨g, by rw [ev_other (by decide)]; exact e, fun n => M.ab _ (r (fun x => n ((dn_other (by decide)).2 x))), fun x => absurd ((dn_other (by decide)).1 x) n11⟩
theorem put4 {v : Value} (hs : L.size = 12) (S : Five c L a w) (n11 : ¬ Dn L 11) (nk : ¬ Dn L 4) (M : Mv c w w' True) (h4 : (a.put (some 39) v).eval (.tmp 39) = .slice c.gb c.lb c.cb) : Five c (L.setIfInBounds 4 true) (a.put (some 39) v) w' where
  df := ⟨S.df.1, by rw [← S.df.2]; simp [Act.put]⟩
  ks := fun t ht => by rw [ev_other (fun e => ht (by subst e; decide))]; exact S.ks t ht
  be := S.be.trans M.be
  od := ⟨fun h => ⟨(dn_other (by decide)).2 (S.od.1 ((dn_other (by decide)).1 h)).1, (dn_other (by decide)).2 (S.od.1 ((dn_other (by decide)).1 h)).2⟩, fun h => ⟨(dn_other (by decide)).2 (S.od.2 ((dn_other (by decide)).1 h)).1, (dn_other (by decide)).2 (S.od.2 ((dn_other (by decide)).1 h)).2⟩⟩
  f0 := fun h => by rw [ev_other (by decide)]; exact S.f0 ((dn_other (by decide)).1 h)
  f1 := fun h => by rw [ev_other (by decide)]; exact S.f1 ((dn_other (by decide)).1 h)
  f2 := fun h => by obtain ⟨g, e⟩ := S.f2 ((dn_other (by decide)).1 h); exact ⟨g, by rw [ev_other (by decide)]; exact e⟩
  f3 := fun h => by rw [ev_other (by decide)]; exact S.f3 ((dn_other (by decide)).1 h)
  f4 := fun _ => h4
  f5 := fun h => by obtain ⟨g, q, e, r⟩ := S.f5 ((dn_other (by decide)).1 h); exact ⟨g, q, by rw [ev_other (by decide)]; exact e, fun n => M.row trivial _ _ _ (r (fun x => n ((dn_other (by decide)).2 x)))⟩
  f6 := fun h => by rw [ev_other (by decide)]; exact S.f6 ((dn_other (by decide)).1 h)
  f7 := fun h => by obtain ⟨g, e, r⟩ := S.f7 ((dn_other (by decide)).1 h); exact ⟨g, by rw [ev_other (by decide)]; exact e, fun n => M.lit trivial _ _ (r (fun x => n ((dn_other (by decide)).2 x)))⟩
  f8 := fun h => by obtain ⟨g, q, e, r⟩ := S.f8 ((dn_other (by decide)).1 h); exact ⟨g, q, by rw [ev_other (by decide)]; exact e, M.row trivial _ _ _ r⟩
  f9 := fun h => by have e := S.f9 ((dn_other (by decide)).1 h); rw [ev_other (by decide), ev_other (by decide), ev_other (by decide)]; exact e
  f10 := fun h => by obtain ⟨g, e, r, _⟩ := S.f10 ((dn_other (by decide)).1 h); exact ⟨g, by rw [ev_other (by decide)]; exact e, fun n => M.ab _ (r (fun x => n ((dn_other (by decide)).2 x))), fun x => absurd ((dn_other (by decide)).1 x) n11⟩
theorem put5 {v : Value} (hs : L.size = 12) (S : Five c L a w) (n11 : ¬ Dn L 11) (nk : ¬ Dn L 5) (M : Mv c w w' True) (h5 : ∃ g k, (a.put (some 40) v).eval (.tmp 40) = .slice g c.lb k ∧ (¬ Dn (L.setIfInBounds 5 true) 8 → RowS w' c.wz.heap.size 49 11 (.slice g c.lb k) c.lb c.xb)) : Five c (L.setIfInBounds 5 true) (a.put (some 40) v) w' where
  df := ⟨S.df.1, by rw [← S.df.2]; simp [Act.put]⟩
  ks := fun t ht => by rw [ev_other (fun e => ht (by subst e; decide))]; exact S.ks t ht
  be := S.be.trans M.be
  od := ⟨fun h => ⟨dn_set (by omega), (dn_other (by decide)).2 (S.od.1 ((dn_other (by decide)).1 h)).2⟩, fun h => ⟨(dn_other (by decide)).2 (S.od.2 ((dn_other (by decide)).1 h)).1, (dn_other (by decide)).2 (S.od.2 ((dn_other (by decide)).1 h)).2⟩⟩
  f0 := fun h => by rw [ev_other (by decide)]; exact S.f0 ((dn_other (by decide)).1 h)
  f1 := fun h => by rw [ev_other (by decide)]; exact S.f1 ((dn_other (by decide)).1 h)
  f2 := fun h => by obtain ⟨g, e⟩ := S.f2 ((dn_other (by decide)).1 h); exact ⟨g, by rw [ev_other (by decide)]; exact e⟩
  f3 := fun h => by rw [ev_other (by decide)]; exact S.f3 ((dn_other (by decide)).1 h)
  f4 := fun h => by rw [ev_other (by decide)]; exact S.f4 ((dn_other (by decide)).1 h)
  f5 := fun _ => h5
  f6 := fun h => by rw [ev_other (by decide)]; exact S.f6 ((dn_other (by decide)).1 h)
  f7 := fun h => by obtain ⟨g, e, r⟩ := S.f7 ((dn_other (by decide)).1 h); exact ⟨g, by rw [ev_other (by decide)]; exact e, fun n => M.lit trivial _ _ (r (fun x => n ((dn_other (by decide)).2 x)))⟩
  f8 := fun h => absurd (S.od.1 ((dn_other (by decide)).1 h)).1 nk
  f9 := fun h => by have e := S.f9 ((dn_other (by decide)).1 h); rw [ev_other (by decide), ev_other (by decide), ev_other (by decide)]; exact e
  f10 := fun h => by obtain ⟨g, e, r, _⟩ := S.f10 ((dn_other (by decide)).1 h); exact ⟨g, by rw [ev_other (by decide)]; exact e, fun n => M.ab _ (r (fun x => n ((dn_other (by decide)).2 x))), fun x => absurd ((dn_other (by decide)).1 x) n11⟩
theorem put6 {v : Value} (hs : L.size = 12) (S : Five c L a w) (n11 : ¬ Dn L 11) (nk : ¬ Dn L 6) (M : Mv c w w' True) (h6 : (a.put (some 41) v).eval (.tmp 41) = .agg c.mc) : Five c (L.setIfInBounds 6 true) (a.put (some 41) v) w' where
  df := ⟨S.df.1, by rw [← S.df.2]; simp [Act.put]⟩
  ks := fun t ht => by rw [ev_other (fun e => ht (by subst e; decide))]; exact S.ks t ht
  be := S.be.trans M.be
  od := ⟨fun h => ⟨(dn_other (by decide)).2 (S.od.1 ((dn_other (by decide)).1 h)).1, (dn_other (by decide)).2 (S.od.1 ((dn_other (by decide)).1 h)).2⟩, fun h => ⟨(dn_other (by decide)).2 (S.od.2 ((dn_other (by decide)).1 h)).1, (dn_other (by decide)).2 (S.od.2 ((dn_other (by decide)).1 h)).2⟩⟩
  f0 := fun h => by rw [ev_other (by decide)]; exact S.f0 ((dn_other (by decide)).1 h)
  f1 := fun h => by rw [ev_other (by decide)]; exact S.f1 ((dn_other (by decide)).1 h)
  f2 := fun h => by obtain ⟨g, e⟩ := S.f2 ((dn_other (by decide)).1 h); exact ⟨g, by rw [ev_other (by decide)]; exact e⟩
  f3 := fun h => by rw [ev_other (by decide)]; exact S.f3 ((dn_other (by decide)).1 h)
  f4 := fun h => by rw [ev_other (by decide)]; exact S.f4 ((dn_other (by decide)).1 h)
  f5 := fun h => by obtain ⟨g, q, e, r⟩ := S.f5 ((dn_other (by decide)).1 h); exact ⟨g, q, by rw [ev_other (by decide)]; exact e, fun n => M.row trivial _ _ _ (r (fun x => n ((dn_other (by decide)).2 x)))⟩
  f6 := fun _ => h6
  f7 := fun h => by obtain ⟨g, e, r⟩ := S.f7 ((dn_other (by decide)).1 h); exact ⟨g, by rw [ev_other (by decide)]; exact e, fun n => M.lit trivial _ _ (r (fun x => n ((dn_other (by decide)).2 x)))⟩
  f8 := fun h => by obtain ⟨g, q, e, r⟩ := S.f8 ((dn_other (by decide)).1 h); exact ⟨g, q, by rw [ev_other (by decide)]; exact e, M.row trivial _ _ _ r⟩
  f9 := fun h => by have e := S.f9 ((dn_other (by decide)).1 h); rw [ev_other (by decide), ev_other (by decide), ev_other (by decide)]; exact e
  f10 := fun h => by obtain ⟨g, e, r, _⟩ := S.f10 ((dn_other (by decide)).1 h); exact ⟨g, by rw [ev_other (by decide)]; exact e, fun n => M.ab _ (r (fun x => n ((dn_other (by decide)).2 x))), fun x => absurd ((dn_other (by decide)).1 x) n11⟩
theorem put7 {v : Value} (hs : L.size = 12) (S : Five c L a w) (n11 : ¬ Dn L 11) (nk : ¬ Dn L 7) (M : Mv c w w' True) (h7 : ∃ g, (a.put (some 42) v).eval (.tmp 42) = .slice (some ⟨g, 0, none⟩) 1 1 ∧ (¬ Dn (L.setIfInBounds 7 true) 8 → Bx w' g c.mc 49)) : Five c (L.setIfInBounds 7 true) (a.put (some 42) v) w' where
  df := ⟨S.df.1, by rw [← S.df.2]; simp [Act.put]⟩
  ks := fun t ht => by rw [ev_other (fun e => ht (by subst e; decide))]; exact S.ks t ht
  be := S.be.trans M.be
  od := ⟨fun h => ⟨(dn_other (by decide)).2 (S.od.1 ((dn_other (by decide)).1 h)).1, dn_set (by omega)⟩, fun h => ⟨(dn_other (by decide)).2 (S.od.2 ((dn_other (by decide)).1 h)).1, (dn_other (by decide)).2 (S.od.2 ((dn_other (by decide)).1 h)).2⟩⟩
  f0 := fun h => by rw [ev_other (by decide)]; exact S.f0 ((dn_other (by decide)).1 h)
  f1 := fun h => by rw [ev_other (by decide)]; exact S.f1 ((dn_other (by decide)).1 h)
  f2 := fun h => by obtain ⟨g, e⟩ := S.f2 ((dn_other (by decide)).1 h); exact ⟨g, by rw [ev_other (by decide)]; exact e⟩
  f3 := fun h => by rw [ev_other (by decide)]; exact S.f3 ((dn_other (by decide)).1 h)
  f4 := fun h => by rw [ev_other (by decide)]; exact S.f4 ((dn_other (by decide)).1 h)
  f5 := fun h => by obtain ⟨g, q, e, r⟩ := S.f5 ((dn_other (by decide)).1 h); exact ⟨g, q, by rw [ev_other (by decide)]; exact e, fun n => M.row trivial _ _ _ (r (fun x => n ((dn_other (by decide)).2 x)))⟩
  f6 := fun h => by rw [ev_other (by decide)]; exact S.f6 ((dn_other (by decide)).1 h)
  f7 := fun _ => h7
  f8 := fun h => absurd (S.od.1 ((dn_other (by decide)).1 h)).2 nk
  f9 := fun h => by have e := S.f9 ((dn_other (by decide)).1 h); rw [ev_other (by decide), ev_other (by decide), ev_other (by decide)]; exact e
  f10 := fun h => by obtain ⟨g, e, r, _⟩ := S.f10 ((dn_other (by decide)).1 h); exact ⟨g, by rw [ev_other (by decide)]; exact e, fun n => M.ab _ (r (fun x => n ((dn_other (by decide)).2 x))), fun x => absurd ((dn_other (by decide)).1 x) n11⟩
theorem put8 {v : Value} (hs : L.size = 12) (S : Five c L a w) (n11 : ¬ Dn L 11) (nk : ¬ Dn L 8) (d5 : Dn L 5) (d7 : Dn L 7) (M : Mv c w w' False) (h8 : ∃ g k, (a.put (some 43) v).eval (.tmp 43) = .slice g (c.lb + 1) k ∧ RowS w' c.wz.heap.size 49 11 (.slice g (c.lb + 1) k) (c.lb + 1) (c.xb ++ c.mc.toList)) : Five c (L.setIfInBounds 8 true) (a.put (some 43) v) w' where
  df := ⟨S.df.1, by rw [← S.df.2]; simp [Act.put]⟩
  ks := fun t ht => by rw [ev_other (fun e => ht (by subst e; decide))]; exact S.ks t ht
  be := S.be.trans M.be
  od := ⟨fun _ => ⟨(dn_other (by decide)).2 d5, (dn_other (by decide)).2 d7⟩, fun h => ⟨(dn_other (by decide)).2 (S.od.2 ((dn_other (by decide)).1 h)).1, dn_set (by omega)⟩⟩
  f0 := fun h => by rw [ev_other (by decide)]; exact S.f0 ((dn_other (by decide)).1 h)
  f1 := fun h => by rw [ev_other (by decide)]; exact S.f1 ((dn_other (by decide)).1 h)
  f2 := fun h => by obtain ⟨g, e⟩ := S.f2 ((dn_other (by decide)).1 h); exact ⟨g, by rw [ev_other (by decide)]; exact e⟩
  f3 := fun h => by rw [ev_other (by decide)]; exact S.f3 ((dn_other (by decide)).1 h)
  f4 := fun h => by rw [ev_other (by decide)]; exact S.f4 ((dn_other (by decide)).1 h)
  f5 := fun h => by obtain ⟨g, q, e, r⟩ := S.f5 ((dn_other (by decide)).1 h); exact ⟨g, q, by rw [ev_other (by decide)]; exact e, fun n => absurd (dn_set (by omega)) n⟩
  f6 := fun h => by rw [ev_other (by decide)]; exact S.f6 ((dn_other (by decide)).1 h)
  f7 := fun h => by obtain ⟨g, e, r⟩ := S.f7 ((dn_other (by decide)).1 h); exact ⟨g, by rw [ev_other (by decide)]; exact e, fun n => absurd (dn_set (by omega)) n⟩
  f8 := fun _ => h8
  f9 := fun h => absurd (S.od.2 ((dn_other (by decide)).1 h)).2 nk
  f10 := fun h => by obtain ⟨g, e, r, _⟩ := S.f10 ((dn_other (by decide)).1 h); exact ⟨g, by rw [ev_other (by decide)]; exact e, fun n => M.ab _ (r (fun x => n ((dn_other (by decide)).2 x))), fun x => absurd ((dn_other (by decide)).1 x) n11⟩
theorem put9 {v : Value} (hs : L.size = 12) (S : Five c L a w) (n11 : ¬ Dn L 11) (nk : ¬ Dn L 9) (d1 : Dn L 1) (d8 : Dn L 8) (M : Mv c w w' True) (h9 : (a.put (some 44) v).eval (.tmp 44) = .agg #[(a.put (some 44) v).eval (.tmp 36), (a.put (some 44) v).eval (.tmp 43)]) : Five c (L.setIfInBounds 9 true) (a.put (some 44) v) w' where
  df := ⟨S.df.1, by rw [← S.df.2]; simp [Act.put]⟩
  ks := fun t ht => by rw [ev_other (fun e => ht (by subst e; decide))]; exact S.ks t ht
  be := S.be.trans M.be
  od := ⟨fun h => ⟨(dn_other (by decide)).2 (S.od.1 ((dn_other (by decide)).1 h)).1, (dn_other (by decide)).2 (S.od.1 ((dn_other (by decide)).1 h)).2⟩, fun _ => ⟨(dn_other (by decide)).2 d1, (dn_other (by decide)).2 d8⟩⟩
  f0 := fun h => by rw [ev_other (by decide)]; exact S.f0 ((dn_other (by decide)).1 h)
  f1 := fun h => by rw [ev_other (by decide)]; exact S.f1 ((dn_other (by decide)).1 h)
  f2 := fun h => by obtain ⟨g, e⟩ := S.f2 ((dn_other (by decide)).1 h); exact ⟨g, by rw [ev_other (by decide)]; exact e⟩
  f3 := fun h => by rw [ev_other (by decide)]; exact S.f3 ((dn_other (by decide)).1 h)
  f4 := fun h => by rw [ev_other (by decide)]; exact S.f4 ((dn_other (by decide)).1 h)
  f5 := fun h => by obtain ⟨g, q, e, r⟩ := S.f5 ((dn_other (by decide)).1 h); exact ⟨g, q, by rw [ev_other (by decide)]; exact e, fun n => M.row trivial _ _ _ (r (fun x => n ((dn_other (by decide)).2 x)))⟩
  f6 := fun h => by rw [ev_other (by decide)]; exact S.f6 ((dn_other (by decide)).1 h)
  f7 := fun h => by obtain ⟨g, e, r⟩ := S.f7 ((dn_other (by decide)).1 h); exact ⟨g, by rw [ev_other (by decide)]; exact e, fun n => M.lit trivial _ _ (r (fun x => n ((dn_other (by decide)).2 x)))⟩
  f8 := fun h => by obtain ⟨g, q, e, r⟩ := S.f8 ((dn_other (by decide)).1 h); exact ⟨g, q, by rw [ev_other (by decide)]; exact e, M.row trivial _ _ _ r⟩
  f9 := fun _ => h9
  f10 := fun h => by obtain ⟨g, e, r, _⟩ := S.f10 ((dn_other (by decide)).1 h); exact ⟨g, by rw [ev_other (by decide)]; exact e, fun n => M.ab _ (r (fun x => n ((dn_other (by decide)).2 x))), fun x => absurd ((dn_other (by decide)).1 x) n11⟩
theorem put10 {v : Value} (hs : L.size = 12) (S : Five c L a w) (n11 : ¬ Dn L 11) (nk : ¬ Dn L 10) (M : Mv c w w' True) (h10 : ∃ g, (a.put (some 8) v).eval (.tmp 8) = ptr g ∧ (¬ Dn (L.setIfInBounds 10 true) 11 → AB c.wz.heap.size w' g) ∧ (Dn (L.setIfInBounds 10 true) 11 → Bx w' g #[(a.put (some 8) v).eval (.tmp 36), (a.put (some 8) v).eval (.tmp 43)] 25)) : Five c (L.setIfInBounds 10 true) (a.put (some 8) v) w' where
  df := ⟨S.df.1, by rw [← S.df.2]; simp [Act.put]⟩
  ks := fun t ht => by rw [ev_other (fun e => ht (by subst e; decide))]; exact S.ks t ht
  be := S.be.trans M.be
  od := ⟨fun h => ⟨(dn_other (by decide)).2 (S.od.1 ((dn_other (by decide)).1 h)).1, (dn_other (by decide)).2 (S.od.1 ((dn_other (by decide)).1 h)).2⟩, fun h => ⟨(dn_other (by decide)).2 (S.od.2 ((dn_other (by decide)).1 h)).1, (dn_other (by decide)).2 (S.od.2 ((dn_other (by decide)).1 h)).2⟩⟩
  f0 := fun h => by rw [ev_other (by decide)]; exact S.f0 ((dn_other (by decide)).1 h)
  f1 := fun h => by rw [ev_other (by decide)]; exact S.f1 ((dn_other (by decide)).1 h)
  f2 := fun h => by obtain ⟨g, e⟩ := S.f2 ((dn_other (by decide)).1 h); exact ⟨g, by rw [ev_other (by decide)]; exact e⟩
  f3 := fun h => by rw [ev_other (by decide)]; exact S.f3 ((dn_other (by decide)).1 h)
  f4 := fun h => by rw [ev_other (by decide)]; exact S.f4 ((dn_other (by decide)).1 h)
  f5 := fun h => by obtain ⟨g, q, e, r⟩ := S.f5 ((dn_other (by decide)).1 h); exact ⟨g, q, by rw [ev_other (by decide)]; exact e, fun n => M.row trivial _ _ _ (r (fun x => n ((dn_other (by decide)).2 x)))⟩
  f6 := fun h => by rw [ev_other (by decide)]; exact S.f6 ((dn_other (by decide)).1 h)
  f7 := fun h => by obtain ⟨g, e, r⟩ := S.f7 ((dn_other (by decide)).1 h); exact ⟨g, by rw [ev_other (by decide)]; exact e, fun n => M.lit trivial _ _ (r (fun x => n ((dn_other (by decide)).2 x)))⟩
  f8 := fun h => by obtain ⟨g, q, e, r⟩ := S.f8 ((dn_other (by decide)).1 h); exact ⟨g, q, by rw [ev_other (by decide)]; exact e, M.row trivial _ _ _ r⟩
  f9 := fun h => by have e := S.f9 ((dn_other (by decide)).1 h); rw [ev_other (by decide), ev_other (by decide), ev_other (by decide)]; exact e
  f10 := fun _ => h10
theorem wp_of {P : Program} {ops : Array Oper} {i : Nat} {o : Oper} (ho : ops[i]? = some o) (hg : o.guard = none) (h : o.wp P a w K Q) : wpOp P ops Q i K a w := by
  unfold wpOp
  rw [ho]
  simp only [Region.wanted, hg]
  exact .inl h
set_option maxRecDepth 100000 in
theorem t_addr {o : Oper} {s : Operand} {g j : Nat} (hop : o.op = .fieldAddr 25 s j) (hj : j = 0 ∨ j = 1) (h : a.eval s = ptr g) (hK : K (a.put o.dst (.pointer (some ⟨g, j, none⟩))) w) : o.wp Tryd.prog a w K Q := by
  have e : (Instr.fieldAt 25 (ptr g) j).run Tryd.prog w = .ok (.pointer (some ⟨g, j, none⟩)) w := by
    rcases hj with rfl | rfl
    · simp [Instr.fieldAt, go_sem, Tryd.underlying25]
    · simp [Instr.fieldAt, go_sem, Tryd.underlying25]
  unfold Oper.wp execOp
  rw [hop]
  simp only [h, Sem.run_bind, Sem.run_pure, Result.andThen_ok, e]
  exact hK
set_option maxRecDepth 100000 in
theorem t_alloc {o : Oper} (hop : o.op = .alloc 25) (hK : K (a.put o.dst (ptr w.heap.size)) (w.alloc (.cells #[nl, nl] 25))) : o.wp Tryd.prog a w K Q := by
  have e : (Instr.alloc 25 true (Value.tuple #[])).run Tryd.prog w = .ok (ptr w.heap.size) (w.alloc (.cells #[nl, nl] 25)) := by kernel_rfl
  unfold Oper.wp execOp
  rw [hop]
  simp only [Sem.run_bind, Sem.run_pure, Result.andThen_ok, e]
  exact hK
set_option maxRecDepth 100000 in
theorem t_build {o : Oper} {s x : Operand} {gu gv : Option Addr} {nu nv cu cv : Nat} (hop : o.op = .build 25 #[(0, s), (1, x)]) (h1 : a.eval s = .slice gu nu cu) (h2 : a.eval x = .slice gv nv cv) (hK : K (a.put o.dst (.agg #[.slice gu nu cu, .slice gv nv cv])) w) : o.wp Tryd.prog a w K Q := by
  have e : (Instr.build 25 #[(0, .slice gu nu cu), (1, .slice gv nv cv)]).run Tryd.prog w = .ok (.agg #[.slice gu nu cu, .slice gv nv cv]) w := by kernel_rfl
  unfold Oper.wp execOp
  rw [hop]
  simp only [List.map_toArray, List.map_cons, List.map_nil, h1, h2, Sem.run_bind, Sem.run_pure, Result.andThen_ok, e]
  exact hK
set_option maxRecDepth 100000 in
theorem t_load {o : Oper} {s : Operand} {t : TypeId} {g j : Nat} {v : Value} (ht : t = 22 ∨ t = 23) (hop : o.op = .load t s) (h : a.eval s = .pointer (some ⟨g, j, none⟩)) (hc : w.cell? ⟨g, j, none⟩ = some v) (hK : K (a.put o.dst v) w) : o.wp Tryd.prog a w K Q := by
  have e : (Instr.loadAt t (.pointer (some ⟨g, j, none⟩))).run Tryd.prog w = .ok v w := by
    rcases ht with rfl | rfl
    · simp [Instr.loadAt, go_sem, hc, Tryd.underlying22]
    · simp [Instr.loadAt, go_sem, hc, Tryd.underlying23]
  unfold Oper.wp execOp
  rw [hop]
  simp only [h, Sem.run_bind, Sem.run_pure, Result.andThen_ok, e]
  exact hK
set_option maxRecDepth 100000 in
theorem t_lit {o : Oper} (hop : o.op = .buildSlice 23 0 #[]) (hK : ∀ ga x, K (a.put o.dst (.slice ga 0 0)) (w.alloc x)) : o.wp Tryd.prog a w K Q := by
  unfold Oper.wp execOp
  rw [hop]
  simp [Sem.run_bind, Sem.run_pure, Result.andThen_ok, go_sem, Tryd.underlying23]
  exact hK _ _
theorem size49 : (Tryd.prog.info? 49).map (·.size) = some 11 := by kernel_rfl
theorem t_append {P : Program} {o : Oper} (s x : Operand) (t : TypeId) (ho : o.op = .call { callee := .builtin .append, args := #[s, x], argTypes := #[t, t] })
    (base : Nat) (e : TypeId) (i : TypeInfo) (z : Value) (size bytes : Nat) (ht : P.underlying t = some (.slice e)) (hi : P.info? e = some i) (hz : i.zero = some z)
    (hsize : i.size = size) (hby : i.bytes = bytes) (hzs : z.cells.size = size) (hsz : 0 < size)
    (v : Value) (n : Nat) (xs : List Value) (hs : a.eval s = v) (hown : RowS w base e size v n xs)
    (ga : Option Addr) (m k : Nat) (news : List Value) (hx : a.eval x = .slice ga m k) (hl : news.length = m * size) (hnews : 0 < m → ∃ ad, ga = some ad ∧ ∀ j u, news[j]? = some u → w.cell? (ad.add j) = some u) (h1 : ∀ u ∈ news, u.oneCell' = true)
    (h63 : n + m ≤ maxLen) (hbytes : (n + m) * bytes ≤ 140737488355328) (hbase : base ≤ w.heap.size)
    (h : ∀ ga' cap' w', RowS w' base e size (.slice ga' (n + m) cap') (n + m) (xs ++ news) → Below base w w' → Others e w w' → K (a.put o.dst (.slice ga' (n + m) cap')) w') : o.wp P a w K Q := by
  obtain ⟨ga', cap', w', hr, h2, h3, h4⟩ := run_append_O (P := P) w t o.type e base i z size bytes ht hi hz hsize hby hzs hsz v n xs hown ga m k news hl hnews h1 h63 hbytes hbase
  unfold Oper.wp execOp
  simp only [ho, resolve, invoke, builtin, Sem.run_bind, Sem.run_pure, Result.andThen_ok, List.map_toArray, List.map_cons, List.map_nil, hs, hx, hr]
  exact h ga' cap' w' h2 h3 h4
end
theorem RowS.lower {w : World} {b b' size n : Nat} {e : TypeId} {v : Value} {xs : List Value} (h : RowS w b e size v n xs) (hb : b' ≤ b) : RowS w b' e size v n xs := by
  rcases h with h | h
  · exact .inl h
  · refine .inr ⟨h.1, ?_⟩
    rcases h.2 with h | ⟨g, cap, cur, e1, hg, r⟩
    · exact .inl h
    · exact .inr ⟨g, cap, cur, e1, Nat.le_trans hb hg, r⟩
/-- an array of eleven values, written out -/
theorem eleven {m : Array Value} (h : m.size = 11) : ∃ a0 a1 a2 a3 a4 a5 a6 a7 a8 a9 a10, m = #[a0, a1, a2, a3, a4, a5, a6, a7, a8, a9, a10] := by
  obtain ⟨l⟩ := m
  match l, h with
  | [a0, a1, a2, a3, a4, a5, a6, a7, a8, a9, a10], _ => exact ⟨_, _, _, _, _, _, _, _, _, _, _, rfl⟩
section
variable {Q : Exit → Act → World → Prop} {K : Act → World → Prop} {c : C5} {L : Array Bool} {a : Act} {w w' : World}
set_option maxRecDepth 100000 in
theorem t_load49 {o : Oper} {s : Operand} {g : Nat} {mc : Array Value} (hop : o.op = .load 49 s) (h : a.eval s = ptr g) (hb : Bx w g mc 49) (hm : mc.size = 11) (hK : K (a.put o.dst (.agg mc)) w) : o.wp Tryd.prog a w K Q := by
  obtain ⟨a0, a1, a2, a3, a4, a5, a6, a7, a8, a9, a10, rfl⟩ := eleven hm
  have e : (Instr.loadAt 49 (ptr g)).run Tryd.prog w = .ok (.agg #[a0, a1, a2, a3, a4, a5, a6, a7, a8, a9, a10]) w := by
    have c0 := hb.cell 0
    have c1 := hb.cell 1
    have c2 := hb.cell 2
    have c3 := hb.cell 3
    have c4 := hb.cell 4
    have c5 := hb.cell 5
    have c6 := hb.cell 6
    have c7 := hb.cell 7
    have c8 := hb.cell 8
    have c9 := hb.cell 9
    have c10 := hb.cell 10
    simp at c0 c1 c2 c3 c4 c5 c6 c7 c8 c9 c10
    simp [Instr.loadAt, go_sem, c0, c1, c2, c3, c4, c5, c6, c7, c8, c9, c10, Tryd.underlying49]
  unfold Oper.wp execOp
  rw [hop]
  simp only [h, Sem.run_bind, Sem.run_pure, Result.andThen_ok, e]
  exact hK
set_option maxRecDepth 100000 in
theorem t_lit1 {o : Oper} {s : Operand} {mc : Array Value} (hop : o.op = .buildSlice 23 1 #[(0, s)]) (h : a.eval s = .agg mc) (hm : mc.size = 11) (hK : K (a.put o.dst (.slice (some ⟨w.heap.size, 0, none⟩) 1 1)) (w.alloc (.cells mc 49))) : o.wp Tryd.prog a w K Q := by
  obtain ⟨a0, a1, a2, a3, a4, a5, a6, a7, a8, a9, a10, rfl⟩ := eleven hm
  have e : (Instr.buildSlice 23 1 #[(0, .agg #[a0, a1, a2, a3, a4, a5, a6, a7, a8, a9, a10])]).run Tryd.prog w = .ok (.slice (some ⟨w.heap.size, 0, none⟩) 1 1) (w.alloc (.cells #[a0, a1, a2, a3, a4, a5, a6, a7, a8, a9, a10] 49)) := by kernel_rfl
  unfold Oper.wp execOp
  rw [hop]
  simp only [List.map_toArray, List.map_cons, List.map_nil, h, Sem.run_bind, Sem.run_pure, Result.andThen_ok, e]
  exact hK
set_option maxRecDepth 100000 in
theorem t_store {o : Oper} {s x : Operand} {g : Nat} {gu gv : Option Addr} {nu nv cu cv : Nat} (hop : o.op = .store 25 s x) (hd : o.dst = none) (h : a.eval s = ptr g) (h2 : a.eval x = .agg #[.slice gu nu cu, .slice gv nv cv]) (hb : Bx w g #[nl, nl] 25) (hK : K a ((w.setCell ⟨g, 0, none⟩ (.slice gu nu cu)).setCell ⟨g, 1, none⟩ (.slice gv nv cv))) : o.wp Tryd.prog a w K Q := by
  have c0 : w.cell? ⟨g, 0, none⟩ = some nl := hb.cell 0
  have c1 : w.cell? ⟨g, 1, none⟩ = some nl := hb.cell 1
  have z0 : w.frozen? ⟨g, 0, none⟩ = false := Joins.unfrozen_of_block hb 0
  have z1 : w.frozen? ⟨g, 1, none⟩ = false := Joins.unfrozen_of_block hb 1
  have e : (Instr.storeAt 25 (ptr g) (.agg #[.slice gu nu cu, .slice gv nv cv])).run Tryd.prog w = .ok () ((w.setCell ⟨g, 0, none⟩ (.slice gu nu cu)).setCell ⟨g, 1, none⟩ (.slice gv nv cv)) := by
    simp [Instr.storeAt, go_sem, Tryd.underlying25, c0, c1, z0, z1]
  unfold Oper.wp execOp
  rw [hop]
  simp only [h, h2, Sem.run_bind, Sem.run_pure, Result.andThen_ok, e]
  simpa [Oper.upon, hd, Act.put] using hK
theorem rdy {i : Nat} (h : i ∈ Region.ready .any ops5 L) : i < 12 ∧ L.getD i true = false ∧ ∀ o, ops5[i]? = some o → ∀ e ∈ o.after, Region.binds .any e = true → Dn L e.on := by
  have hm := List.mem_filter.1 h
  have h1 := List.mem_range.1 hm.1
  have h2 := hm.2
  simp only [Bool.and_eq_true, Bool.not_eq_true'] at h2
  refine ⟨h1, h2.1, fun o ho e he hb => ?_⟩
  have h3 := h2.2
  rw [ho] at h3
  simp only [Option.map_some, Option.getD_some] at h3
  have h4 := Array.all_eq_true'.1 h3 e he
  simpa [hb, Dn] using h4
theorem nd_of (hs : L.size = 12) {i : Nat} (hi : i < 12) (h : L.getD i true = false) : ¬ Dn L i := by
  unfold Dn
  rw [Array.getD_eq_getD_getElem?, Array.getElem?_eq_getElem (by omega)] at h ⊢
  simpa using h
/-- the last one done: all done -/
def Last (L : Array Bool) : Prop := Dn L 11 → ∀ k, k < 11 → Dn L k
set_option maxRecDepth 100000 in
theorem step_0 (G : G5 c) (hs : L.size = 12) (S : Five c L a w) (hL : Last L) (hi : 0 ∈ Region.ready .any ops5 L) : wpOp Tryd.prog ops5 Q 0 (fun a' w' => Five c (L.setIfInBounds 0 true) a' w' ∧ Last (L.setIfInBounds 0 true)) a w := by
  obtain ⟨hlt, hl, hd⟩ := rdy hi
  have nk := nd_of hs hlt hl
  have n11 : ¬ Dn L 11 := fun h => nk (hL h 0 (by decide))
  have last : Last (L.setIfInBounds 0 true) := fun h => absurd ((dn_other (by decide)).1 h) n11
  have hw : ∀ d, d < 78 → d < a.tmps.size := fun d h => by rw [S.df.2, G.sz]; exact h
  exact wp_of (o := _) rfl rfl (t_addr rfl (.inl rfl) ((S.ks 2 (by decide)).trans G.e2) ⟨put0 hs S n11 nk Mv.refl (ev_same (hw 35 (by decide))), last⟩)
set_option maxRecDepth 100000 in
theorem step_1 (G : G5 c) (hs : L.size = 12) (S : Five c L a w) (hL : Last L) (hi : 1 ∈ Region.ready .any ops5 L) : wpOp Tryd.prog ops5 Q 1 (fun a' w' => Five c (L.setIfInBounds 1 true) a' w' ∧ Last (L.setIfInBounds 1 true)) a w := by
  obtain ⟨hlt, hl, hd⟩ := rdy hi
  have nk := nd_of hs hlt hl
  have n11 : ¬ Dn L 11 := fun h => nk (hL h 1 (by decide))
  have last : Last (L.setIfInBounds 1 true) := fun h => absurd ((dn_other (by decide)).1 h) n11
  have hw : ∀ d, d < 78 → d < a.tmps.size := fun d h => by rw [S.df.2, G.sz]; exact h
  have d0 : Dn L 0 := hd _ rfl { on := 0, ground := Ground.data } (by simp [ops5]) (by rfl)
  exact wp_of (o := _) rfl rfl (t_load (.inl rfl) rfl (S.f0 d0) (cell_be S.be G.q0) ⟨put1 hs S n11 nk Mv.refl (ev_same (hw 36 (by decide))), last⟩)
set_option maxRecDepth 100000 in
theorem step_2 (G : G5 c) (hs : L.size = 12) (S : Five c L a w) (hL : Last L) (hi : 2 ∈ Region.ready .any ops5 L) : wpOp Tryd.prog ops5 Q 2 (fun a' w' => Five c (L.setIfInBounds 2 true) a' w' ∧ Last (L.setIfInBounds 2 true)) a w := by
  obtain ⟨hlt, hl, hd⟩ := rdy hi
  have nk := nd_of hs hlt hl
  have n11 : ¬ Dn L 11 := fun h => nk (hL h 2 (by decide))
  have last : Last (L.setIfInBounds 2 true) := fun h => absurd ((dn_other (by decide)).1 h) n11
  have hw : ∀ d, d < 78 → d < a.tmps.size := fun d h => by rw [S.df.2, G.sz]; exact h
  exact wp_of (o := _) rfl rfl (t_lit rfl (fun ga x => ⟨put2 hs S n11 nk (Mv.alloc S.be.size x) ⟨ga, ev_same (hw 37 (by decide))⟩, last⟩))
set_option maxRecDepth 100000 in
theorem step_3 (G : G5 c) (hs : L.size = 12) (S : Five c L a w) (hL : Last L) (hi : 3 ∈ Region.ready .any ops5 L) : wpOp Tryd.prog ops5 Q 3 (fun a' w' => Five c (L.setIfInBounds 3 true) a' w' ∧ Last (L.setIfInBounds 3 true)) a w := by
  obtain ⟨hlt, hl, hd⟩ := rdy hi
  have nk := nd_of hs hlt hl
  have n11 : ¬ Dn L 11 := fun h => nk (hL h 3 (by decide))
  have last : Last (L.setIfInBounds 3 true) := fun h => absurd ((dn_other (by decide)).1 h) n11
  have hw : ∀ d, d < 78 → d < a.tmps.size := fun d h => by rw [S.df.2, G.sz]; exact h
  exact wp_of (o := _) rfl rfl (t_addr rfl (.inr rfl) ((S.ks 2 (by decide)).trans G.e2) ⟨put3 hs S n11 nk Mv.refl (ev_same (hw 38 (by decide))), last⟩)
set_option maxRecDepth 100000 in
theorem step_4 (G : G5 c) (hs : L.size = 12) (S : Five c L a w) (hL : Last L) (hi : 4 ∈ Region.ready .any ops5 L) : wpOp Tryd.prog ops5 Q 4 (fun a' w' => Five c (L.setIfInBounds 4 true) a' w' ∧ Last (L.setIfInBounds 4 true)) a w := by
  obtain ⟨hlt, hl, hd⟩ := rdy hi
  have nk := nd_of hs hlt hl
  have n11 : ¬ Dn L 11 := fun h => nk (hL h 4 (by decide))
  have last : Last (L.setIfInBounds 4 true) := fun h => absurd ((dn_other (by decide)).1 h) n11
  have hw : ∀ d, d < 78 → d < a.tmps.size := fun d h => by rw [S.df.2, G.sz]; exact h
  have d3 : Dn L 3 := hd _ rfl { on := 3, ground := Ground.data } (by simp [ops5]) (by rfl)
  exact wp_of (o := _) rfl rfl (t_load (.inr rfl) rfl (S.f3 d3) (cell_be S.be G.q1) ⟨put4 hs S n11 nk Mv.refl (ev_same (hw 39 (by decide))), last⟩)
set_option maxRecDepth 100000 in
theorem step_5 (G : G5 c) (hs : L.size = 12) (S : Five c L a w) (hL : Last L) (hi : 5 ∈ Region.ready .any ops5 L) : wpOp Tryd.prog ops5 Q 5 (fun a' w' => Five c (L.setIfInBounds 5 true) a' w' ∧ Last (L.setIfInBounds 5 true)) a w := by
  obtain ⟨hlt, hl, hd⟩ := rdy hi
  have nk := nd_of hs hlt hl
  have n11 : ¬ Dn L 11 := fun h => nk (hL h 5 (by decide))
  have last : Last (L.setIfInBounds 5 true) := fun h => absurd ((dn_other (by decide)).1 h) n11
  have hw : ∀ d, d < 78 → d < a.tmps.size := fun d h => by rw [S.df.2, G.sz]; exact h
  have d2 : Dn L 2 := hd _ rfl { on := 2, ground := Ground.data } (by simp [ops5]) (by rfl)
  have d4 : Dn L 4 := hd _ rfl { on := 4, ground := Ground.data } (by simp [ops5]) (by rfl)
  obtain ⟨ga, e0⟩ := S.f2 d2
  obtain ⟨bi, bh, bz0, bz1, bz2⟩ := info_parts info49
  have le := G.le
  exact wp_of (o := _) rfl rfl (t_append (.tmp 37) (.tmp 39) 23 rfl w.heap.size 49 bi _ 11 184 Tryd.underlying23 bh bz0 bz1 bz2 rfl (by decide) _ 0 [] e0 (.inl ⟨rfl, rfl, _, rfl⟩) c.gb c.lb c.cb c.xb (S.f4 d4) G.xl.1 (G.xs w S.be) G.xl.2 (by unfold maxLen; omega) (by omega) (Nat.le_refl _) (fun g q w' r B O => ⟨put5 hs S n11 nk (Mv.low S.be.size B) ⟨g, q, by rw [Nat.zero_add]; exact ev_same (hw 40 (by decide)), fun _ => RowS.lower (by simpa using r) S.be.size⟩, last⟩))
set_option maxRecDepth 100000 in
theorem step_6 (G : G5 c) (hs : L.size = 12) (S : Five c L a w) (hL : Last L) (hi : 6 ∈ Region.ready .any ops5 L) : wpOp Tryd.prog ops5 Q 6 (fun a' w' => Five c (L.setIfInBounds 6 true) a' w' ∧ Last (L.setIfInBounds 6 true)) a w := by
  obtain ⟨hlt, hl, hd⟩ := rdy hi
  have nk := nd_of hs hlt hl
  have n11 : ¬ Dn L 11 := fun h => nk (hL h 6 (by decide))
  have last : Last (L.setIfInBounds 6 true) := fun h => absurd ((dn_other (by decide)).1 h) n11
  have hw : ∀ d, d < 78 → d < a.tmps.size := fun d h => by rw [S.df.2, G.sz]; exact h
  exact wp_of (o := _) rfl rfl (t_load49 rfl ((S.ks 7 (by decide)).trans G.e7) (show Bx w c.Y c.mc 49 from (S.be.block _ G.y.lt).trans G.y) G.m.1 ⟨put6 hs S n11 nk Mv.refl (ev_same (hw 41 (by decide))), last⟩)
set_option maxRecDepth 100000 in
theorem step_7 (G : G5 c) (hs : L.size = 12) (S : Five c L a w) (hL : Last L) (hi : 7 ∈ Region.ready .any ops5 L) : wpOp Tryd.prog ops5 Q 7 (fun a' w' => Five c (L.setIfInBounds 7 true) a' w' ∧ Last (L.setIfInBounds 7 true)) a w := by
  obtain ⟨hlt, hl, hd⟩ := rdy hi
  have nk := nd_of hs hlt hl
  have n11 : ¬ Dn L 11 := fun h => nk (hL h 7 (by decide))
  have last : Last (L.setIfInBounds 7 true) := fun h => absurd ((dn_other (by decide)).1 h) n11
  have hw : ∀ d, d < 78 → d < a.tmps.size := fun d h => by rw [S.df.2, G.sz]; exact h
  have d6 : Dn L 6 := hd _ rfl { on := 6, ground := Ground.data } (by simp [ops5]) (by rfl)
  exact wp_of (o := _) rfl rfl (t_lit1 rfl (S.f6 d6) G.m.1 ⟨put7 hs S n11 nk (Mv.alloc S.be.size _) ⟨w.heap.size, ev_same (hw 42 (by decide)), fun _ => heap_alloc_new w _⟩, last⟩)
set_option maxRecDepth 100000 in
theorem step_8 (G : G5 c) (hs : L.size = 12) (S : Five c L a w) (hL : Last L) (hi : 8 ∈ Region.ready .any ops5 L) : wpOp Tryd.prog ops5 Q 8 (fun a' w' => Five c (L.setIfInBounds 8 true) a' w' ∧ Last (L.setIfInBounds 8 true)) a w := by
  obtain ⟨hlt, hl, hd⟩ := rdy hi
  have nk := nd_of hs hlt hl
  have n11 : ¬ Dn L 11 := fun h => nk (hL h 8 (by decide))
  have last : Last (L.setIfInBounds 8 true) := fun h => absurd ((dn_other (by decide)).1 h) n11
  have hw : ∀ d, d < 78 → d < a.tmps.size := fun d h => by rw [S.df.2, G.sz]; exact h
  have d5 : Dn L 5 := hd _ rfl { on := 5, ground := Ground.data } (by simp [ops5]) (by rfl)
  have d7 : Dn L 7 := hd _ rfl { on := 7, ground := Ground.data } (by simp [ops5]) (by rfl)
  obtain ⟨g0, q0, e0, r0'⟩ := S.f5 d5
  obtain ⟨g1, e1, r1'⟩ := S.f7 d7
  have r0 : ¬ Dn L 8 → _ := r0'
  have r1 : ¬ Dn L 8 → Bx w g1 c.mc 49 := r1'
  obtain ⟨bi, bh, bz0, bz1, bz2⟩ := info_parts info49
  have le := G.le
  exact wp_of (o := _) rfl rfl (t_append (.tmp 40) (.tmp 42) 23 rfl c.wz.heap.size 49 bi _ 11 184 Tryd.underlying23 bh bz0 bz1 bz2 rfl (by decide) _ c.lb c.xb e0 (r0 nk) (some ⟨g1, 0, none⟩) 1 1 c.mc.toList e1 (by simp [G.m.1]) (fun _ => ⟨_, rfl, fun j u hj => by have := (r1 nk).cell j; rw [show ((⟨g1, 0, none⟩ : Addr).add j) = ⟨g1, j, none⟩ by unfold Addr.add; split <;> simp_all, this]; simpa using hj⟩) G.m.2 (by unfold maxLen; omega) (by omega) S.be.size (fun g q w' r B O => ⟨put8 hs S n11 nk d5 d7 (Mv.app B O) ⟨g, q, ev_same (hw 43 (by decide)), r⟩, last⟩))
set_option maxRecDepth 100000 in
theorem step_9 (G : G5 c) (hs : L.size = 12) (S : Five c L a w) (hL : Last L) (hi : 9 ∈ Region.ready .any ops5 L) : wpOp Tryd.prog ops5 Q 9 (fun a' w' => Five c (L.setIfInBounds 9 true) a' w' ∧ Last (L.setIfInBounds 9 true)) a w := by
  obtain ⟨hlt, hl, hd⟩ := rdy hi
  have nk := nd_of hs hlt hl
  have n11 : ¬ Dn L 11 := fun h => nk (hL h 9 (by decide))
  have last : Last (L.setIfInBounds 9 true) := fun h => absurd ((dn_other (by decide)).1 h) n11
  have hw : ∀ d, d < 78 → d < a.tmps.size := fun d h => by rw [S.df.2, G.sz]; exact h
  have d1 : Dn L 1 := hd _ rfl { on := 1, ground := Ground.data } (by simp [ops5]) (by rfl)
  have d8 : Dn L 8 := hd _ rfl { on := 8, ground := Ground.data } (by simp [ops5]) (by rfl)
  obtain ⟨g8, q8, e8, r8⟩ := S.f8 d8
  exact wp_of (o := _) rfl rfl (t_build rfl (S.f1 d1) e8 ⟨put9 hs S n11 nk d1 d8 Mv.refl (by rw [ev_same (hw 44 (by decide)), ev_other (by decide), ev_other (by decide), S.f1 d1, e8]), last⟩)
set_option maxRecDepth 100000 in
theorem step_10 (G : G5 c) (hs : L.size = 12) (S : Five c L a w) (hL : Last L) (hi : 10 ∈ Region.ready .any ops5 L) : wpOp Tryd.prog ops5 Q 10 (fun a' w' => Five c (L.setIfInBounds 10 true) a' w' ∧ Last (L.setIfInBounds 10 true)) a w := by
  obtain ⟨hlt, hl, hd⟩ := rdy hi
  have nk := nd_of hs hlt hl
  have n11 : ¬ Dn L 11 := fun h => nk (hL h 10 (by decide))
  have last : Last (L.setIfInBounds 10 true) := fun h => absurd ((dn_other (by decide)).1 h) n11
  have hw : ∀ d, d < 78 → d < a.tmps.size := fun d h => by rw [S.df.2, G.sz]; exact h
  exact wp_of (o := _) rfl rfl (t_alloc rfl ⟨put10 hs S n11 nk (Mv.alloc S.be.size _) ⟨w.heap.size, ev_same (hw 8 (by decide)), fun _ => ⟨heap_alloc_new w _, S.be.size⟩, fun x => absurd ((dn_other (by decide)).1 x) n11⟩, last⟩)
theorem fin_set {z : Nat} {w : World} {g : Nat} {vD vB : Value} {m : Nat} {xB : List Value} (A : AB z w g) (B : RowS w z 49 11 vB m xB) : (Bx ((w.setCell ⟨g, 0, none⟩ vD).setCell ⟨g, 1, none⟩ vB) g #[vD, vB] 25 ∧ RowS ((w.setCell ⟨g, 0, none⟩ vD).setCell ⟨g, 1, none⟩ vB) z 49 11 vB m xB) ∧ Below z w ((w.setCell ⟨g, 0, none⟩ vD).setCell ⟨g, 1, none⟩ vB) := by
  have h1 : Bx (w.setCell ⟨g, 0, none⟩ vD) g #[vD, nl] 25 := Joins.block_setCell (i := 0) A.blk vD
  have h2 : Bx ((w.setCell ⟨g, 0, none⟩ vD).setCell ⟨g, 1, none⟩ vB) g #[vD, vB] 25 := Joins.block_setCell (i := 1) h1 vB
  refine ⟨⟨h2, (B.others (others_set A.blk 0 vD) (by decide)).others (others_set h1 1 vB) (by decide)⟩, ⟨rfl, rfl, rfl, by simp, fun k hk => ?_⟩⟩
  have := A.ge
  rw [setCell_block _ _ _ _ (by simp; omega), setCell_block _ _ _ _ (by simp; omega)]
set_option maxRecDepth 100000 in
theorem step_11 (G : G5 c) (hs : L.size = 12) (S : Five c L a w) (hL : Last L) (hi : 11 ∈ Region.ready .any ops5 L) : wpOp Tryd.prog ops5 Q 11 (fun a' w' => Five c (L.setIfInBounds 11 true) a' w' ∧ Last (L.setIfInBounds 11 true)) a w := by
  obtain ⟨hlt, hl, hd⟩ := rdy hi
  have nk := nd_of hs hlt hl
  have d0 : Dn L 0 := hd _ rfl { on := 0, ground := Ground.phase } (by simp [ops5]) (by rfl)
  have d1 : Dn L 1 := hd _ rfl { on := 1, ground := Ground.phase } (by simp [ops5]) (by rfl)
  have d2 : Dn L 2 := hd _ rfl { on := 2, ground := Ground.phase } (by simp [ops5]) (by rfl)
  have d3 : Dn L 3 := hd _ rfl { on := 3, ground := Ground.phase } (by simp [ops5]) (by rfl)
  have d4 : Dn L 4 := hd _ rfl { on := 4, ground := Ground.phase } (by simp [ops5]) (by rfl)
  have d5 : Dn L 5 := hd _ rfl { on := 5, ground := Ground.phase } (by simp [ops5]) (by rfl)
  have d6 : Dn L 6 := hd _ rfl { on := 6, ground := Ground.phase } (by simp [ops5]) (by rfl)
  have d7 : Dn L 7 := hd _ rfl { on := 7, ground := Ground.phase } (by simp [ops5]) (by rfl)
  have d8 : Dn L 8 := hd _ rfl { on := 8, ground := Ground.phase } (by simp [ops5]) (by rfl)
  have d9 : Dn L 9 := hd _ rfl { on := 9, ground := Ground.phase } (by simp [ops5]) (by rfl)
  have d10 : Dn L 10 := hd _ rfl { on := 10, ground := Ground.phase } (by simp [ops5]) (by rfl)
  have last : Last (L.setIfInBounds 11 true) := fun _ k hk => (dn_other (by omega)).2 (by
    match k, hk with
    | 0, _ => exact d0
    | 1, _ => exact d1
    | 2, _ => exact d2
    | 3, _ => exact d3
    | 4, _ => exact d4
    | 5, _ => exact d5
    | 6, _ => exact d6
    | 7, _ => exact d7
    | 8, _ => exact d8
    | 9, _ => exact d9
    | 10, _ => exact d10
    | n + 11, h => omega)
  obtain ⟨g8, q8, e8, r8⟩ := S.f8 d8
  have e1 := S.f1 d1
  obtain ⟨g, e, ab, _⟩ := S.f10 d10
  have e44 := S.f9 d9
  rw [e1, e8] at e44
  obtain ⟨⟨F1, F2⟩, FB⟩ := fin_set (vD := .slice c.gd c.ld c.cd) (ab nk) r8
  exact wp_of (o := _) rfl rfl (t_store rfl rfl e e44 (ab nk).blk ⟨
    { df := S.df
      ks := S.ks
      be := S.be.trans FB
      od := ⟨fun h => ⟨(dn_other (by decide)).2 d5, (dn_other (by decide)).2 d7⟩, fun h => ⟨(dn_other (by decide)).2 d1, (dn_other (by decide)).2 d8⟩⟩
      f0 := fun _ => S.f0 d0
      f1 := fun _ => S.f1 d1
      f2 := fun _ => S.f2 d2
      f3 := fun _ => S.f3 d3
      f4 := fun _ => S.f4 d4
      f5 := fun _ => by obtain ⟨g, q, e, r⟩ := S.f5 d5; exact ⟨g, q, e, fun n => absurd ((dn_other (by decide)).2 d8) n⟩
      f6 := fun _ => S.f6 d6
      f7 := fun _ => by obtain ⟨g, e, r⟩ := S.f7 d7; exact ⟨g, e, fun n => absurd ((dn_other (by decide)).2 d8) n⟩
      f8 := fun _ => ⟨g8, q8, e8, F2⟩
      f9 := fun _ => S.f9 d9
      f10 := fun _ => ⟨g, e, fun n => absurd (dn_set (by omega)) n, fun _ => by rw [e1, e8]; exact F1⟩ }, last⟩)
/-- the statement, in whatever order -/
theorem five_run (G : G5 c) {id : Nat} (h0 : Five c (Array.replicate 12 false) c.a0 c.wz.drew)
    (hend : ∀ a w, (a.defers = c.a0.defers ∧ a.tmps.size = c.a0.tmps.size) → (∀ t, ¬ (t = 8 ∨ (35 ≤ t ∧ t ≤ 44)) → a.eval (.tmp t) = c.a0.eval (.tmp t)) → (∃ g gB cB, a.eval (.tmp 8) = ptr g ∧ Bx w g #[.slice c.gd c.ld c.cd, .slice gB (c.lb + 1) cB] 25 ∧ RowS w c.wz.heap.size 49 11 (.slice gB (c.lb + 1) cB) (c.lb + 1) (c.xb ++ c.mc.toList)) → Below c.wz.heap.size c.wz w → Q .normal a w) :
    (Code.region id ops5 true).wp Tryd.prog Q c.a0 c.wz := by
  refine wp_region_inv (by kernel_rfl) (by kernel_rfl) (fun L a w => Five c L a w ∧ Last L) (fun L a w i hs h hi => ?_) (fun L a w hs h all => ?_) ⟨h0, fun h => absurd h (by unfold Dn; rw [show ops5.size = 12 from rfl]; decide)⟩
  · have hs : L.size = 12 := hs
    obtain ⟨hlt, _, _⟩ := rdy hi
    match i, hlt with
    | 0, _ => exact step_0 G hs h.1 h.2 hi
    | 1, _ => exact step_1 G hs h.1 h.2 hi
    | 2, _ => exact step_2 G hs h.1 h.2 hi
    | 3, _ => exact step_3 G hs h.1 h.2 hi
    | 4, _ => exact step_4 G hs h.1 h.2 hi
    | 5, _ => exact step_5 G hs h.1 h.2 hi
    | 6, _ => exact step_6 G hs h.1 h.2 hi
    | 7, _ => exact step_7 G hs h.1 h.2 hi
    | 8, _ => exact step_8 G hs h.1 h.2 hi
    | 9, _ => exact step_9 G hs h.1 h.2 hi
    | 10, _ => exact step_10 G hs h.1 h.2 hi
    | 11, _ => exact step_11 G hs h.1 h.2 hi
    | n + 12, h => omega
  · have hs : L.size = 12 := hs
    have dn : ∀ k, k < 12 → Dn L k := fun k hk => by
      have := all k hk
      unfold Dn
      rw [Array.getD_eq_getD_getElem?, Array.getElem?_eq_getElem (by omega)] at this ⊢
      simpa using this
    obtain ⟨S, _⟩ := h
    obtain ⟨g8, q8, e8, r8⟩ := S.f8 (dn 8 (by decide))
    have e1 := S.f1 (dn 1 (by decide))
    obtain ⟨g, e, _, hb⟩ := S.f10 (dn 10 (by decide))
    have hb := hb (dn 11 (by decide))
    rw [e1, e8] at hb
    exact hend a w S.df S.ks ⟨g, g8, q8, e, hb, r8⟩ S.be
theorem five_start (c : C5) : Five c (Array.replicate 12 false) c.a0 c.wz.drew := by
  have no : ∀ k, ¬ Dn (Array.replicate 12 false) k := fun k h => by
    unfold Dn at h
    rw [Array.getD_eq_getD_getElem?, Array.getElem?_replicate] at h
    split at h <;> simp at h
  exact ⟨⟨rfl, rfl⟩, fun _ _ => rfl, (Below.refl _ _).drew, ⟨fun h => absurd h (no _), fun h => absurd h (no _)⟩, fun h => absurd h (no _), fun h => absurd h (no _), fun h => absurd h (no _), fun h => absurd h (no _), fun h => absurd h (no _), fun h => absurd h (no _), fun h => absurd h (no _), fun h => absurd h (no _), fun h => absurd h (no _), fun h => absurd h (no _), fun h => absurd h (no _)⟩
end
end Go.Proofs.YtcbdolflgpmaoaaDoor
