/- The checker: where an instruction goes on. -/
import Derived.Test.YtidplckoolmaiaaDoorCdh
import Derived.Deep.AppendLies
namespace Go.Proofs.YtidplckoolmaiaaDoor
open Go.RowKit
set_option linter.unusedVariables false
set_option linter.unusedSimpArgs false

theorem info91 : (Tryd.prog.info? 91).map (fun i => (i.zero, i.size, i.bytes)) = some (some (.agg #[.int .i64 0, .int .i64 0]), 2, 16) := by kernel_rfl
theorem own_drew' {w : World} {base size n : Nat} {e : TypeId} {v : Value} {xs : List Value} (h : w.ownsRow base e size v n xs) : w.drew.ownsRow base e size v n xs := h.kept (row := none) ⟨rfl, rfl, rfl, Nat.le_refl _, fun _ _ _ => rfl⟩ (by cases v.ownBlock <;> simp)
theorem own_alloc' {w : World} {base size n : Nat} {e : TypeId} {v : Value} {xs : List Value} (h : w.ownsRow base e size v n xs) (o : Obj) : (w.alloc o).ownsRow base e size v n xs := h.alloc o
theorem own_below {w w' : World} {base size n : Nat} {e : TypeId} {v : Value} {xs : List Value} (h : w.ownsRow base e size v n xs) (hb : Below w.heap.size w w') : w'.ownsRow base e size v n xs := h.kept (row := none) ⟨hb.os, hb.tape, hb.output, hb.size, fun k hk _ => hb.block k hk⟩ (by cases v.ownBlock <;> simp)
theorem news7 (w : World) (cs : Array Value) (t : TypeId) : ∀ j x, cs.toList[j]? = some x → (w.alloc (.cells cs t)).cell? ((⟨w.heap.size, 0, none⟩ : Addr).add j) = some x := World.news_of_block (heap_alloc_new w _)
theorem below_grown {n : Nat} {w W w3 : World} {row : Option Nat} (h : Below n w W) (hn : n ≤ W.heap.size) (hg : W.grownBy w3 row) (hr : ∀ k, row = some k → n ≤ k) : Below n w w3 :=
  ⟨hg.os.trans h.os, hg.tape.trans h.tape, hg.output.trans h.output, Nat.le_trans h.size hg.size, fun k hk => (hg.block k (Nat.lt_of_lt_of_le hk hn) (fun e => by have := hr k e.symm; omega)).trans (h.block k hk)⟩
theorem grown_cell {W w4 : World} {row : Option Nat} (hg : W.grownBy w4 row) {p o : Nat} {u : Value} (e : W.cell? ⟨p, o, none⟩ = some u) (hne : some p ≠ row) : w4.cell? ⟨p, o, none⟩ = some u :=
  (World.cell?_of_block (a := ⟨p, o, none⟩) (hg.block p (World.block_lt_of_cell? _ _ e) hne)).trans e
theorem own_lo {w : World} {base size n : Nat} {e : TypeId} {v : Value} {xs : List Value} (h : w.ownsRow base e size v n xs) : ∀ k, v.ownBlock = some k → base ≤ k := fun k hk => (h.lt k hk).1
theorem info_parts {t : TypeId} {z : Option Value} {s b : Nat} (h : (Tryd.prog.info? t).map (fun i => (i.zero, i.size, i.bytes)) = some (z, s, b)) : ∃ i, Tryd.prog.info? t = some i ∧ i.zero = z ∧ i.size = s ∧ i.bytes = b := by
  cases q : Tryd.prog.info? t with
  | none => rw [q] at h; cases h
  | some i => rw [q] at h; simp at h; exact ⟨i, rfl, h.1, h.2.1, h.2.2⟩
def wayC (l : List (Int × Int)) : List Value := l.flatMap fun y => [.int .i64 y.1, .int .i64 y.2]
theorem wayC_snoc (l : List (Int × Int)) (y : Int × Int) : wayC (l ++ [y]) = wayC l ++ [.int .i64 y.1, .int .i64 y.2] := by simp [wayC]
theorem wayC_get : ∀ (l : List (Int × Int)) (i : Nat) (y : Int × Int), l[i]? = some y → (wayC l)[i * 2]? = some (.int .i64 y.1) ∧ (wayC l)[i * 2 + 1]? = some (.int .i64 y.2)
  | [], i, y, h => by simp at h
  | x :: r, 0, y, h => by simp at h; subst h; simp [wayC]
  | x :: r, i + 1, y, h => by
    have := wayC_get r i y (by simpa using h)
    have e : wayC (x :: r) = .int .i64 x.1 :: .int .i64 x.2 :: wayC r := by simp [wayC]
    rw [e, show (i + 1) * 2 = i * 2 + 1 + 1 by omega, show i * 2 + 1 + 1 + 1 = (i * 2 + 1) + 1 + 1 by omega]
    simpa using this
theorem ways_of_own {w : World} {base : Nat} {v : Value} {l : List (Int × Int)} (h : w.ownsRow base 91 2 v l.length (wayC l)) (hn : l.length ≤ 1000000000) : Lst w 2 isWay l v := by
  rcases h.2 with ⟨rfl, h0⟩ | ⟨g, cap, cur, rfl, hb, hg, X⟩
  · exact ⟨none, 0, by rw [h0], ⟨by omega, by unfold maxLen; omega⟩, fun z => by omega⟩
  · refine ⟨_, cap, rfl, ⟨X.1, by unfold maxLen; omega⟩, fun _ => ⟨g, 0, rfl, fun i y hi => ⟨_, rfl, fun j u hj => ?_⟩⟩⟩
    obtain ⟨g0, g1⟩ := wayC_get l i y hi
    have k : ∀ o u, (wayC l)[o]? = some u → w.cell? ⟨g, 0 + o, none⟩ = some u := fun o u ho => by
      have := h.cells (g := g) rfl o u ho
      simp only [Addr.add, Nat.zero_add] at this ⊢
      split at this
      · rename_i z; subst z; exact this
      · exact this
    match j, hj with
    | 0, hj => simp at hj; subst hj; rw [Nat.add_zero]; exact k _ _ g0
    | 1, hj => simp at hj; subst hj; exact k _ _ g1
theorem way_one {w : World} {g : Nat} {y : Int × Int} {t : TypeId} {fr : Nat × Nat} (h : w.heap[g]? = some (.cells #[.int .i64 y.1, .int .i64 y.2] t fr)) : Lst w 2 isWay [y] (.slice (some ⟨g, 0, none⟩) 1 1) := by
  refine ⟨_, 1, rfl, ⟨Nat.le_refl _, by unfold maxLen; simp⟩, fun _ => ⟨g, 0, rfl, fun i x hi => ?_⟩⟩
  match i, hi with
  | 0, hi =>
    simp at hi; subst hi
    refine ⟨_, rfl, fun j u hj => ?_⟩
    simp only [World.cell?, h]
    match j, hj with
    | 0, hj => simpa using hj
    | 1, hj => simpa using hj
theorem way_two {w : World} {g : Nat} {y z : Int × Int} {t : TypeId} {fr : Nat × Nat} (h : w.heap[g]? = some (.cells #[.int .i64 y.1, .int .i64 y.2, .int .i64 z.1, .int .i64 z.2] t fr)) : Lst w 2 isWay [y, z] (.slice (some ⟨g, 0, none⟩) 2 2) := by
  refine ⟨_, 2, rfl, ⟨Nat.le_refl _, by unfold maxLen; simp⟩, fun _ => ⟨g, 0, rfl, fun i x hi => ?_⟩⟩
  match i, hi with
  | 0, hi =>
    simp at hi; subst hi
    refine ⟨_, rfl, fun j u hj => ?_⟩
    simp only [World.cell?, h]
    match j, hj with
    | 0, hj => simpa using hj
    | 1, hj => simpa using hj
  | 1, hi =>
    simp at hi; subst hi
    refine ⟨_, rfl, fun j u hj => ?_⟩
    simp only [World.cell?, h]
    match j, hj with
    | 0, hj => simpa using hj
    | 1, hj => simpa using hj
theorem new_at {W : World} {o : Obj} {g : Nat} (hg : g = W.heap.size) : (W.alloc o).heap[g]? = some o := by subst hg; exact heap_alloc_new W o
theorem way_none (w : World) : Lst w 2 isWay [] (.slice none 0 0) := ⟨none, 0, rfl, ⟨Nat.le_refl _, Nat.zero_le _⟩, fun h => by simp at h⟩

section
variable {w : World} {b : Nat} {c : Cd} {z : Int} {x : Ins} {vc vg vi vn vl vk vm va : Value}
/-- how great an instruction may be -/
structure Sm (x : Ins) : Prop where
  li : x.li.length ≤ 1000000000
  ke : x.ke.length ≤ 1000000000
  ms : x.ms.length ≤ 1000000000
  ar : x.ar.length ≤ 1000000000
set_option maxHeartbeats 2000000 in
theorem ways_1 (K : Ck w b z x vc vg vi vn vl vk vm va) (I : Iv w x vl vk vm va) (S : Sm x) (hb : 0 ≤ x.b ∧ x.b ≤ 1000) (hz : 0 ≤ z ∧ z ≤ 1000000000) (ho : x.op = 1) : Calls Tryd.prog 53 #[ptr b] w fun e w' => ∃ v, e = .returned v ∧ Lst w' 2 isWay [(z + 1, x.b + x.ms.length)] v ∧ Below w.heap.size w w' := by
  obtain ⟨⟨gl, cl, rfl, _⟩, ⟨gk, ck, rfl, _⟩, ⟨gm, cm, rfl, _⟩, ⟨ga, ca, rfl, _⟩⟩ := I
  have k4 := K.c4
  have k5 := K.c5
  have k6 := K.c6
  have k7 := K.c7
  have k8 := K.c8
  have k9 := K.c9
  have k10 := K.c10
  have k11 := K.c11
  have lb := World.block_lt_of_cell? _ _ k4
  rw [ho] at k5
  have hb1 := hb.1
  have hb2 := hb.2
  have hz1 := hz.1
  have hz2 := hz.2
  have hm : (x.ms.length : Int) ≤ 1000000000 := by have := S.ms; omega
  have q4 : (w.alloc (.cells #[.int .i64 1, .int .i64 x.a, .int .i64 x.b, .slice gl x.li.length cl, .slice gk x.ke.length ck, .slice gm x.ms.length cm, .slice ga x.ar.length ca] 42)).cell? ⟨b, 4, none⟩ = some (.int .i64 z) := cellLater (by go_grown) k4
  have o1 : IntKind.i64.wrap (z + 1) = z + 1 := by rw [IntKind.wrap_i64]; omega
  have o2 : IntKind.i64.wrap (x.b + x.ms.length) = x.b + x.ms.length := by rw [IntKind.wrap_i64]; omega
  clear K S hb hz ho
  go_enter Tryd.func53, Tryd.ntmps53
  go_wp2
  go_region_held3 (fun w' => w'.cell? ⟨b, 4, none⟩ = some (.int .i64 z) ∧ w'.cell? ⟨w.heap.size, 2, none⟩ = some (.int .i64 x.b) ∧ w'.cell? ⟨w.heap.size, 5, none⟩ = some (.slice gm x.ms.length cm)) (go_keep) (fail)
  all_goals go_wp2
  all_goals go_ret
  all_goals exact ⟨_, rfl, way_one (new_at (by simp)), by go_grown⟩
set_option maxHeartbeats 2000000 in
theorem ways_4 (K : Ck w b z x vc vg vi vn vl vk vm va) (I : Iv w x vl vk vm va) (S : Sm x) (hz : 0 ≤ z ∧ z ≤ 1000000000) (ho : x.op = 4) : Calls Tryd.prog 53 #[ptr b] w fun e w' => ∃ v, e = .returned v ∧ Lst w' 2 isWay [(z + 1, (x.li.length : Int)), (x.a, (x.ke.length : Int) + 1)] v ∧ Below w.heap.size w w' := by
  obtain ⟨⟨gl, cl, rfl, _⟩, ⟨gk, ck, rfl, _⟩, ⟨gm, cm, rfl, _⟩, ⟨ga, ca, rfl, _⟩⟩ := I
  have k4 := K.c4
  have k5 := K.c5
  have k6 := K.c6
  have k7 := K.c7
  have k8 := K.c8
  have k9 := K.c9
  have k10 := K.c10
  have k11 := K.c11
  have lb := World.block_lt_of_cell? _ _ k4
  rw [ho] at k5
  have hz1 := hz.1
  have hz2 := hz.2
  have hl : (x.li.length : Int) ≤ 1000000000 := by have := S.li; omega
  have hk : (x.ke.length : Int) ≤ 1000000000 := by have := S.ke; omega
  have q4 : (w.alloc (.cells #[.int .i64 4, .int .i64 x.a, .int .i64 x.b, .slice gl x.li.length cl, .slice gk x.ke.length ck, .slice gm x.ms.length cm, .slice ga x.ar.length ca] 42)).cell? ⟨b, 4, none⟩ = some (.int .i64 z) := cellLater (by go_grown) k4
  have o1 : IntKind.i64.wrap (z + 1) = z + 1 := by rw [IntKind.wrap_i64]; omega
  have o2 : IntKind.i64.wrap ((x.ke.length : Int) + 1) = (x.ke.length : Int) + 1 := by rw [IntKind.wrap_i64]; omega
  clear K S hz ho
  go_enter Tryd.func53, Tryd.ntmps53
  go_wp2
  go_region_held3 (fun w' => w'.cell? ⟨b, 4, none⟩ = some (.int .i64 z) ∧ w'.cell? ⟨w.heap.size, 1, none⟩ = some (.int .i64 x.a) ∧ w'.cell? ⟨w.heap.size, 3, none⟩ = some (.slice gl x.li.length cl) ∧ w'.cell? ⟨w.heap.size, 4, none⟩ = some (.slice gk x.ke.length ck)) (go_keep) (fail)
  all_goals go_wp2
  all_goals go_ret
  all_goals exact ⟨_, rfl, way_two (new_at (by simp)), by go_grown⟩
theorem fieldsI_le (hco : ∀ a ∈ c.co, 0 ≤ a ∧ a ≤ 8) (a : Arm) (ha : armN c a = true) : 0 ≤ fieldsI c a ∧ fieldsI c a ≤ 8 := by
  unfold fieldsI
  split
  · rename_i h
    obtain ⟨j, e, hj⟩ := below_nat (n := a.c) (l := c.co.length) (by simpa [armN, h, conB] using ha)
    rw [e, coA_at c j hj]
    exact hco _ (List.getElem_mem hj)
  · omega
set_option maxRecDepth 100000 in
set_option maxHeartbeats 4000000 in
theorem ways_5 (K : Ck w b z x vc vg vi vn vl vk vm va) (V : Cv w c vc vg vi vn) (I : Iv w x vl vk vm va) (S : Sm x) (hb : 0 ≤ x.b ∧ x.b ≤ 1000) (hco : ∀ a ∈ c.co, 0 ≤ a ∧ a ≤ 8) (hn : ∀ a ∈ x.ar, armN c a = true) (ho : x.op = 5) : Calls Tryd.prog 53 #[ptr b] w fun e w' => ∃ v, e = .returned v ∧ Lst w' 2 isWay (x.ar.map fun a => (a.t, x.b + fieldsI c a)) v ∧ Below w.heap.size w w' := by
  have HI := Hid.mk I
  obtain ⟨⟨gl, cl, rfl, _⟩, ⟨gk, ck, rfl, _⟩, ⟨gm, cm, rfl, _⟩, ⟨ga, ca, rfl, _⟩⟩ := I
  have k4 := K.c4
  have k5 := K.c5
  have k6 := K.c6
  have k7 := K.c7
  have k8 := K.c8
  have k9 := K.c9
  have k10 := K.c10
  have k11 := K.c11
  rw [ho] at k5
  have hb1 := hb.1
  have hb2 := hb.2
  have ha : x.ar.length ≤ 1000000000 := S.ar
  obtain ⟨W1, hW1⟩ : ∃ W1, W1 = (w.alloc (.cells #[.int .i64 5, .int .i64 x.a, .int .i64 x.b, .slice gl x.li.length cl, .slice gk x.ke.length ck, .slice gm x.ms.length cm, .slice ga x.ar.length ca] 42)) := ⟨_, rfl⟩
  have B : Below w.heap.size w W1 := by subst hW1; go_grown
  have R2 : W1.cell? ⟨w.heap.size, 2, none⟩ = some (.int .i64 x.b) := by subst hW1; exact cellNew _ _ _ _ _ rfl
  have HK := Hid.mk (K.later B)
  have HV := Hid.mk (V.later B)
  have HA := Hid.mk (HI.out.later B).ar
  have HB := Hid.mk B
  have HR := Hid.mk R2
  have HC := Hid.mk hco
  have HN := Hid.mk hn
  have HW := Hid.mk hW1
  obtain ⟨n, hnn⟩ : ∃ n, x.ar.length = n := ⟨_, rfl⟩
  have HL := Hid.mk hnn
  obtain ⟨i0, hi, hz0, hz1, hz2⟩ := info_parts info91
  clear K V S hb ho B R2 hco hn HI
  rw [hnn] at hW1 ha k11 HW
  clear hnn
  go_enter Tryd.func53, Tryd.ntmps53
  go_wp2
  rw [← hW1]
  clear hW1
  go_loopw [4, 52] (fun v cc wr => ∃ (u : Value) (i : Nat), u = v ∧ cc = .int .i64 i ∧ i ≤ n ∧ Hid (wr.ownsRow W1.heap.size 91 2 u i (wayC ((x.ar.take i).map fun a => (a.t, x.b + fieldsI c a)))) ∧ Hid (Below W1.heap.size W1 wr)) (fun _ cc _ => n - (intOf cc).toNat)
  case atStart => exact ⟨_, 0, rfl, rfl, Nat.zero_le _, ⟨⟨rfl, Or.inl ⟨rfl, rfl⟩⟩⟩, ⟨Below.refl _ _⟩⟩
  case round =>
    obtain ⟨u, i, hu, rfl, hii, OW, BB⟩ := hrel
    subst hu
    by_cases hlt : i < n
    · have kl : i < x.ar.length := by rw [HL.out]; exact hlt
      obtain ⟨g, off, cap', cs, e, _, _, pc, hx⟩ := (HA.out.later BB.out fun _ _ h => h).get i kl
      rw [HL.out] at e
      simp only [Value.slice.injEq] at e
      obtain ⟨rfl, _, rfl⟩ := e
      unfold isArm at pc
      subst pc
      have hm := List.getElem_mem kl
      have HT : Hid (wayC ((x.ar.take (i + 1)).map fun a => (a.t, x.b + fieldsI c a)) = wayC ((x.ar.take i).map fun a => (a.t, x.b + fieldsI c a)) ++ [.int .i64 (x.ar[i]'kl).t, .int .i64 (x.b + fieldsI c (x.ar[i]'kl))]) := ⟨by rw [List.take_succ_eq_append_getElem kl, List.map_append, List.map_cons, List.map_nil, wayC_snoc]⟩
      have HM := Hid.mk hm
      clear hm
      generalize x.ar[i]'kl = m at *
      have c0 : wr.cell? ⟨g, off + i * 4, none⟩ = some (.int .i64 m.k) := hx 0 _ rfl
      have c1 : wr.cell? ⟨g, off + i * 4 + 1, none⟩ = some (.int .i64 m.c) := hx 1 _ rfl
      have c2 : wr.cell? ⟨g, off + i * 4 + 2, none⟩ = some (.int .i64 m.n) := hx 2 _ rfl
      have c3 : wr.cell? ⟨g, off + i * 4 + 3, none⟩ = some (.int .i64 m.t) := hx 3 _ rfl
      clear hx
      have hlt' : (i : Int) < n := by omega
      obtain ⟨W2, hW2⟩ : ∃ W2, W2 = wr.alloc (.cells #[.int .i64 m.k, .int .i64 m.c, .int .i64 m.n, .int .i64 m.t] 73) := ⟨_, rfl⟩
      have B2 : Below wr.heap.size wr W2 := by subst hW2; go_grown
      have HB2 := Hid.mk (belowOn BB.out B2)
      have HB2d := Hid.mk (belowOn BB.out B2.drew)
      have CF := fields_any (HK.out.later HB2d.out) (HV.out.later HB2d.out) m (HN.out m HM.out)
      have FL := fieldsI_le HC.out m (HN.out m HM.out)
      have r2 := cellLater HB2.out HR.out
      have a0 : W2.cell? ⟨wr.heap.size, 0, none⟩ = some (.int .i64 m.k) := by subst hW2; exact cellNew _ _ _ _ _ rfl
      have a1 : W2.cell? ⟨wr.heap.size, 1, none⟩ = some (.int .i64 m.c) := by subst hW2; exact cellNew _ _ _ _ _ rfl
      have a2 : W2.cell? ⟨wr.heap.size, 2, none⟩ = some (.int .i64 m.n) := by subst hW2; exact cellNew _ _ _ _ _ rfl
      have a3 : W2.cell? ⟨wr.heap.size, 3, none⟩ = some (.int .i64 m.t) := by subst hW2; exact cellNew _ _ _ _ _ rfl
      have O2 : W2.drew.ownsRow _ _ _ _ _ _ := own_drew' (own_below OW.out B2)
      generalize fieldsI c m = fm at *
      have f1 := FL.1
      have f2 := FL.2
      have o1 : IntKind.i64.wrap (x.b + fm) = x.b + fm := by rw [IntKind.wrap_i64]; omega
      have HO := Hid.mk O2
      have HLT := Hid.mk OW.out.lt
      have nb1 : Hid (some wr.heap.size ≠ u.ownBlock) := ⟨fun e => by have := (OW.out.lt _ e.symm).2; omega⟩
      have nb2 : Hid (some w.heap.size ≠ u.ownBlock) := ⟨fun e => by have := (OW.out.lt _ e.symm).1; have := World.block_lt_of_cell? _ _ HR.out; simp at this; omega⟩
      clear O2 B2 FL OW
      go_wp2
      rw [← hW2]
      have s2 : W2.heap.size = wr.heap.size + 1 := by subst hW2; simp
      have HS2 := Hid.mk s2
      clear hW2 s2
      go_region_held3 (fun w' => w'.cell? ⟨wr.heap.size, 0, none⟩ = some (.int .i64 m.k) ∧ w'.cell? ⟨wr.heap.size, 1, none⟩ = some (.int .i64 m.c) ∧ w'.cell? ⟨wr.heap.size, 2, none⟩ = some (.int .i64 m.n) ∧ w'.cell? ⟨wr.heap.size, 3, none⟩ = some (.int .i64 m.t) ∧ w'.cell? ⟨w.heap.size, 2, none⟩ = some (.int .i64 x.b)) (go_keep) (first
        | (go_at_call 72; refine CF.mono ?_; rintro e w3 ⟨rfl, B3⟩; have b0 := cellLater B3 a0; have b1 := cellLater B3 a1; have b2 := cellLater B3 a2; have b3 := cellLater B3 a3; have t2 := cellLater B3 r2; have O3 := own_below HO.out B3; have HB3 := Hid.mk (belowOn HB2d.out B3); clear B3)
        | (refine step_append_lies _ (by rfl) _ _ _ (by rfl) W1.heap.size 91 i0 _ 2 16 Tryd.underlying92 hi hz0 hz1 hz2 rfl (by decide) u i _ (by rfl) (own_alloc' O3 _) ⟨w3.heap.size, 0, none⟩ 1 1 [.int .i64 m.t, .int .i64 (x.b + fm)] (by rfl) rfl (news7 w3 #[.int .i64 m.t, .int .i64 (x.b + fm)] 91) (by simp [Value.oneCell']) (by decide) (by unfold maxLen; omega) (by omega) (by have := HB3.out.size; simp; omega) _ rfl ?_; intro q cap3 w4 ho4 hg4 hat hlt4; have d0 := grown_cell hg4 (cellLater (w := w3) (by go_grown) b0) nb1.out; have d1 := grown_cell hg4 (cellLater (w := w3) (by go_grown) b1) nb1.out; have d2 := grown_cell hg4 (cellLater (w := w3) (by go_grown) b2) nb1.out; have d3 := grown_cell hg4 (cellLater (w := w3) (by go_grown) b3) nb1.out; have d4 := grown_cell hg4 (cellLater (w := w3) (by go_grown) t2) nb2.out; have HE := Hid.mk (And.intro ho4 (below_grown (belowOn HB3.out (by go_grown)) (by have := HB3.out.size; simp; omega) hg4 (fun k hk => (HLT.out k hk).1))); clear ho4 hg4 hat hlt4))
      all_goals go_wp2
      all_goals exact ⟨⟨_, i + 1, rfl, by go_num, by omega, ⟨by rw [HT.out]; exact HE.out.1⟩, ⟨HE.out.2⟩⟩, by simp [intOf]; omega⟩
    · obtain rfl : i = n := by omega
      have OE := OW.out
      rw [List.take_of_length_le (by rw [HL.out]; omega)] at OE
      have HE := Hid.mk OE
      clear OE OW
      go_wp2
      go_ret
      exact ⟨_, rfl, ways_of_own (by rw [List.length_map, HL.out]; exact HE.out) (by rw [List.length_map, HL.out]; exact ha), belowOn HB.out BB.out⟩
end
end Go.Proofs.YtidplckoolmaiaaDoor
