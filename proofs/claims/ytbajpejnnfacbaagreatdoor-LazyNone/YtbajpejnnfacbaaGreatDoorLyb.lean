/- Package lazy: what is asked of a thing; an array's items. -/
import Derived.Test.YtbajpejnnfacbaaGreatDoorLzy
namespace Go.Proofs.YtbajpejnnfacbaaGreatDoor.Lz
open Go.RowKit
set_option linter.unusedVariables false
set_option linter.unusedSimpArgs false


theorem isT_heads {w : World} {G : Gm} {i : Nat} : ∀ {t : T} {c : Array Value}, isT w G i t c → ∃ f nm o ga gn gc it wr, c = shT (isOf t) (numOf t) f nm o ga gn gc it wr
  | .num _, _, e => ⟨_, _, _, _, _, _, _, _, e⟩
  | .con _ _, _, ⟨_, ⟨ga, cap, rfl, _⟩, e⟩ => ⟨_, _, _, _, _, _, _, _, e⟩
  | .fn _ _ _, _, ⟨_, _, ⟨b, rfl, _⟩, ⟨b2, rfl, _⟩, e⟩ => ⟨_, _, _, _, _, _, _, _, e⟩
  | .part _ _, _, ⟨_, _, ⟨b, rfl, _⟩, ⟨ga, cap, rfl, _⟩, e⟩ => ⟨_, _, _, _, _, _, _, _, e⟩
  | .var _, _, ⟨_, ⟨b, rfl, _⟩, e⟩ => ⟨_, _, _, _, _, _, _, _, e⟩
  | .arr _, _, ⟨_, _, _, ⟨b, rfl, _⟩, e, q⟩ => by
    rcases q with ⟨rfl, _⟩ | ⟨m, n, f, rfl, _⟩
    · exact ⟨_, _, _, _, _, _, _, _, e⟩
    · exact ⟨_, _, _, _, _, _, _, _, e⟩
  | .need _ _, _, ⟨_, _, _, ⟨b, rfl, _⟩, ⟨b2, rfl, _⟩, e⟩ => ⟨_, _, _, _, _, _, _, _, e⟩
  | .call _ _, _, ⟨_, _, ⟨b, rfl, _⟩, ⟨ga, cap, rfl, _⟩, e⟩ => ⟨_, _, _, _, _, _, _, _, e⟩
  | .work, _, e => ⟨_, _, _, _, _, _, _, _, e⟩
  | .failed _, _, e => ⟨_, _, _, _, _, _, _, _, e⟩
  | .same _, _, ⟨_, ⟨b, rfl, _⟩, e⟩ => ⟨_, _, _, _, _, _, _, _, e⟩
section
variable {w w' : World} {G G' : Gm} {th : List T} {rows : List (List Nat)}
theorem Rep.heads (h : Rep w G th rows) {b t : Nat} (hb : G b = some (.thing t)) : ∃ tv, th[t]? = some tv ∧ ∃ f nm o ga gn gc it wr, Bx w b (shT (isOf tv) (numOf tv) f nm o ga gn gc it wr) 91 := by
  obtain ⟨tv, c, e, hc, q⟩ := h.cont b _ hb
  obtain ⟨f, nm, o, ga, gn, gc, it, wr, rfl⟩ := isT_heads q
  exact ⟨tv, e, f, nm, o, ga, gn, gc, it, wr, hc⟩
theorem unlike_any (h : Rep w G th rows) {b t : Nat} (hb : G b = some (.thing t)) {tv : T} (ht : th[t]? = some tv) (need : Int) : Calls Tryz.prog 104 #[ptr b, .int .i64 need] w fun r w' => r = .returned (.int .i64 (unlikeT tv need)) ∧ w' = w := by
  obtain ⟨tv', e, f, nm, o, ga, gn, gc, it, wr, XB⟩ := h.heads hb
  rw [ht] at e
  cases e
  have c0 := XB.cell 0
  unfold unlikeT
  obtain ⟨k, hk⟩ : ∃ k, isOf tv = k := ⟨_, rfl⟩
  rw [hk] at c0 ⊢
  clear XB hk ht h hb
  by_cases n2 : need = 2
  · subst n2
    by_cases z : k = 0
    · subst z
      rw [if_neg (by simp), if_neg (by omega)]
      go_enter Tryz.func104, Tryz.ntmps104
      go_wp2
      go_ret
      exact ⟨rfl, rfl⟩
    · rw [if_pos ⟨rfl, z⟩]
      have q : ((k : Int) == 0) = false := beq_eq_false_iff_ne.2 (by omega)
      have q' : ((k : Int) != 0) = true := by simp; omega
      go_enter Tryz.func104, Tryz.ntmps104
      go_wp2
      go_ret
      exact ⟨rfl, rfl⟩
  · have g2 : (need == 2) = false := beq_eq_false_iff_ne.2 n2
    rw [if_neg (fun e => n2 e.1)]
    by_cases n3 : need = 3
    · subst n3
      by_cases z : k = 4
      · subst z
        rw [if_neg (by omega)]
        go_enter Tryz.func104, Tryz.ntmps104
        go_wp2
        go_ret
        exact ⟨rfl, rfl⟩
      · rw [if_pos (.inl ⟨rfl, z⟩)]
        have q : ((k : Int) == 4) = false := beq_eq_false_iff_ne.2 (by omega)
        have q' : ((k : Int) != 4) = true := by simp; omega
        go_enter Tryz.func104, Tryz.ntmps104
        go_wp2
        go_ret
        exact ⟨rfl, rfl⟩
    · have g3 : (need == 3) = false := beq_eq_false_iff_ne.2 n3
      by_cases n4 : need = 4
      · subst n4
        by_cases z : k = 5
        · subst z
          rw [if_neg (by omega)]
          go_enter Tryz.func104, Tryz.ntmps104
          go_wp2
          go_ret
          exact ⟨rfl, rfl⟩
        · rw [if_pos (.inr ⟨rfl, z⟩)]
          have q : ((k : Int) == 5) = false := beq_eq_false_iff_ne.2 (by omega)
          have q' : ((k : Int) != 5) = true := by simp; omega
          go_enter Tryz.func104, Tryz.ntmps104
          go_wp2
          go_ret
          exact ⟨rfl, rfl⟩
      · have g4 : (need == 4) = false := beq_eq_false_iff_ne.2 n4
        rw [if_neg (by omega)]
        go_enter Tryz.func104, Tryz.ntmps104
        go_wp2
        go_ret
        exact ⟨rfl, rfl⟩
theorem holds_any (h : Rep w G th rows) {b t : Nat} (hb : G b = some (.thing t)) {tv : T} (ht : th[t]? = some tv) (i : Int) : Calls Tryz.prog 112 #[ptr b, .int .i64 i] w fun r w' => r = .returned (.bool (decide (0 ≤ i ∧ i < numOf tv))) ∧ w' = w := by
  obtain ⟨tv', e, f, nm, o, ga, gn, gc, it, wr, XB⟩ := h.heads hb
  rw [ht] at e
  cases e
  have c1 := XB.cell 1
  obtain ⟨k, hk⟩ : ∃ k, numOf tv = k := ⟨_, rfl⟩
  rw [hk] at c1 ⊢
  clear XB hk ht h hb
  by_cases z : 0 ≤ i
  · have g : decide (0 ≤ i) = true := decide_eq_true z
    cases q : decide (i < k)
    · have q2 : decide (0 ≤ i ∧ i < k) = false := by simp at q ⊢; omega
      rw [q2]
      go_enter Tryz.func112, Tryz.ntmps112
      go_wp2
      go_ret
      exact ⟨rfl, rfl⟩
    · have q2 : decide (0 ≤ i ∧ i < k) = true := by simp at q ⊢; omega
      rw [q2]
      go_enter Tryz.func112, Tryz.ntmps112
      go_wp2
      go_ret
      exact ⟨rfl, rfl⟩
  · have g : decide (0 ≤ i) = false := decide_eq_false z
    have q2 : decide (0 ≤ i ∧ i < k) = false := by simp; omega
    rw [q2]
    go_enter Tryz.func112, Tryz.ntmps112
    go_wp2
    go_ret
    exact ⟨rfl, rfl⟩
theorem isI_nat {k : Nat} (h : k ≤ 1000000000) : isI (k : Int) := ⟨by omega, by omega⟩
theorem item_any (h : Rep w G th rows) {b t : Nat} (hb : G b = some (.thing t)) {l : List Nat} (ht : th[t]? = some (.arr l)) {k : Nat} (hk : k < l.length) (hl : l.length ≤ 1024) :
    Calls Tryz.prog 53 #[ptr b, .int .i64 k] w fun r w' => (∃ v, r = .returned v ∧ pT G (l.getD k 0) v) ∧ w' = w := by
  obtain ⟨tv, c, e, hc, q⟩ := h.cont b _ hb
  rw [ht] at e
  cases e
  obtain ⟨o, u, it, ⟨bo, rfl, ho⟩, rfl, q⟩ := q
  have XB : Bx w b _ 91 := hc
  have eg : l[k]? = some (l.getD k 0) := by rw [List.getD_eq_getElem?_getD, List.getElem?_eq_getElem hk]; rfl
  have c4 := XB.cell 4
  have c6 := XB.cell 6
  rcases q with ⟨rfl, q⟩ | ⟨m, n, f, rfl, gm, vm, hn, _, q⟩
  · have eu : l.getD k 0 = u := by rw [List.getD_eq_getElem?_getD, q, List.getElem?_replicate, if_pos hk]; rfl
    have hrun := Maps.look_nil (P := Tryz.prog) (w := w) true lawJ Tryz.underlying89 (zero78 w) (keyJ (isI_nat (k := k) (by omega)))
    simp only [if_true] at hrun
    rw [eu]
    have HO := Hid.mk ho
    clear XB hc ht h hb q eg eu ho
    go_enter Tryz.func53, Tryz.ntmps53
    go_wp2
    go_ret
    exact ⟨⟨_, rfl, bo, rfl, HO.out⟩, rfl⟩
  · have hrun := vm.look_ok lawJ Tryz.underlying89 (zero78 w) (keyJ (isI_nat (k := k) (by omega)))
    obtain ⟨bv, e1, hv⟩ := q k _ eg
    have HV := Hid.mk hv
    cases hf : f (.int .i64 k) with
    | none =>
      rw [hf] at hrun e1
      simp only [Option.getD_none, Option.isSome_none] at hrun e1
      cases e1
      clear XB hc ht h hb q eg ho vm gm hf hv
      go_enter Tryz.func53, Tryz.ntmps53
      go_wp2
      go_ret
      exact ⟨⟨_, rfl, bo, rfl, HV.out⟩, rfl⟩
    | some v =>
      rw [hf] at hrun e1
      simp only [Option.getD_some, Option.isSome_some] at hrun e1
      subst e1
      clear XB hc ht h hb q eg ho vm gm hf hv
      go_enter Tryz.func53, Tryz.ntmps53
      go_wp2
      go_ret
      exact ⟨⟨_, rfl, bv, rfl, HV.out⟩, rfl⟩
end
end Go.Proofs.YtbajpejnnfacbaaGreatDoor.Lz

/- Package lazy: an item is put into an array. -/
namespace Go.Proofs.YtbajpejnnfacbaaGreatDoor.Lz
open Go.RowKit
set_option linter.unusedVariables false
set_option linter.unusedSimpArgs false


theorem int_ne {a b : Int} (h : a ≠ b) : Lit.int .i64 a ≠ Lit.int .i64 b := fun e => h (by cases e; rfl)
theorem mapNil (w : World) : Sem.run Tryz.prog (binOp BinOp.eql 89 (.map none) (.map none)) w = .ok (.bool true) w := by kernel_rfl
theorem mapSome (m : Nat) (w : World) : Sem.run Tryz.prog (binOp BinOp.eql 89 (.map (some m)) (.map none)) w = .ok (.bool false) w := by kernel_rfl
section
variable {w w' : World} {G G' : Gm} {th : List T} {rows : List (List Nat)}
/-- what the array reads as, an item put -/
theorem arr_put {w3 : World} {t m n k u bo bv : Nat} {f : Lit → Option Value} {l : List Nat} {o0 : Nat} (ho : pT G o0 (ptr bo)) (hu : pT G u (ptr bv)) (gm : G m = some (.items t)) (vm : VM 2 w3 m n (updV f (.int .i64 k) (ptr bv))) (hk : k < l.length) (hl : l.length ≤ 1024)
    (hd : ∀ kl, (f kl).isSome = true → ∃ i : Nat, i < l.length ∧ kl = .int .i64 i) (hi : ∀ (j : Nat) x, l[j]? = some x → pT G x ((f (.int .i64 j)).getD (ptr bo))) :
    isT w3 G t (.arr (l.set k u)) (thC 5 l.length nilp nilp (ptr bo) nils (.map (some m)) 0) := by
  have key : WideAt.IsKeyLit (.int .i64 (k : Int)) := lawJ.key (keyJ (isI_nat (k := k) (by omega)))
  have dom : ∀ kl, (updV f (.int .i64 k) (ptr bv) kl).isSome = true → ∃ i : Nat, i < (l.set k u).length ∧ kl = .int .i64 i := fun kl h => by
    rw [List.length_set]
    by_cases e : kl = .int .i64 k
    · exact ⟨k, hk, e⟩
    · rw [upd_other f e] at h; exact hd kl h
  refine ⟨ptr bo, o0, .map (some m), ho, by rw [List.length_set], .inr ⟨m, (l.set k u).length, _, rfl, gm, vm.fit dom, by rw [List.length_set]; omega, dom, fun j x hj => ?_⟩⟩
  by_cases e : k = j
  · subst e
    rw [List.getElem?_set_self hk] at hj
    cases hj
    rw [upd_same f key]
    exact hu
  · rw [List.getElem?_set_ne e] at hj
    rw [upd_other f (int_ne (by omega))]
    exact hi j x hj
set_option maxRecDepth 100000 in
set_option maxHeartbeats 1000000 in
theorem put_any (h : Rep w G th rows) {b t : Nat} (hb : G b = some (.thing t)) {l : List Nat} (ht : th[t]? = some (.arr l)) {k : Nat} (hk : k < l.length) (hl : l.length ≤ 1024) {u : Nat} {v : Value} (hu : pT G u v) :
    Calls Tryz.prog 93 #[ptr b, .int .i64 k, v] w fun r w' => r = done ∧ ∃ G', Fx G G' w w' ∧ Rep w' G' (th.set t (.arr (l.set k u))) rows ∧ ∀ x j, G x = some (.own j) → w'.heap[x]? = w.heap[x]? := by
  obtain ⟨tv, c, e, hc, q⟩ := h.cont b _ hb
  rw [ht] at e
  cases e
  obtain ⟨o, o0, it, ⟨bo, rfl, ho⟩, rfl, q⟩ := q
  obtain ⟨bv, rfl, hv⟩ := hu
  have kI := keyJ (isI_nat (k := k) (by omega))
  have XB : Bx w b _ 91 := hc
  have c6 := XB.cell 6
  have z6 : w.frozen? ⟨b, 6, none⟩ = false := Joins.unfrozen_of_block hc 6
  have blt := h.lt hb
  rcases q with ⟨rfl, q⟩ | ⟨m, n, f, rfl, gm, vm, hn, hd, q⟩
  · have mn := mapNil w
    have hrun := run_makeMap (P := Tryz.prog) 89 w
    obtain ⟨w2, hw2⟩ : ∃ w2, w2 = (w.setCell ⟨b, 6, none⟩ (.map (some w.heap.size))).alloc (.map #[] 0) := ⟨_, rfl⟩
    have K1 := Joins.below_alloc1 w (.map #[] 0)
    have b2 : Bx w2 b (thC 5 l.length nilp nilp (ptr bo) nils (.map (some w.heap.size)) 0) 91 := by rw [hw2]; exact later' (Joins.block_setCell (i := 6) hc _) (Joins.below_alloc1 _ _)
    have o2 : ∀ x, x < w.heap.size → x ≠ b → w2.heap[x]? = w.heap[x]? := fun x hl hx => by rw [hw2, (Joins.below_alloc1 _ _).block x (by rw [size_set]; exact hl)]; exact setCell_block _ _ _ _ hx
    have vm2 : VM 2 w2 w.heap.size 0 (fun _ => none) := by rw [hw2]; have := VM.made 2 (w.setCell ⟨b, 6, none⟩ (.map (some w.heap.size))); rwa [size_set] at this
    have x6 := b2.cell 6
    have HH := Hid.mk (And.intro h (And.intro hb (And.intro ho (And.intro hv (And.intro b2 (And.intro o2 (And.intro vm2 (And.intro K1 q))))))))
    have HE : Hid (w2.os = w.os ∧ w2.tape = w.tape ∧ w2.output = w.output ∧ w2.heap.size = w.heap.size + 1) := ⟨by rw [hw2]; exact ⟨rfl, rfl, rfl, by rw [World.size_alloc, size_set]⟩⟩
    have nb : ¬ b = w.heap.size := by omega
    clear h hb ht hc XB ho hv b2 o2 vm2 K1 q
    go_enter Tryz.func93, Tryz.ntmps93
    subst hw2
    go_wp2_with (at_mapUpdate; refine wpList_vm_put _ rfl _ _ _ 89 rfl 2 78 lawJ Tryz.underlying89 w.heap.size 0 _ rfl HH.out.2.2.2.2.2.2.1 (by unfold maxLen; omega) _ _ _ rfl rfl kI ?_; intro w3 vm3 gr3)
    go_end0
    obtain ⟨h, hb, ho, hv, b2, o2, vm2, K1, q⟩ := HH.out
    obtain ⟨e1, e2, e3, e4⟩ := HE.out
    have fr : G w.heap.size = none := h.free (Nat.le_refl _)
    have le := le_tag fr (.items t)
    have R1 : Rep (w.alloc (.map #[] 0)) (Lz.tag G w.heap.size (.items t)) th rows := (h.below K1).tag fr (show w.heap.size < _ by simp) (fun i => by simp) (fun j => by simp)
    have o3 : ∀ x, x < w.heap.size → x ≠ b → w3.heap[x]? = w.heap[x]? := fun x hx hne => (gr3.block x (by rw [e4]; omega) (fun z => by cases z; omega)).trans (o2 x hx hne)
    have b3 : w3.heap[b]? = some (.cells (thC 5 l.length nilp nilp (ptr bo) nils (.map (some w.heap.size)) 0) 91 (0, 0)) := (gr3.block b (by rw [e4]; omega) (fun z => by cases z; omega)).trans b2
    have ti := arr_put (w3 := w3) (t := t) (l := l) (o0 := o0) (u := u) (pT.le le ⟨bo, rfl, ho⟩) (pT.le le ⟨bv, rfl, hv⟩) (tag_self G w.heap.size (.items t)) vm3 hk hl (fun kl z => by simp at z) (fun j x hj => by
      rw [q] at hj
      have jx : x = o0 := by
        have := List.getElem?_replicate (a := o0) (n := l.length) (i := j)
        rw [this] at hj
        split at hj
        · cases hj; rfl
        · cases hj
      rw [jx]
      exact pT.le le ⟨bo, rfl, ho⟩)
    refine ⟨rfl, _, ⟨gr3.os.trans e1, gr3.tape.trans e2, gr3.output.trans e3, by have := gr3.size; rw [e4] at this; omega, fun x hx q => o3 x hx (fun z => by rw [z, hb] at q; exact q), le, fun x hx q => by rw [tag_ne _ _ (by omega)]; exact q⟩, ?_, fun x j hx => o3 x (h.lt hx) (fun z => by rw [z, hb] at hx; cases hx)⟩
    refine R1.put (le _ _ hb) (by have := gr3.size; rw [e4] at this; simp; omega) b3 ti (fun x ty hx hne hit => ?_)
    by_cases z : x = w.heap.size
    · subst z; rw [tag_self] at hx; cases hx; exact absurd rfl hit
    · rw [tag_ne _ _ z] at hx
      have xl := h.lt hx
      exact (o3 x xl hne).trans (K1.block x xl).symm
  · have mn := mapSome m w
    have ml := h.lt gm
    have nmb : m ≠ b := fun z => by rw [z, hb] at gm; cases gm
    have HH := Hid.mk (And.intro h (And.intro hb (And.intro ho (And.intro hv (And.intro gm (And.intro hd (And.intro hc q)))))))
    clear h hb ht hc XB ho hv q hd gm
    go_enter Tryz.func93, Tryz.ntmps93
    go_wp2_with (at_mapUpdate; refine wpList_vm_put _ rfl _ _ _ 89 rfl 2 78 lawJ Tryz.underlying89 m n _ rfl vm (by unfold maxLen; omega) _ _ _ rfl rfl kI ?_; intro w3 vm3 gr3)
    go_end0
    obtain ⟨h, hb, ho, hv, gm, hd, hc, q⟩ := HH.out
    have o3 : ∀ x, x < w.heap.size → x ≠ m → w3.heap[x]? = w.heap[x]? := fun x hx hne => gr3.block x hx (fun z => by cases z; exact hne rfl)
    have b3 : w3.heap[b]? = some (.cells (thC 5 l.length nilp nilp (ptr bo) nils (.map (some m)) 0) 91 (0, 0)) := (o3 b blt (fun z => nmb z.symm)).trans hc
    have ti := arr_put (w3 := w3) (t := t) (l := l) (o0 := o0) (u := u) ⟨bo, rfl, ho⟩ ⟨bv, rfl, hv⟩ gm vm3 hk hl hd q
    exact ⟨rfl, G, Fx.of_own gm (by simp [fixd]) gr3.os gr3.tape gr3.output gr3.size (fun i hi hne => o3 i hi hne), h.put hb gr3.size b3 ti (fun x ty hx hne hit => o3 x (h.lt hx) (fun z => by rw [z, gm] at hx; cases hx; exact hit rfl)), fun x j hx => o3 x (h.lt hx) (fun z => by rw [z, gm] at hx; cases hx)⟩
end
end Go.Proofs.YtbajpejnnfacbaaGreatDoor.Lz
