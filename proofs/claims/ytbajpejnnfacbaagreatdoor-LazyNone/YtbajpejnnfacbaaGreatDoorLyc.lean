/- Package lazy: an item is put into an array. -/
import Derived.Test.YtbajpejnnfacbaaGreatDoorLya
namespace Go.Proofs.YtbajpejnnfacbaaGreatDoor.Lz
open Go.RowKit
set_option linter.unusedVariables false
set_option linter.unusedSimpArgs false


theorem int_ne {a b : Int} (h : a ≠ b) : Lit.int .i64 a ≠ Lit.int .i64 b := fun e => h (by cases e; rfl)
theorem mapNil (w : World) : Sem.run Tryz.prog (binOp BinOp.eql 89 (.map none) (.map none)) w = .ok (.bool true) w := by kernel_rfl
theorem mapSome (m : Nat) (w : World) : Sem.run Tryz.prog (binOp BinOp.eql 89 (.map (some m)) (.map none)) w = .ok (.bool false) w := by kernel_rfl
section
variable {w w' : World} {G G' : Gm} {th : List T} {rows : List (List Nat)}
/-- what the array reads as, an item put -/
theorem arr_put {w3 : World} {t m n k u bo bv : Nat} {f : Lit → Option Value} {l : List Nat} {o0 : Nat} (ho : pT G o0 (ptr bo)) (hu : pT G u (ptr bv)) (gm : G m = some (.items t)) (vm : VM 2 w3 m n (updV f (.int .i64 k) (ptr bv))) (hk : k < l.length) (hl : l.length ≤ 1024)
    (hd : ∀ kl, (f kl).isSome = true → ∃ i : Nat, i < l.length ∧ kl = .int .i64 i) (hi : ∀ (j : Nat) x, l[j]? = some x → pT G x ((f (.int .i64 j)).getD (ptr bo))) :
    isT w3 G t (.arr (l.set k u)) (thC 5 l.length nilp nilp (ptr bo) nils (.map (some m)) 0) := by
  have key : WideAt.IsKeyLit (.int .i64 (k : Int)) := lawJ.key (keyJ (isI_nat (k := k) (by omega)))
  have dom : ∀ kl, (updV f (.int .i64 k) (ptr bv) kl).isSome = true → ∃ i : Nat, i < (l.set k u).length ∧ kl = .int .i64 i := fun kl h => by
    rw [List.length_set]
    by_cases e : kl = .int .i64 k
    · exact ⟨k, hk, e⟩
    · rw [upd_other f e] at h; exact hd kl h
  refine ⟨ptr bo, o0, .map (some m), ho, by rw [List.length_set], .inr ⟨m, (l.set k u).length, _, rfl, gm, vm.fit dom, by rw [List.length_set]; omega, dom, fun j x hj => ?_⟩⟩
  by_cases e : k = j
  · subst e
    rw [List.getElem?_set_self hk] at hj
    cases hj
    rw [upd_same f key]
    exact hu
  · rw [List.getElem?_set_ne e] at hj
    rw [upd_other f (int_ne (by omega))]
    exact hi j x hj
set_option maxRecDepth 100000 in
set_option maxHeartbeats 1000000 in
theorem put_any (h : Rep w G th rows) {b t : Nat} (hb : G b = some (.thing t)) {l : List Nat} (ht : th[t]? = some (.arr l)) {k : Nat} (hk : k < l.length) (hl : l.length ≤ 1024) {u : Nat} {v : Value} (hu : pT G u v) :
    Calls Tryz.prog 93 #[ptr b, .int .i64 k, v] w fun r w' => r = done ∧ ∃ G', Fx G G' w w' ∧ Rep w' G' (th.set t (.arr (l.set k u))) rows ∧ ∀ x j, G x = some (.own j) → w'.heap[x]? = w.heap[x]? := by
  obtain ⟨tv, c, e, hc, q⟩ := h.cont b _ hb
  rw [ht] at e
  cases e
  obtain ⟨o, o0, it, ⟨bo, rfl, ho⟩, rfl, q⟩ := q
  obtain ⟨bv, rfl, hv⟩ := hu
  have kI := keyJ (isI_nat (k := k) (by omega))
  have XB : Bx w b _ 91 := hc
  have c6 := XB.cell 6
  have z6 : w.frozen? ⟨b, 6, none⟩ = false := Joins.unfrozen_of_block hc 6
  have blt := h.lt hb
  rcases q with ⟨rfl, q⟩ | ⟨m, n, f, rfl, gm, vm, hn, hd, q⟩
  · have mn := mapNil w
    have hrun := run_makeMap (P := Tryz.prog) 89 w
    obtain ⟨w2, hw2⟩ : ∃ w2, w2 = (w.setCell ⟨b, 6, none⟩ (.map (some w.heap.size))).alloc (.map #[] 0) := ⟨_, rfl⟩
    have K1 := Joins.below_alloc1 w (.map #[] 0)
    have b2 : Bx w2 b (thC 5 l.length nilp nilp (ptr bo) nils (.map (some w.heap.size)) 0) 91 := by rw [hw2]; exact later' (Joins.block_setCell (i := 6) hc _) (Joins.below_alloc1 _ _)
    have o2 : ∀ x, x < w.heap.size → x ≠ b → w2.heap[x]? = w.heap[x]? := fun x hl hx => by rw [hw2, (Joins.below_alloc1 _ _).block x (by rw [size_set]; exact hl)]; exact setCell_block _ _ _ _ hx
    have vm2 : VM 2 w2 w.heap.size 0 (fun _ => none) := by rw [hw2]; have := VM.made 2 (w.setCell ⟨b, 6, none⟩ (.map (some w.heap.size))); rwa [size_set] at this
    have x6 := b2.cell 6
    have HH := Hid.mk (And.intro h (And.intro hb (And.intro ho (And.intro hv (And.intro b2 (And.intro o2 (And.intro vm2 (And.intro K1 q))))))))
    have HE : Hid (w2.os = w.os ∧ w2.tape = w.tape ∧ w2.output = w.output ∧ w2.heap.size = w.heap.size + 1) := ⟨by rw [hw2]; exact ⟨rfl, rfl, rfl, by rw [World.size_alloc, size_set]⟩⟩
    have nb : ¬ b = w.heap.size := by omega
    clear h hb ht hc XB ho hv b2 o2 vm2 K1 q
    go_enter Tryz.func93, Tryz.ntmps93
    subst hw2
    go_wp2_with (at_mapUpdate; refine wpList_vm_put _ rfl _ _ _ 89 rfl 2 78 lawJ Tryz.underlying89 w.heap.size 0 _ rfl HH.out.2.2.2.2.2.2.1 (by unfold maxLen; omega) _ _ _ rfl rfl kI ?_; intro w3 vm3 gr3)
    go_end0
    obtain ⟨h, hb, ho, hv, b2, o2, vm2, K1, q⟩ := HH.out
    obtain ⟨e1, e2, e3, e4⟩ := HE.out
    have fr : G w.heap.size = none := h.free (Nat.le_refl _)
    have le := le_tag fr (.items t)
    have R1 : Rep (w.alloc (.map #[] 0)) (Lz.tag G w.heap.size (.items t)) th rows := (h.below K1).tag fr (show w.heap.size < _ by simp) (fun i => by simp) (fun j => by simp)
    have o3 : ∀ x, x < w.heap.size → x ≠ b → w3.heap[x]? = w.heap[x]? := fun x hx hne => (gr3.block x (by rw [e4]; omega) (fun z => by cases z; omega)).trans (o2 x hx hne)
    have b3 : w3.heap[b]? = some (.cells (thC 5 l.length nilp nilp (ptr bo) nils (.map (some w.heap.size)) 0) 91 (0, 0)) := (gr3.block b (by rw [e4]; omega) (fun z => by cases z; omega)).trans b2
    have ti := arr_put (w3 := w3) (t := t) (l := l) (o0 := o0) (u := u) (pT.le le ⟨bo, rfl, ho⟩) (pT.le le ⟨bv, rfl, hv⟩) (tag_self G w.heap.size (.items t)) vm3 hk hl (fun kl z => by simp at z) (fun j x hj => by
      rw [q] at hj
      have jx : x = o0 := by
        have := List.getElem?_replicate (a := o0) (n := l.length) (i := j)
        rw [this] at hj
        split at hj
        · cases hj; rfl
        · cases hj
      rw [jx]
      exact pT.le le ⟨bo, rfl, ho⟩)
    refine ⟨rfl, _, ⟨gr3.os.trans e1, gr3.tape.trans e2, gr3.output.trans e3, by have := gr3.size; rw [e4] at this; omega, fun x hx q => o3 x hx (fun z => by rw [z, hb] at q; exact q), le, fun x hx q => by rw [tag_ne _ _ (by omega)]; exact q⟩, ?_, fun x j hx => o3 x (h.lt hx) (fun z => by rw [z, hb] at hx; cases hx)⟩
    refine R1.put (le _ _ hb) (by have := gr3.size; rw [e4] at this; simp; omega) b3 ti (fun x ty hx hne hit => ?_)
    by_cases z : x = w.heap.size
    · subst z; rw [tag_self] at hx; cases hx; exact absurd rfl hit
    · rw [tag_ne _ _ z] at hx
      have xl := h.lt hx
      exact (o3 x xl hne).trans (K1.block x xl).symm
  · have mn := mapSome m w
    have ml := h.lt gm
    have nmb : m ≠ b := fun z => by rw [z, hb] at gm; cases gm
    have HH := Hid.mk (And.intro h (And.intro hb (And.intro ho (And.intro hv (And.intro gm (And.intro hd (And.intro hc q)))))))
    clear h hb ht hc XB ho hv q hd gm
    go_enter Tryz.func93, Tryz.ntmps93
    go_wp2_with (at_mapUpdate; refine wpList_vm_put _ rfl _ _ _ 89 rfl 2 78 lawJ Tryz.underlying89 m n _ rfl vm (by unfold maxLen; omega) _ _ _ rfl rfl kI ?_; intro w3 vm3 gr3)
    go_end0
    obtain ⟨h, hb, ho, hv, gm, hd, hc, q⟩ := HH.out
    have o3 : ∀ x, x < w.heap.size → x ≠ m → w3.heap[x]? = w.heap[x]? := fun x hx hne => gr3.block x hx (fun z => by cases z; exact hne rfl)
    have b3 : w3.heap[b]? = some (.cells (thC 5 l.length nilp nilp (ptr bo) nils (.map (some m)) 0) 91 (0, 0)) := (o3 b blt (fun z => nmb z.symm)).trans hc
    have ti := arr_put (w3 := w3) (t := t) (l := l) (o0 := o0) (u := u) ⟨bo, rfl, ho⟩ ⟨bv, rfl, hv⟩ gm vm3 hk hl hd q
    exact ⟨rfl, G, Fx.of_own gm (by simp [fixd]) gr3.os gr3.tape gr3.output gr3.size (fun i hi hne => o3 i hi hne), h.put hb gr3.size b3 ti (fun x ty hx hne hit => o3 x (h.lt hx) (fun z => by rw [z, gm] at hx; cases hx; exact hit rfl)), fun x j hx => o3 x (h.lt hx) (fun z => by rw [z, gm] at hx; cases hx)⟩
end
end Go.Proofs.YtbajpejnnfacbaaGreatDoor.Lz

/- Package lazy: what primitives tell. -/
namespace Go.Proofs.YtbajpejnnfacbaaGreatDoor.Lz
open Go.RowKit
set_option linter.unusedVariables false
set_option linter.unusedSimpArgs false


section
variable {w w' : World} {G G' : Gm} {rb mb : Nat} {mv : Mv} {s : St} {sh : Int}
theorem prw_get {th : List T} {rows : List (List Nat)} (h : Rep w G th rows) {j n : Nat} {v : Value} (k : pPrw G j n v) {l : List Nat} (hr : rows[j]? = some l) (hn : n = l.length) :
    ∃ g cap, v = .slice (some ⟨g, 0, none⟩) n cap ∧ ∀ i, i < l.length → ∃ b, w.cell? ⟨g, i, none⟩ = some (ptr b) ∧ G b = some (.thing (l.getD i 0)) := by
  obtain ⟨g, cap, rfl, _, hg⟩ := k
  refine ⟨g, cap, rfl, fun i hi => ?_⟩
  obtain ⟨l', c, e, hc, _, ht⟩ := h.cont g _ hg
  rw [hr] at e
  cases e
  have eg : l[i]? = some (l.getD i 0) := by rw [List.getD_eq_getElem?_getD, List.getElem?_eq_getElem hi]; rfl
  obtain ⟨v, hv, b, rfl, hb⟩ := ht i _ eg
  exact ⟨b, (Joins.cell_of_block hc i).trans hv, hb⟩
/-- a thing more -/
theorem Run.newT (h : Run w G rb mb mv s sh) {t : T} {c : Array Value} (ht : isT (w.alloc (.cells c 91)) (Lz.tag G w.heap.size (.thing s.th.length)) s.th.length t c) :
    Run (w.alloc (.cells c 91)) (Lz.tag G w.heap.size (.thing s.th.length)) rb mb mv { s with th := s.th ++ [t] } sh ∧ Fx G (Lz.tag G w.heap.size (.thing s.th.length)) w (w.alloc (.cells c 91)) := by
  have K := Joins.below_alloc1 w (.cells c 91)
  have fr := h.rep.free (Nat.le_refl _)
  have F : Fx G (Lz.tag G w.heap.size (.thing s.th.length)) w (w.alloc (.cells c 91)) := (Fx.of_below K).more rfl rfl rfl (Nat.le_refl _) (fun _ _ => rfl) (le_tag fr _) (fun i hi q => by rw [tag_ne _ _ (by omega)]; exact q)
  exact ⟨h.next F (fun b k hb => K.block b (h.rep.lt hb)) ((h.rep.below K).thing fr (heap_alloc_new w _) ht), F⟩
theorem tellNew_out (h : Run w G rb mb mv s sh) {t : T} {c : Array Value} (ht : isT (w.alloc (.cells c 91)) (Lz.tag G w.heap.size (.thing s.th.length)) s.th.length t c) :
    Calls Tryz.prog 67 #[ptr rb, ptr w.heap.size] (w.alloc (.cells c 91)) (Out w G rb mb mv (tellNew s t) sh) := by
  obtain ⟨R, F⟩ := h.newT ht
  exact (tells_any R ⟨w.heap.size, rfl, tag_self _ _ _⟩).mono (fun e w8 H => Out.from F H)
/-- a number more -/
theorem tellNum_out (h : Run w G rb mb mv s sh) (n : Int) : Calls Tryz.prog 67 #[ptr rb, ptr w.heap.size] (w.alloc (.cells (numC n) 91)) (Out w G rb mb mv (tellNew s (.num n)) sh) := tellNew_out h rfl
theorem getI {l : List Nat} {k : Nat} {m : Nat} (h : (l.length : Int) = tA k) (q : (m : Int) < tA k) : m < l.length := by omega
theorem seq_any (h : Run w G rb mb mv s sh) {j n : Nat} {v : Value} (hv : pPrw G j n v) {l : List Nat} (hr : s.rows[j]? = some l) (hn : n = l.length) (ha : Args s.th 9 l) : Calls Tryz.prog 85 #[ptr rb, v] w (Out w G rb mb mv (primS s 9 l) sh) := by
  obtain ⟨g, cap, rfl, hg⟩ := prw_get h.rep hv hr hn
  have ln : l.length = 2 := by have := ha.1; simp [tA] at this; omega
  obtain ⟨b, cb, hb⟩ := hg 1 (by omega)
  have K := knows_any h ⟨b, rfl, hb⟩
  rw [hn, ln]
  clear h hv hg hr ha hn hb
  go_enter Tryz.func85, Tryz.ntmps85
  go_wp2_with (go_at_call 49; refine K.mono ?_; intro e w9 H9; have HE := Hid.mk H9; obtain ⟨rfl, _⟩ := H9)
  go_end0
  exact HE.out
theorem ref_any (h : Run w G rb mb mv s sh) {j n : Nat} {v : Value} (hv : pPrw G j n v) {l : List Nat} (hr : s.rows[j]? = some l) (hn : n = l.length) (ha : Args s.th 10 l) : Calls Tryz.prog 86 #[ptr rb, v] w (Out w G rb mb mv (primS s 10 l) sh) := by
  obtain ⟨g, cap, rfl, hg⟩ := prw_get h.rep hv hr hn
  have ln : l.length = 1 := by have := ha.1; simp [tA] at this; omega
  obtain ⟨b, cb, hb⟩ := hg 0 (by omega)
  have K := tellNew_out h (t := .var (l.getD 0 0)) (c := thC 4 0 nilp nilp (ptr b) nils nilm 0) ⟨_, pT.le (le_tag (h.rep.free (Nat.le_refl _)) _) ⟨b, rfl, hb⟩, rfl⟩
  rw [hn, ln]
  clear h hv hg hr ha hn hb
  go_enter Tryz.func86, Tryz.ntmps86
  go_wp2_with (go_at_call 67; refine K.mono ?_; intro e w9 H9; have HE := Hid.mk H9; obtain ⟨rfl, _⟩ := H9)
  go_end0
  exact HE.out
theorem get_any (h : Run w G rb mb mv s sh) {j n : Nat} {v : Value} (hv : pPrw G j n v) {l : List Nat} (hr : s.rows[j]? = some l) (hn : n = l.length) (ha : Args s.th 11 l) : Calls Tryz.prog 87 #[ptr rb, v] w (Out w G rb mb mv (primS s 11 l) sh) := by
  obtain ⟨g, cap, rfl, hg⟩ := prw_get h.rep hv hr hn
  have ln : l.length = 1 := by have := ha.1; simp [tA] at this; omega
  obtain ⟨b, cb, hb⟩ := hg 0 (by omega)
  obtain ⟨u, hu⟩ := Known.var (show Known s.th (l.getD 0 0) 3 from ha.2.2 0 (by decide))
  obtain ⟨tv, c, e, hc, q⟩ := h.rep.cont b _ hb
  rw [hu] at e
  cases e
  obtain ⟨o, ⟨bo, rfl, ho⟩, rfl⟩ := q
  have c4 := (show Bx w b _ 91 from hc).cell 4
  have K := knows_any h ⟨bo, rfl, ho⟩
  have ep : primS s 11 l = { s with md := .kn u } := by
    have : thAt s (l.getD 0 0) = .var u := thAt_some hu
    unfold primS
    simp only [this]
    simp [ofT]
  rw [ep, hn, ln]
  clear h hv hg hr ha hn hb hu hc ho ep
  go_enter Tryz.func87, Tryz.ntmps87
  go_wp2_with (go_at_call 49; refine K.mono ?_; intro e w9 H9; have HE := Hid.mk H9; obtain ⟨rfl, _⟩ := H9)
  go_end0
  exact HE.out
theorem len_any (h : Run w G rb mb mv s sh) {j n : Nat} {v : Value} (hv : pPrw G j n v) {l : List Nat} (hr : s.rows[j]? = some l) (hn : n = l.length) (ha : Args s.th 16 l) : Calls Tryz.prog 94 #[ptr rb, v] w (Out w G rb mb mv (primS s 16 l) sh) := by
  obtain ⟨g, cap, rfl, hg⟩ := prw_get h.rep hv hr hn
  have ln : l.length = 1 := by have := ha.1; simp [tA] at this; omega
  obtain ⟨b, cb, hb⟩ := hg 0 (by omega)
  obtain ⟨tv, e, f, nm, o, ga, gn, gc, it, wr, XB⟩ := h.rep.heads hb
  have c1 := XB.cell 1
  have K := tellNum_out h (numOf tv)
  have NA := numbered_any w (numOf tv)
  have ep : primS s 16 l = tellNew s (.num (numOf tv)) := by
    have : thAt s (l.getD 0 0) = tv := thAt_some e
    unfold primS
    simp only [this]
    simp
  rw [ep, hn, ln]
  generalize numOf tv = m at *
  clear h hv hg hr ha hn hb e XB ep
  go_enter Tryz.func94, Tryz.ntmps94
  go_wp2_with (first | (go_at_call 35; refine NA.mono ?_; rintro e w8 ⟨rfl, rfl⟩) | (go_at_call 67; refine K.mono ?_; intro e w9 H9; have HE := Hid.mk H9; obtain ⟨rfl, _⟩ := H9))
  go_end0
  exact HE.out
theorem arr_any (h : Run w G rb mb mv s sh) {j n : Nat} {v : Value} (hv : pPrw G j n v) {l : List Nat} (hr : s.rows[j]? = some l) (hn : n = l.length) (ha : Args s.th 13 l) (hw : s.ws.length ≤ 1000000000) : Calls Tryz.prog 89 #[ptr rb, v] w (Out w G rb mb mv (primS s 13 l) sh) := by
  obtain ⟨g, cap, rfl, hg⟩ := prw_get h.rep hv hr hn
  have ln : l.length = 2 := by have := ha.1; simp [tA] at this; omega
  obtain ⟨b, cb, hb⟩ := hg 0 (by omega)
  obtain ⟨b1, cb1, hb1⟩ := hg 1 (by omega)
  obtain ⟨m, hm⟩ := Known.num (show Known s.th (l.getD 0 0) 2 from ha.2.2 0 (by decide))
  obtain ⟨tv, c, e, hc, q⟩ := h.rep.cont b _ hb
  rw [hm] at e
  cases e
  cases q
  have c1 := (show Bx w b _ 91 from hc).cell 1
  have et : thAt s (l.getD 0 0) = .num m := thAt_some hm
  by_cases r : m < 0 ∨ 1024 < m
  · have ep : primS s 13 l = failS s 46 := by unfold primS; simp only [et, numOf]; simp [r]
    have K := fails_any h 46 hw
    rw [ep, hn, ln]
    by_cases r0 : m < 0
    · have g0 : decide (m < 0) = true := decide_eq_true r0
      clear h hv hg hr ha hn hb hb1 hm hc et r ep
      go_enter Tryz.func89, Tryz.ntmps89
      go_wp2_with (go_at_call 75; refine K.mono ?_; intro e w9 H9; have HE := Hid.mk H9; obtain ⟨rfl, _⟩ := H9)
      go_end0
      exact HE.out
    · have g0 : decide (m < 0) = false := decide_eq_false r0
      have g1 : decide (1024 < m) = true := decide_eq_true (by omega)
      clear h hv hg hr ha hn hb hb1 hm hc et r ep
      go_enter Tryz.func89, Tryz.ntmps89
      go_wp2_with (go_at_call 75; refine K.mono ?_; intro e w9 H9; have HE := Hid.mk H9; obtain ⟨rfl, _⟩ := H9)
      go_end0
      exact HE.out
  · have r0 : ¬ m < 0 := by omega
    have r1 : ¬ 1024 < m := by omega
    have ep : primS s 13 l = tellNew s (.arr (List.replicate m.toNat (l.getD 1 0))) := by unfold primS; simp only [et, numOf]; rw [if_neg r]; simp
    have K := tellNew_out h (t := .arr (List.replicate m.toNat (l.getD 1 0))) (c := thC 5 m nilp nilp (ptr b1) nils nilm 0) ⟨ptr b1, l.getD 1 0, nilm, pT.le (le_tag (h.rep.free (Nat.le_refl _)) _) ⟨b1, rfl, hb1⟩, by rw [List.length_replicate, Int.toNat_of_nonneg (by omega)], .inl ⟨rfl, by rw [List.length_replicate]⟩⟩
    rw [ep, hn, ln]
    have g0 : decide (m < 0) = false := decide_eq_false r0
    have g1 : decide (1024 < m) = false := decide_eq_false r1
    clear h hv hg hr ha hn hb hb1 hm hc et r ep
    go_enter Tryz.func89, Tryz.ntmps89
    go_wp2_with (go_at_call 67; refine K.mono ?_; intro e w9 H9; have HE := Hid.mk H9; obtain ⟨rfl, _⟩ := H9)
    go_end0
    exact HE.out
end
end Go.Proofs.YtbajpejnnfacbaaGreatDoor.Lz
