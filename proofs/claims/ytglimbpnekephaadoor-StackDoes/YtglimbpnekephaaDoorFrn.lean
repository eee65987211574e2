/- Package stack: the range over the frames, handed the law's own function. -/
import Derived.Test.YtglimbpnekephaaDoorFrt
import Derived.Test.YtglimbpnekephaaDoorNon
namespace Go.Proofs.YtglimbpnekephaaDoor
open Go.RowKit Go.Shelf
set_option linter.unusedVariables false
set_option linter.unusedSimpArgs false
attribute [local go_sem] Oper.semAt_some

theorem RdB.own {A B : World} {row : Option Nat} {z g cap : Nat} {us : List Int} (h : RdB A z g cap us) (hg : A.grownBy B row) (hr : ∀ r, row = some r → ∃ o : Obj, A.heap[r]? = some o ∧ o.isCells = false) : RdB B z g cap us :=
  ⟨cell_kept h.c0 hg hr, h.cap, h.len, fun i hi => cell_kept (h.num i hi) hg hr, Nat.lt_of_lt_of_le h.gl hg.size⟩
theorem Rw.owned {A B : World} {row : Option Nat} {base : Nat} {v : Value} {l : List Fp} (h : Rw A base v l) (hg : A.grownBy B row) (hr : ∀ r, row = some r → ∃ o : Obj, A.heap[r]? = some o ∧ o.isCells = false) : Rw B base v l := by
  refine ⟨h.1, ?_⟩
  rcases h.2 with hn | ⟨g, cap, cur, rfl, hb, hgg, rest⟩
  · exact .inl hn
  · exact .inr ⟨g, cap, cur, rfl, hb, (cells_kept hgg hg hr).trans hgg, rest⟩
theorem keeps_kq {W w' : World} {y base : Nat} {v u : Value} {l : List Fp} (K : Kq y v W w') (Y : Bx W y #[u] 29) (R : Rw W base v l) : KeepsOthers W w' :=
  ⟨K.size, fun k o hk ho => (K.block k (Array.getElem?_eq_some_iff.1 hk).1 (fun e => by subst e; unfold Bx at Y; rw [Y] at hk; cases hk; cases ho) (fun e => by
    rcases R.2 with ⟨rfl, _⟩ | ⟨g, cap, cur, rfl, _, hg', _⟩
    · cases e
    · cases e; rw [hg'] at hk; cases hk; cases ho)).trans hk⟩
/-- what stands in the call's boxes, and the list so far -/
structure Fb (W : World) (y z0 g cap base : Nat) (rs : List Fr) (v : Value) (l : List Fp) : Prop where
  yb : Bx W z0 #[.func (.func 52) #[] #[.pointer (some ⟨y, 0, none⟩)]] 43
  wb : Bx W (z0 + 1 + 1) #[.func (.func 59) #[] #[.pointer (some ⟨z0 + 1, 0, none⟩)]] 82
  rd : RdB W (z0 + 1) g cap (wd rs)
  Y : Bx W y #[v] 29
  R : Rw W base v l
  q : ∀ x ∈ l, PT W x.o x.c x.f.ps
theorem Fb.own {A B : World} {row : Option Nat} {y z0 g cap base : Nat} {rs : List Fr} {v : Value} {l : List Fp} (h : Fb A y z0 g cap base rs v l) (hg : A.grownBy B row) (hr : ∀ r, row = some r → ∃ o : Obj, A.heap[r]? = some o ∧ o.isCells = false) : Fb B y z0 g cap base rs v l :=
  ⟨h.yb.own hg hr, h.wb.own hg hr, h.rd.own hg hr, h.Y.own hg hr, h.R.owned hg hr, fun x hx => (h.q x hx).own hg hr⟩
theorem Fb.later {A B : World} {y z0 g cap base : Nat} {rs : List Fr} {v : Value} {l : List Fp} (h : Fb A y z0 g cap base rs v l) (hB : Below A.heap.size A B) : Fb B y z0 g cap base rs v l :=
  ⟨(hB.block _ h.yb.lt).trans h.yb, (hB.block _ h.wb.lt).trans h.wb, h.rd.later hB, (hB.block _ h.Y.lt).trans h.Y, h.R.later hB, fun x hx => (h.q x hx).later hB⟩
/-- a frame more -/
theorem Fb.more {A B : World} {y z0 g cap base : Nat} {rs : List Fr} {v v' : Value} {l : List Fp} {x : Fp} (h : Fb A y z0 g cap base rs v l) (hx : PT A x.o x.c x.f.ps) (K : Kq y v A B) (Y : Bx B y #[v'] 29) (R : Rw B base v' (l ++ [x])) (hg : g < y) (hy : y < z0) (hz : z0 + 3 ≤ base) : Fb B y z0 g cap base rs v' (l ++ [x]) := by
  have nb : ∀ k, k < base → v.ownBlock ≠ some k := fun k hk e => by have := (World.ownsRow.lt h.R k e).1; omega
  have l1 := h.yb.lt
  have l2 := h.wb.lt
  have l3 := h.rd.lt
  refine ⟨(K.block _ l1 (by omega) (nb _ (by omega))).trans h.yb, (K.block _ l2 (by omega) (nb _ (by omega))).trans h.wb, h.rd.same (K.block _ l3.1 (by omega) (nb _ (by omega))) (K.block _ l3.2 (by omega) (nb _ (by omega))), Y, R, fun u hu => ?_⟩
  rcases List.mem_append.1 hu with hu | hu
  · exact (h.q u hu).kq K h.Y h.R
  · rw [List.mem_singleton] at hu
    subst hu
    exact hx.kq K h.Y h.R
def If (W : World) (rs : List Fr) (y z0 g cap base : Nat) (pre : List (Sp rs)) (W' : World) : Prop :=
  (∃ v l, Fb W' y z0 g cap base rs v l ∧ l.map Fp.f = pre.map (fun x => x.1.1) ∧ base ≤ W'.heap.size) ∧ Below y W W'
theorem if_own {W : World} {rs : List Fr} {y z0 g cap base B : Nat} (hy : y ≤ W.heap.size) (hB : y ≤ B) : OwnFrom B (If W rs y z0 g cap base) :=
  OwnFrom.and (Own.from (fun s A C row hs hg hr => by obtain ⟨v, l, h1, h2, h3⟩ := hs; exact ⟨v, l, h1.own hg hr, h2, Nat.le_trans h3 hg.size⟩) _) (ownFrom_below hy hB)
theorem sfx_fst : ∀ rs : List Fr, (sfx rs).map Prod.fst = rs
  | [] => rfl
  | f :: r => by have := sfx_fst r; simpa [sfx] using this
set_option maxRecDepth 100000 in
set_option maxHeartbeats 8000000 in
theorem frames1_any {W : World} {y z g cap : Nat} {rs : List Fr} (R : RdB W z g cap (wd rs)) (Y : Bx W y #[.slice none 0 0] 29) (hok : ∀ f ∈ rs, Okf f) (hus : (wd rs).length ≤ 65536) (hg : g < y) :
    Calls Tryd.prog 53 #[.func (.func 52) #[] #[.pointer (some ⟨y, 0, none⟩)], .pointer (some ⟨z, 0, none⟩)] W fun e w' => (∃ v, e = .returned v) ∧ (∃ v l, Bx w' y #[v] 29 ∧ Rw w' (W.heap.size + 1 + 1 + 1 + 1 + 1) v l ∧ l.map Fp.f = rs ∧ ∀ x ∈ l, PT w' x.o x.c x.f.ps) ∧ Below y W w' := by
  refine (callsIn_wide (n := 3)).1 ?_
  refine callsIn_of_wp_marks Tryd.func53 rfl trivial ?_ rfl
  simp only [Tryd.ntmps53, List.size_toArray, List.length_cons, List.length_nil, Nat.reduceAdd, Nat.reduceSub, Array.replicate_succ, Array.replicate_zero, List.push_toArray, List.append_toArray, List.nil_append, List.cons_append]
  have c0 := R.c0
  have yl := Y.lt
  have rl := rs_len rs
  have SK := fun W' zz => spots_mkB zz (wd rs).length W'
  have IN := fun W' => inrow_mk W' (some ⟨g, 0, none⟩) (wd rs).length cap
  have B4 : Below W.heap.size W (((((W.alloc (.cells #[.func (.func 52) #[] #[.pointer (some ⟨y, 0, none⟩)]] 43)).alloc (.cells #[.slice (some ⟨g, 0, none⟩) (wd rs).length cap] 72)).alloc (.cells #[.func (.func 59) #[] #[.pointer (some ⟨W.heap.size + 1, 0, none⟩)]] 82)).alloc (.cells #[.func (.func 59) #[] #[.pointer (some ⟨W.heap.size + 1, 0, none⟩)]] 82)).alloc (.cells #[.int .i64 (wd rs).length] 3)) := by go_grown
  have s4 : (((((W.alloc (.cells #[.func (.func 52) #[] #[.pointer (some ⟨y, 0, none⟩)]] 43)).alloc (.cells #[.slice (some ⟨g, 0, none⟩) (wd rs).length cap] 72)).alloc (.cells #[.func (.func 59) #[] #[.pointer (some ⟨W.heap.size + 1, 0, none⟩)]] 82)).alloc (.cells #[.func (.func 59) #[] #[.pointer (some ⟨W.heap.size + 1, 0, none⟩)]] 82)).alloc (.cells #[.int .i64 (wd rs).length] 3)).heap.size = (W.heap.size + 1 + 1 + 1 + 1 + 1) := by simp
  have n0 : (((((W.alloc (.cells #[.func (.func 52) #[] #[.pointer (some ⟨y, 0, none⟩)]] 43)).alloc (.cells #[.slice (some ⟨g, 0, none⟩) (wd rs).length cap] 72)).alloc (.cells #[.func (.func 59) #[] #[.pointer (some ⟨W.heap.size + 1, 0, none⟩)]] 82)).alloc (.cells #[.func (.func 59) #[] #[.pointer (some ⟨W.heap.size + 1, 0, none⟩)]] 82)).alloc (.cells #[.int .i64 (wd rs).length] 3)).heap[W.heap.size]? = some (.cells #[.func (.func 52) #[] #[.pointer (some ⟨y, 0, none⟩)]] 43 (0, 0)) := (Below.heap_alloc _ _ _ (by simp <;> omega)).trans ((Below.heap_alloc _ _ _ (by simp <;> omega)).trans ((Below.heap_alloc _ _ _ (by simp <;> omega)).trans ((Below.heap_alloc _ _ _ (by simp)).trans (heap_alloc_new _ _))))
  have n1 : (((((W.alloc (.cells #[.func (.func 52) #[] #[.pointer (some ⟨y, 0, none⟩)]] 43)).alloc (.cells #[.slice (some ⟨g, 0, none⟩) (wd rs).length cap] 72)).alloc (.cells #[.func (.func 59) #[] #[.pointer (some ⟨W.heap.size + 1, 0, none⟩)]] 82)).alloc (.cells #[.func (.func 59) #[] #[.pointer (some ⟨W.heap.size + 1, 0, none⟩)]] 82)).alloc (.cells #[.int .i64 (wd rs).length] 3)).heap[W.heap.size + 1]? = some (.cells #[.slice (some ⟨g, 0, none⟩) (wd rs).length cap] 72 (0, 0)) := by
    have h1 := heap_alloc_new (W.alloc (.cells #[.func (.func 52) #[] #[.pointer (some ⟨y, 0, none⟩)]] 43)) (.cells #[.slice (some ⟨g, 0, none⟩) (wd rs).length cap] 72)
    simp only [World.size_alloc] at h1
    exact (Below.heap_alloc _ _ _ (by simp <;> omega)).trans ((Below.heap_alloc _ _ _ (by simp <;> omega)).trans ((Below.heap_alloc _ _ _ (by simp)).trans h1))
  have n2 : (((((W.alloc (.cells #[.func (.func 52) #[] #[.pointer (some ⟨y, 0, none⟩)]] 43)).alloc (.cells #[.slice (some ⟨g, 0, none⟩) (wd rs).length cap] 72)).alloc (.cells #[.func (.func 59) #[] #[.pointer (some ⟨W.heap.size + 1, 0, none⟩)]] 82)).alloc (.cells #[.func (.func 59) #[] #[.pointer (some ⟨W.heap.size + 1, 0, none⟩)]] 82)).alloc (.cells #[.int .i64 (wd rs).length] 3)).heap[W.heap.size + 1 + 1]? = some (.cells #[.func (.func 59) #[] #[.pointer (some ⟨W.heap.size + 1, 0, none⟩)]] 82 (0, 0)) := by
    have h1 := heap_alloc_new ((W.alloc (.cells #[.func (.func 52) #[] #[.pointer (some ⟨y, 0, none⟩)]] 43)).alloc (.cells #[.slice (some ⟨g, 0, none⟩) (wd rs).length cap] 72)) (.cells #[.func (.func 59) #[] #[.pointer (some ⟨W.heap.size + 1, 0, none⟩)]] 82)
    simp only [World.size_alloc] at h1
    exact (Below.heap_alloc _ _ _ (by simp <;> omega)).trans ((Below.heap_alloc _ _ _ (by simp)).trans h1)
  have n3 : (((((W.alloc (.cells #[.func (.func 52) #[] #[.pointer (some ⟨y, 0, none⟩)]] 43)).alloc (.cells #[.slice (some ⟨g, 0, none⟩) (wd rs).length cap] 72)).alloc (.cells #[.func (.func 59) #[] #[.pointer (some ⟨W.heap.size + 1, 0, none⟩)]] 82)).alloc (.cells #[.func (.func 59) #[] #[.pointer (some ⟨W.heap.size + 1, 0, none⟩)]] 82)).alloc (.cells #[.int .i64 (wd rs).length] 3)).heap[W.heap.size + 1 + 1 + 1]? = some (.cells #[.func (.func 59) #[] #[.pointer (some ⟨W.heap.size + 1, 0, none⟩)]] 82 (0, 0)) := by
    have h1 := heap_alloc_new (((W.alloc (.cells #[.func (.func 52) #[] #[.pointer (some ⟨y, 0, none⟩)]] 43)).alloc (.cells #[.slice (some ⟨g, 0, none⟩) (wd rs).length cap] 72)).alloc (.cells #[.func (.func 59) #[] #[.pointer (some ⟨W.heap.size + 1, 0, none⟩)]] 82)) (.cells #[.func (.func 59) #[] #[.pointer (some ⟨W.heap.size + 1, 0, none⟩)]] 82)
    simp only [World.size_alloc] at h1
    exact (Below.heap_alloc _ _ _ (by simp)).trans h1
  have n4 : (((((W.alloc (.cells #[.func (.func 52) #[] #[.pointer (some ⟨y, 0, none⟩)]] 43)).alloc (.cells #[.slice (some ⟨g, 0, none⟩) (wd rs).length cap] 72)).alloc (.cells #[.func (.func 59) #[] #[.pointer (some ⟨W.heap.size + 1, 0, none⟩)]] 82)).alloc (.cells #[.func (.func 59) #[] #[.pointer (some ⟨W.heap.size + 1, 0, none⟩)]] 82)).alloc (.cells #[.int .i64 (wd rs).length] 3)).heap[W.heap.size + 1 + 1 + 1 + 1]? = some (.cells #[.int .i64 (wd rs).length] 3 (0, 0)) := by
    have h1 := heap_alloc_new ((((W.alloc (.cells #[.func (.func 52) #[] #[.pointer (some ⟨y, 0, none⟩)]] 43)).alloc (.cells #[.slice (some ⟨g, 0, none⟩) (wd rs).length cap] 72)).alloc (.cells #[.func (.func 59) #[] #[.pointer (some ⟨W.heap.size + 1, 0, none⟩)]] 82)).alloc (.cells #[.func (.func 59) #[] #[.pointer (some ⟨W.heap.size + 1, 0, none⟩)]] 82)) (.cells #[.int .i64 (wd rs).length] 3)
    simp only [World.size_alloc] at h1
    exact h1
  have R4 : RdB (((((W.alloc (.cells #[.func (.func 52) #[] #[.pointer (some ⟨y, 0, none⟩)]] 43)).alloc (.cells #[.slice (some ⟨g, 0, none⟩) (wd rs).length cap] 72)).alloc (.cells #[.func (.func 59) #[] #[.pointer (some ⟨W.heap.size + 1, 0, none⟩)]] 82)).alloc (.cells #[.func (.func 59) #[] #[.pointer (some ⟨W.heap.size + 1, 0, none⟩)]] 82)).alloc (.cells #[.int .i64 (wd rs).length] 3)) (W.heap.size + 1) g cap (wd rs) := by
    have Rl := R.later B4
    exact ⟨by rw [Joins.cell_of_block n1]; rfl, Rl.cap, Rl.len, Rl.num, Rl.gl⟩
  have L : LiesB (((((W.alloc (.cells #[.func (.func 52) #[] #[.pointer (some ⟨y, 0, none⟩)]] 43)).alloc (.cells #[.slice (some ⟨g, 0, none⟩) (wd rs).length cap] 72)).alloc (.cells #[.func (.func 59) #[] #[.pointer (some ⟨W.heap.size + 1, 0, none⟩)]] 82)).alloc (.cells #[.func (.func 59) #[] #[.pointer (some ⟨W.heap.size + 1, 0, none⟩)]] 82)).alloc (.cells #[.int .i64 (wd rs).length] 3)) (W.heap.size + 1 + 1 + 1 + 1) (W.heap.size + 1 + 1 + 1) (W.heap.size + 1) g cap rs := ⟨n4, n3, R4, hok, hus⟩
  have I0 : Hid (If W rs y W.heap.size g cap (W.heap.size + 1 + 1 + 1 + 1 + 1) [] (((((W.alloc (.cells #[.func (.func 52) #[] #[.pointer (some ⟨y, 0, none⟩)]] 43)).alloc (.cells #[.slice (some ⟨g, 0, none⟩) (wd rs).length cap] 72)).alloc (.cells #[.func (.func 59) #[] #[.pointer (some ⟨W.heap.size + 1, 0, none⟩)]] 82)).alloc (.cells #[.func (.func 59) #[] #[.pointer (some ⟨W.heap.size + 1, 0, none⟩)]] 82)).alloc (.cells #[.int .i64 (wd rs).length] 3))) := ⟨⟨⟨_, [], ⟨n0, n2, R4, (B4.block y yl).trans Y, Rw.nil _ _, fun x hx => (by cases hx)⟩, rfl, by rw [s4]; exact Nat.le_refl _⟩, B4.mono (by omega)⟩⟩
  have c1 := Lib.cell?_alloc_some (.cells #[.func (.func 52) #[] #[.pointer (some ⟨y, 0, none⟩)]] 43) c0
  have c2 : (((W.alloc (.cells #[.func (.func 52) #[] #[.pointer (some ⟨y, 0, none⟩)]] 43)).alloc (.cells #[.slice (some ⟨g, 0, none⟩) (wd rs).length cap] 72)).alloc (.cells #[.func (.func 59) #[] #[.pointer (some ⟨W.heap.size + 1, 0, none⟩)]] 82)).cell? ⟨z, 0, none⟩ = some (.slice (some ⟨g, 0, none⟩) (wd rs).length cap) := Lib.cell?_alloc_some _ (Lib.cell?_alloc_some _ c1)
  have HL := Hid.mk L
  have Hsz : Hid ((((((W.alloc (.cells #[.func (.func 52) #[] #[.pointer (some ⟨y, 0, none⟩)]] 43)).alloc (.cells #[.slice (some ⟨g, 0, none⟩) (wd rs).length cap] 72)).alloc (.cells #[.func (.func 59) #[] #[.pointer (some ⟨W.heap.size + 1, 0, none⟩)]] 82)).alloc (.cells #[.func (.func 59) #[] #[.pointer (some ⟨W.heap.size + 1, 0, none⟩)]] 82)).alloc (.cells #[.int .i64 (wd rs).length] 3)).heap.size = (W.heap.size + 1 + 1 + 1 + 1 + 1)) := ⟨s4⟩
  clear L B4 R R4 n0 n1 n2 n3 n4 s4 Y
  gi_wp2_with (first
    | (refine ⟨trivial, ?_⟩; gi_at_call 54; refine (callsIn_wide.2 (IN _)).mono ?_; rintro e w1 ⟨rfl, hw⟩; rw [hw]; clear hw)
    | (refine ⟨trivial, ?_⟩; gi_at_call 46; refine (callsIn_wide.2 (SK _ _)).mono ?_; rintro e w1 ⟨rfl, hw⟩; rw [hw]; clear hw))
  clear c1 c2 c0
  generalize (((((W.alloc (.cells #[.func (.func 52) #[] #[.pointer (some ⟨y, 0, none⟩)]] 43)).alloc (.cells #[.slice (some ⟨g, 0, none⟩) (wd rs).length cap] 72)).alloc (.cells #[.func (.func 59) #[] #[.pointer (some ⟨W.heap.size + 1, 0, none⟩)]] 82)).alloc (.cells #[.func (.func 59) #[] #[.pointer (some ⟨W.heap.size + 1, 0, none⟩)]] 82)).alloc (.cells #[.int .i64 (wd rs).length] 3)) = W4 at *
  refine wpIn_rangeFunc_ownF rfl (by decide) (gf := 56) (lb := #[.pointer (some ⟨W.heap.size + 1 + 1 + 1 + 1, 0, none⟩), .pointer (some ⟨W.heap.size + 1 + 1 + 1, 0, none⟩)]) rfl trivial (enters_of Tryd.func56 (by kernel_rfl) rfl)
    (spots_B 2 (W.heap.size + 1 + 1 + 1 + 1) (W.heap.size + 1 + 1 + 1) (W.heap.size + 1) g cap rs (by decide) _ HL.out) Sy.trans (Sy.put HL.out.lt) (Below.refl _ _) (fun _ => rfl)
    (If W rs y W.heap.size g cap (W.heap.size + 1 + 1 + 1 + 1 + 1)) (fun _ _ _ => False) (if_own (by omega) (by rw [Hsz.out]; omega)) (fun _ _ _ _ _ hs _ _ => hs) I0.out
    (fun x => { tmps := #[.func (.func 52) #[] #[.pointer (some ⟨y, 0, none⟩)], .pointer (some ⟨z, 0, none⟩), .pointer (some ⟨W.heap.size, 0, none⟩), .pointer (some ⟨W.heap.size + 1 + 1, 0, none⟩), .int .i64 ((wd x.1.2).length : Int), .int .i64 (x.1.1.ps.length : Int), .slice (some ⟨g, 0, none⟩) (wd rs).length cap, .func (.func 59) #[] #[.pointer (some ⟨W.heap.size + 1, 0, none⟩)], .func (.func 59) #[] #[.pointer (some ⟨W.heap.size + 1, 0, none⟩)], .slice (some ⟨g, 0, none⟩) (wd rs).length cap, .int .i64 ((wd rs).length : Int), .func (.func 56) #[] #[.pointer (some ⟨W.heap.size + 1 + 1 + 1 + 1, 0, none⟩), .pointer (some ⟨W.heap.size + 1 + 1 + 1, 0, none⟩)], .int .i64 ((wd x.1.2).length : Int), .int .i64 (x.1.1.ps.length : Int), undef, undef, undef, undef, undef, undef, undef], defers := [] }) ?assign ?body ?done ?stop
  case assign =>
    intro l x W' K hK
    gi_wp2
    exact hK
  case body =>
    rintro l pre ⟨⟨f, r⟩, hx⟩ W' ⟨⟨v, ls, HF, hmap, hb4⟩, hB⟩ hpl
    obtain ⟨q, hq⟩ := sfx_mem hx
    obtain ⟨e1, e2, e3⟩ := words_of hq
    have hf : Okf f := hok f (by rw [hq]; simp)
    have hll : ls.length ≤ 65536 := by have := congrArg List.length hmap; simp at this; omega
    have RD := fun W'' (B : Below W'.heap.size W' W'') => readT (HF.rd.later B) (wd r).length f hf e1 e2 e3
    have Q0 : Hid (∀ W5, Below W'.heap.size W' W5 → W5.cell? ⟨W.heap.size, 0, none⟩ = some (.func (.func 52) #[] #[.pointer (some ⟨y, 0, none⟩)])) := ⟨fun W5 B => (HF.later B).yb.cell 0⟩
    have FR : Hid (∀ W5 (_ : Below W'.heap.size W' W5) o cp, Calls Tryd.prog 52 #[fv f o cp, .pointer (some ⟨y, 0, none⟩)] W5 fun e w' => e = .returned (.bool true) ∧ (∃ v', Bx w' y #[v'] 29 ∧ Rw w' (W.heap.size + 1 + 1 + 1 + 1 + 1) v' (ls ++ [⟨f, o, cp⟩])) ∧ Kq y v W5 w') :=
      ⟨fun W5 B o cp => fr1_ok (HF.later B).Y (HF.later B).R hll (Nat.le_trans hb4 B.size) (by omega) f o cp⟩
    obtain ⟨M, hM⟩ : ∃ M : World → Prop, M = fun W8 => KeepsOthers W' W8 ∧ Sy (SyB (W.heap.size + 1 + 1 + 1 + 1) (W.heap.size + 1 + 1 + 1) (W.heap.size + 1) g) W' W8 ∧ If W rs y W.heap.size g cap (W.heap.size + 1 + 1 + 1 + 1 + 1) (pre ++ [(⟨(f, r), hx⟩ : Sp rs)]) W8 := ⟨_, rfl⟩
    have FIN : Hid (∀ o cp W5 W8 v', PT W5 o cp f.ps → Below W'.heap.size W' W5 → Bx W8 y #[v'] 29 → Rw W8 (W.heap.size + 1 + 1 + 1 + 1 + 1) v' (ls ++ [⟨f, o, cp⟩]) → Kq y v W5 W8 → M W8) := ⟨by
      intro o cp W5 W8 v' hpt B5 Y8 R8 K8
      have F5 := HF.later B5
      have nb : ∀ k, k < (W.heap.size + 1 + 1 + 1 + 1 + 1) → v.ownBlock ≠ some k := fun k hk e => by have := (World.ownsRow.lt F5.R k e).1; omega
      have bs := B5.size
      have hw := HF.wb.lt
      rw [hM]
      refine ⟨(keeps_below B5).trans (keeps_kq K8 F5.Y F5.R), fun k hk => ?_, ⟨⟨v', _, F5.more (x := ⟨f, o, cp⟩) hpt K8 Y8 R8 hg yl (by omega), by simp [hmap], by have := K8.size; omega⟩, ?_⟩⟩
      · have hk2 : k < (W.heap.size + 1 + 1 + 1 + 1 + 1) ∧ k ≠ y := by rcases hk with rfl | rfl | rfl | rfl <;> omega
        exact (K8.block k (by omega) hk2.2 (nb k hk2.1)).trans (B5.block k (by omega))
      · exact ⟨(K8.os.trans B5.os).trans hB.os, (K8.tape.trans B5.tape).trans hB.tape, (K8.output.trans B5.output).trans hB.output, by have := K8.size; have := hB.size; omega, fun k hk => ((K8.block k (by omega) (by omega) (nb k (by omega))).trans (B5.block k (by omega))).trans (hB.block k hk)⟩⟩
    have HM := Hid.mk hM
    have w0 : W'.cell? ⟨W.heap.size + 1 + 1, 0, none⟩ = some (.func (.func 59) #[] #[.pointer (some ⟨W.heap.size + 1, 0, none⟩)]) := HF.wb.cell 0
    have q1 : W'.cell? ⟨W.heap.size, 0, none⟩ = some (.func (.func 52) #[] #[.pointer (some ⟨y, 0, none⟩)]) := HF.yb.cell 0
    clear hM hq e1 e2 hf hmap HF hB
    dsimp only at *
    obtain ⟨t', ht'⟩ : ∃ t', (wd r).length = t' := ⟨_, rfl⟩
    obtain ⟨n', hn'⟩ : ∃ n', f.ps.length = n' := ⟨_, rfl⟩
    simp only [ht', hn'] at RD e3 ⊢
    try gi_wp2
    gi_cut [20] from 14 (fun v8 W8 => v8 = .bool false ∧ M W8)
    case first =>
        rename_i J K' hJ hK
        have hmx : Tryd.prog.follows .mixedOrders = true := by kernel_rfl
        first | gi_region_with_o (first
          | (refine ⟨trivial, ?_⟩; gi_at_call 47; refine (CallsIn.inRound l (callsIn_wide.2 (RD _ (below_drew W')))).mono ?_; rintro e W5 ⟨o, cp, rfl, hpt, hfr, B5'⟩; have B5 := belowOn (below_drew W') B5'; have q0 := Q0.out W5 B5)
          | (refine ⟨trivial, ?_⟩; gi_at_call 52; refine (CallsIn.inRound l (callsIn_wide.2 (FR.out W5 B5 o cp))).mono ?_; rintro e W8 ⟨rfl, ⟨v', Y8, R8⟩, K8⟩))
        all_goals exact hK _ _ (Met.intro (hJ _ _ ⟨_, _, _, _, _, _, _, ⟨rfl, FIN.out _ _ _ _ _ hpt B5 Y8 R8 K8⟩, rfl⟩))
    case rest =>
        obtain ⟨rfl, hm⟩ := hcut
        rw [HM.out] at hm
        gi_wp2
        exact hm
  case done =>
    rintro D ys W' hD hy ⟨⟨v, ls, HF, hmap, hb4⟩, hB⟩ hK
    gi_wp2
    have F9 := HF.own (grownBy_putObj' _ D (.deferred none)) (fun r e => by cases e; exact ⟨_, hK, rfl⟩)
    refine ⟨by simp, .inl ⟨_, _, rfl, run_takeDeferred hK, ?_⟩⟩
    refine ⟨_, results_none rfl _ _ _, ⟨_, rfl⟩, ⟨v, ls, F9.Y, F9.R, ?_, F9.q⟩, hB.trans (belowK_b (w := W) (by omega) W' D _ _ (by rw [Hsz.out] at hD; omega) hK rfl rfl)⟩
    have h1 := congrArg (List.map Prod.fst) hy
    rw [sfx_fst, List.map_map] at h1
    rw [hmap]
    exact h1
  case stop =>
    rintro D c pre W' _ _ h _
    exact h.elim
end Go.Proofs.YtglimbpnekephaaDoor
