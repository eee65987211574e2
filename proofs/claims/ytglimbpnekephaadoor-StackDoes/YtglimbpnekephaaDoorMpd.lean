/- Package stack: where the pointers of all frames stand. -/
import Derived.Test.YtglimbpnekephaaDoorMpc
import Derived.Test.YtglimbpnekephaaDoorNon
namespace Go.Proofs.YtglimbpnekephaaDoor
open Go.RowKit Go.Shelf
set_option linter.unusedVariables false
set_option linter.unusedSimpArgs false
attribute [local go_sem] Oper.semAt_some

/-- a list of numbers of one's own, in a block at or beyond base -/
def Ri (w : World) (base : Nat) (v : Value) (l : List Int) : Prop := w.ownsRow base 3 1 v l.length (rowI l)
theorem Ri.nil (w : World) (base : Nat) : Ri w base (.slice none 0 0) [] := World.ownsRow_nil _ _ _ _
theorem Ri.same {w w' : World} {base : Nat} {v : Value} {l : List Int} (h : Ri w base v l) (hb : ∀ g cs t z, base ≤ g → w.heap[g]? = some (.cells cs t z) → w'.heap[g]? = w.heap[g]?) : Ri w' base v l := by
  refine ⟨h.1, ?_⟩
  rcases h.2 with hn | ⟨g, cap, cur, rfl, hg, hgg, rest⟩
  · exact .inl hn
  · exact .inr ⟨g, cap, cur, rfl, hg, (hb g _ _ _ hg hgg).trans hgg, rest⟩
theorem Ri.later {w w' : World} {base : Nat} {v : Value} {l : List Int} (h : Ri w base v l) (hb : Below w.heap.size w w') : Ri w' base v l := h.same fun g _ _ _ _ hg => hb.block g (Array.getElem?_eq_some_iff.1 hg).1
theorem Ri.own {A B : World} {row : Option Nat} {base : Nat} {v : Value} {l : List Int} (h : Ri A base v l) (hg : A.grownBy B row) (hr : ∀ r, row = some r → ∃ o : Obj, A.heap[r]? = some o ∧ o.isCells = false) : Ri B base v l := h.same fun g _ _ _ _ hm => cells_kept hm hg hr
theorem Ri.form {w : World} {base : Nat} {v : Value} {l : List Int} (h : Ri w base v l) : ∃ ga cap, v = .slice ga l.length cap ∧ l.length ≤ cap := by
  rcases h.2 with ⟨rfl, h0⟩ | ⟨g, cap, cur, rfl, hb, hg, X⟩
  · exact ⟨none, 0, by rw [h0], by omega⟩
  · exact ⟨_, cap, rfl, X.1⟩
theorem Ri.nm {w : World} {base : Nat} {v : Value} {l : List Int} (h : Ri w base v l) : (v = .slice none 0 0 ∧ l = []) ∨ ∃ g cap, v = .slice (some ⟨g, 0, none⟩) l.length cap ∧ l.length ≤ cap ∧ base ≤ g ∧ Nm w g l := by
  rcases h.2 with ⟨rfl, h0⟩ | ⟨g, cap, cur, rfl, hb, hg, X1, X2, X3, X4⟩
  · exact .inl ⟨rfl, List.eq_nil_of_length_eq_zero h0⟩
  · refine .inr ⟨g, cap, rfl, X1, hb, ⟨cur, hg, fun k hk => ?_⟩⟩
    have : (cur.toList.take (l.length * 1))[k]? = (rowI l)[k]? := by rw [X4]
    rw [List.getElem?_take_of_lt (by omega), rowI_get l k hk] at this
    simpa using this
/-- what an append to a boxed list leaves -/
theorem ri_more {W w1 : World} {z0 base : Nat} {v v' : Value} {xs : List Int} {x : Int} {tmp : Obj} (Y : Bx W z0 #[v] 34) (R : Ri W base v xs) (hz : z0 < base) (hb : base ≤ W.heap.size)
    (hown : w1.ownsRow base 3 1 v' (xs.length + 1) (rowI xs ++ [.int .i64 x])) (hg : (W.alloc tmp).grownBy w1 v.ownBlock) :
    Bx (w1.setCell ⟨z0, 0, none⟩ v') z0 #[v'] 34 ∧ Ri (w1.setCell ⟨z0, 0, none⟩ v') base v' (xs ++ [x]) ∧ (∀ k, k < base → k ≠ z0 → (w1.setCell ⟨z0, 0, none⟩ v').heap[k]? = W.heap[k]?) ∧ KeepsOthers W (w1.setCell ⟨z0, 0, none⟩ v') ∧ Bx w1 z0 #[v] 34 ∧ (w1.os = W.os ∧ w1.tape = W.tape ∧ w1.output = W.output ∧ W.heap.size ≤ w1.heap.size) := by
  have old : ∀ k, k < W.heap.size → v.ownBlock ≠ some k → w1.heap[k]? = W.heap[k]? := fun k hk hv => (hg.block k (by simp; omega) (fun e => hv e.symm)).trans (Below.heap_alloc _ _ _ hk)
  have ob : ∀ k, v.ownBlock = some k → base ≤ k := fun k e => (World.ownsRow.lt R k e).1
  have Y1 : Bx w1 z0 #[v] 34 := (old z0 Y.lt (fun e => by have := ob _ e; omega)).trans Y
  refine ⟨Joins.block_setCell (i := 0) Y1 v', ?_, fun k hk hne => (Below.heap_setCell _ _ _ _ hne).trans (old k (by omega) (fun e => by have := ob _ e; omega)), ⟨by have := hg.size; simp at this ⊢; omega, fun k o hk ho => ?_⟩, Y1, hg.os, hg.tape, hg.output, by have := hg.size; simp at this; omega⟩
  · have R1 : Ri w1 base v' (xs ++ [x]) := by
      unfold Ri
      rw [show rowI (xs ++ [x]) = rowI xs ++ [.int .i64 x] by simp [rowI], List.length_append]
      exact hown
    exact R1.same fun g _ _ _ hg _ => Below.heap_setCell _ _ _ _ (fun e => by simp only at e; omega)
  · have hl := (Array.getElem?_eq_some_iff.1 hk).1
    have e1 : k ≠ z0 := fun e => by subst e; unfold Bx at Y; rw [Y] at hk; cases hk; cases ho
    have e2 : v.ownBlock ≠ some k := fun e => by
      rcases R.2 with ⟨rfl, _⟩ | ⟨g, cap, cur, rfl, _, hg', _⟩
      · cases e
      · cases e; rw [hg'] at hk; cases hk; cases ho
    exact (Below.heap_setCell _ _ _ _ e1).trans ((old k hl e2).trans hk)
theorem keeps_blk {W W' : World} {g : Nat} {xs : List Int} (G : W.grownBy W' (some g)) (h : Nm W g xs) : KeepsOthers W W' := by
  obtain ⟨cs, hb, _⟩ := h.b
  exact ⟨G.size, fun k o hk ho => (G.block k (Array.getElem?_eq_some_iff.1 hk).1 (fun e => by cases e; unfold Bx at hb; rw [hb] at hk; cases hk; cases ho)).trans hk⟩
/-- the places of a frame's pointers, from the last one on -/
def dsc (f : Fr) (r : List Fr) (m : Nat) : List Int := (List.range m).map fun i : Nat => ((wd r).length : Int) + (f.ps.length : Int) - 1 - (i : Int)
def descs (l : List (Fr × List Fr)) : List Int := l.flatMap fun x => dsc x.1 x.2 x.1.ps.length
theorem dsc_rev (f : Fr) (r : List Fr) : dsc f r f.ps.length = (((List.range f.ps.length).map (fun i => (wd r).length + i)).map Int.ofNat).reverse := by
  apply List.ext_getElem
  · simp [dsc]
  · intro i h1 h2
    simp only [dsc, List.length_map, List.length_range] at h1
    simp only [dsc, List.getElem_map, List.getElem_range, List.getElem_reverse, List.length_map, List.length_range]
    simp only [Int.ofNat_eq_natCast]
    omega
theorem descs_sfx : ∀ rs : List Fr, descs (sfx rs) = ((plc rs).map Int.ofNat).reverse
  | [] => rfl
  | f :: r => by
    have ih := descs_sfx r
    have e : descs (sfx (f :: r)) = dsc f r f.ps.length ++ descs (sfx r) := rfl
    rw [e, ih, dsc_rev, plc, List.map_append, List.reverse_append]
theorem dsc_succ (f : Fr) (r : List Fr) (m : Nat) : dsc f r (m + 1) = dsc f r m ++ [((wd r).length : Int) + f.ps.length - 1 - m] := by
  simp [dsc, List.range_succ]
theorem descs_len (l : List (Fr × List Fr)) (h : ∀ x ∈ l, x.1.ps.length ≤ 1000) : (descs l).length ≤ l.length * 1000 := by
  induction l with
  | nil => simp [descs]
  | cons x r ih =>
    have h1 := ih (fun y hy => h y (by simp [hy]))
    have h2 := h x (by simp)
    have e : descs (x :: r) = dsc x.1 x.2 x.1.ps.length ++ descs r := rfl
    rw [e, List.length_append, List.length_cons]
    simp only [dsc, List.length_map, List.length_range]
    omega
def Ip (W : World) (rs : List Fr) (z0 base : Nat) (pre : List (Sp rs)) (W' : World) : Prop :=
  (∃ v, Bx W' z0 #[v] 34 ∧ Ri W' base v (descs (pre.map Subtype.val)) ∧ base ≤ W'.heap.size) ∧ Below W.heap.size W W'
theorem ip_own {W : World} {rs : List Fr} {z0 base B : Nat} (hB : W.heap.size ≤ B) : OwnFrom B (Ip W rs z0 base) :=
  OwnFrom.and (Own.from (fun s A C row hs hg hr => by obtain ⟨v, h1, h2, h3⟩ := hs; exact ⟨v, h1.own hg hr, h2.own hg hr, Nat.le_trans h3 hg.size⟩) _) (ownFrom_below (Nat.le_refl _) hB)
theorem info3' : (Tryd.prog.info? 3).map (fun i => (i.zero, i.size, i.bytes)) = some (some (.int .i64 0), 1, 8) := info3
set_option maxRecDepth 100000 in
set_option maxHeartbeats 8000000 in
theorem places_ok {W : World} {g cap : Nat} {rs : List Fr} (V : Bx W g (row (wd rs)).toArray 50) (hcap : (wd rs).length ≤ cap) (hok : ∀ f ∈ rs, Okf f) (hus : (wd rs).length ≤ 65536) :
    Calls Tryd.prog 50 #[.slice (some ⟨g, 0, none⟩) (wd rs).length cap] W fun e w' => ∃ o cp, e = .returned (.slice o (plc rs).length cp) ∧ PS w' o cp ((plc rs).map Int.ofNat) ∧ (∀ ad, o = some ad → W.heap.size ≤ ad.block) ∧ Below W.heap.size W w' := by
  refine (callsIn_wide (n := 3)).1 ?_
  refine callsIn_of_wp_marks Tryd.func50 rfl trivial ?_ rfl
  simp only [Tryd.ntmps50, List.size_toArray, List.length_cons, List.length_nil, Nat.reduceAdd, Nat.reduceSub, Array.replicate_succ, Array.replicate_zero, List.push_toArray, List.append_toArray, List.nil_append, List.cons_append]
  have SK := fun W' zz => spots_mkB zz (wd rs).length W'
  have IN := fun W' => inrow_mk W' (some ⟨g, 0, none⟩) (wd rs).length cap
  have B4 : Below W.heap.size W ((((W.alloc (.cells #[.slice none 0 0] 34)).alloc (.cells #[.slice (some ⟨g, 0, none⟩) (wd rs).length cap] 72)).alloc (.cells #[.func (.func 59) #[] #[.pointer (some ⟨W.heap.size + 1, 0, none⟩)]] 82)).alloc (.cells #[.int .i64 (wd rs).length] 3)) := by go_grown
  have rl := rs_len rs
  have L : LiesB ((((W.alloc (.cells #[.slice none 0 0] 34)).alloc (.cells #[.slice (some ⟨g, 0, none⟩) (wd rs).length cap] 72)).alloc (.cells #[.func (.func 59) #[] #[.pointer (some ⟨W.heap.size + 1, 0, none⟩)]] 82)).alloc (.cells #[.int .i64 (wd rs).length] 3)) (W.heap.size + 1 + 1 + 1) (W.heap.size + 1 + 1) (W.heap.size + 1) g cap rs := by
    have gl : g < W.heap.size := V.lt
    refine ⟨?_, ?_, ⟨?_, hcap, by omega, fun i hi => ?_, by simp <;> omega⟩, hok, hus⟩
    · have := heap_alloc_new (((W.alloc (.cells #[.slice none 0 0] 34)).alloc (.cells #[.slice (some ⟨g, 0, none⟩) (wd rs).length cap] 72)).alloc (.cells #[.func (.func 59) #[] #[.pointer (some ⟨W.heap.size + 1, 0, none⟩)]] 82)) (.cells #[.int .i64 (wd rs).length] 3)
      simp only [World.size_alloc] at this
      exact this
    · have := heap_alloc_new ((W.alloc (.cells #[.slice none 0 0] 34)).alloc (.cells #[.slice (some ⟨g, 0, none⟩) (wd rs).length cap] 72)) (.cells #[.func (.func 59) #[] #[.pointer (some ⟨W.heap.size + 1, 0, none⟩)]] 82)
      simp only [World.size_alloc] at this
      exact (Below.heap_alloc _ _ _ (by simp)).trans this
    · have h1 := heap_alloc_new (W.alloc (.cells #[.slice none 0 0] 34)) (.cells #[.slice (some ⟨g, 0, none⟩) (wd rs).length cap] 72)
      simp only [World.size_alloc] at h1
      have h2 : ((((W.alloc (.cells #[.slice none 0 0] 34)).alloc (.cells #[.slice (some ⟨g, 0, none⟩) (wd rs).length cap] 72)).alloc (.cells #[.func (.func 59) #[] #[.pointer (some ⟨W.heap.size + 1, 0, none⟩)]] 82)).alloc (.cells #[.int .i64 (wd rs).length] 3)).heap[W.heap.size + 1]? = some (.cells #[.slice (some ⟨g, 0, none⟩) (wd rs).length cap] 72 (0, 0)) := (Below.heap_alloc _ _ _ (by simp <;> omega)).trans ((Below.heap_alloc _ _ _ (by simp)).trans h1)
      rw [Joins.cell_of_block h2]; rfl
    · rw [Joins.cell_of_block ((B4.block g gl).trans V), List.getElem?_toArray, row_get _ i hi]
  have Y4 : Bx ((((W.alloc (.cells #[.slice none 0 0] 34)).alloc (.cells #[.slice (some ⟨g, 0, none⟩) (wd rs).length cap] 72)).alloc (.cells #[.func (.func 59) #[] #[.pointer (some ⟨W.heap.size + 1, 0, none⟩)]] 82)).alloc (.cells #[.int .i64 (wd rs).length] 3)) W.heap.size #[.slice none 0 0] 34 := (Below.heap_alloc _ _ _ (by simp <;> omega)).trans ((Below.heap_alloc _ _ _ (by simp <;> omega)).trans ((Below.heap_alloc _ _ _ (by simp)).trans (heap_alloc_new _ _)))
  have s4 : ((((W.alloc (.cells #[.slice none 0 0] 34)).alloc (.cells #[.slice (some ⟨g, 0, none⟩) (wd rs).length cap] 72)).alloc (.cells #[.func (.func 59) #[] #[.pointer (some ⟨W.heap.size + 1, 0, none⟩)]] 82)).alloc (.cells #[.int .i64 (wd rs).length] 3)).heap.size = W.heap.size + 1 + 1 + 1 + 1 := by simp
  have HL := Hid.mk L
  have I0 : Hid (Ip W rs W.heap.size (W.heap.size + 1 + 1 + 1 + 1) [] ((((W.alloc (.cells #[.slice none 0 0] 34)).alloc (.cells #[.slice (some ⟨g, 0, none⟩) (wd rs).length cap] 72)).alloc (.cells #[.func (.func 59) #[] #[.pointer (some ⟨W.heap.size + 1, 0, none⟩)]] 82)).alloc (.cells #[.int .i64 (wd rs).length] 3))) := ⟨⟨⟨_, Y4, Ri.nil _ _, by rw [s4]; exact Nat.le_refl _⟩, B4⟩⟩
  have Hsz : Hid (((((W.alloc (.cells #[.slice none 0 0] 34)).alloc (.cells #[.slice (some ⟨g, 0, none⟩) (wd rs).length cap] 72)).alloc (.cells #[.func (.func 59) #[] #[.pointer (some ⟨W.heap.size + 1, 0, none⟩)]] 82)).alloc (.cells #[.int .i64 (wd rs).length] 3)).heap.size = W.heap.size + 1 + 1 + 1 + 1) := ⟨s4⟩
  have gl := V.lt
  clear L B4 V Y4 s4
  gi_wp2_with (first
    | (refine ⟨trivial, ?_⟩; gi_at_call 54; refine (callsIn_wide.2 (IN _)).mono ?_; rintro e w1 ⟨rfl, hw⟩; rw [hw]; clear hw)
    | (refine ⟨trivial, ?_⟩; gi_at_call 46; refine (callsIn_wide.2 (SK _ _)).mono ?_; rintro e w1 ⟨rfl, hw⟩; rw [hw]; clear hw))
  generalize ((((W.alloc (.cells #[.slice none 0 0] 34)).alloc (.cells #[.slice (some ⟨g, 0, none⟩) (wd rs).length cap] 72)).alloc (.cells #[.func (.func 59) #[] #[.pointer (some ⟨W.heap.size + 1, 0, none⟩)]] 82)).alloc (.cells #[.int .i64 (wd rs).length] 3)) = W4 at *
  refine wpIn_rangeFunc_ownF rfl (by decide) (gf := 56) (lb := #[.pointer (some ⟨W.heap.size + 1 + 1 + 1, 0, none⟩), .pointer (some ⟨W.heap.size + 1 + 1, 0, none⟩)]) rfl trivial (enters_of Tryd.func56 (by kernel_rfl) rfl)
    (spots_B 2 (W.heap.size + 1 + 1 + 1) (W.heap.size + 1 + 1) (W.heap.size + 1) g cap rs (by decide) _ HL.out) Sy.trans (Sy.put HL.out.lt) (Below.refl _ _) (fun _ => rfl)
    (Ip W rs W.heap.size (W.heap.size + 1 + 1 + 1 + 1)) (fun _ _ _ => False) (ip_own (by rw [Hsz.out]; omega)) (fun _ _ _ _ _ hs _ _ => hs) I0.out
    (fun x => { tmps := #[.slice (some ⟨g, 0, none⟩) (wd rs).length cap, undef, .slice none 0 0, .pointer (some ⟨W.heap.size, 0, none⟩), .int .i64 ((wd x.1.2).length : Int), .int .i64 (x.1.1.ps.length : Int), undef, .slice (some ⟨g, 0, none⟩) (wd rs).length cap, .func (.func 59) #[] #[.pointer (some ⟨W.heap.size + 1, 0, none⟩)], .slice (some ⟨g, 0, none⟩) (wd rs).length cap, .int .i64 ((wd rs).length : Int), .func (.func 56) #[] #[.pointer (some ⟨W.heap.size + 1 + 1 + 1, 0, none⟩), .pointer (some ⟨W.heap.size + 1 + 1, 0, none⟩)], .int .i64 ((wd x.1.2).length : Int), .int .i64 (x.1.1.ps.length : Int), undef, undef, undef, undef, undef, undef, undef, undef, undef, undef, undef, undef, undef, undef, undef, undef, undef], defers := [] }) ?assign ?body ?done ?stop
  case assign =>
    intro l x W' K hK
    gi_wp2
    exact hK
  case body =>
    rintro l pre ⟨⟨f, r⟩, hx⟩ W' ⟨⟨v, hY, hR, hb4⟩, hB⟩ hpl
    obtain ⟨q, hq⟩ := sfx_mem hx
    obtain ⟨e1, e2, e3⟩ := words_of hq
    have fn4 := (hok f (by rw [hq]; simp)).n
    have hdl := descs_len (pre.map Subtype.val) (fun y hy => by
      obtain ⟨u, _, rfl⟩ := List.mem_map.1 hy
      obtain ⟨q', hq'⟩ := sfx_mem u.2
      exact (hok u.1.1 (List.mem_iff_append.2 ⟨q', u.1.2, hq'⟩)).n)
    rw [List.length_map] at hdl
    have hdl2 : (descs (pre.map Subtype.val)).length ≤ 65536000 := by omega
    have HD : Hid (descs ((pre ++ [(⟨(f, r), hx⟩ : Sp rs)]).map Subtype.val) = descs (pre.map Subtype.val) ++ dsc f r f.ps.length) := ⟨by simp [descs]⟩
    have HDS := fun m => dsc_succ f r m
    generalize descs (pre.map Subtype.val) = xs at *
    dsimp only at e3 ⊢
    obtain ⟨t', ht'⟩ : ∃ t', (wd r).length = t' := ⟨_, rfl⟩
    obtain ⟨n', hn'⟩ : ∃ n', f.ps.length = n' := ⟨_, rfl⟩
    simp only [ht', hn'] at e3 fn4 HD HDS ⊢
    have HDD := Hid.mk HDS
    have hs1 := hB.size
    have P0 : Hid (Sy (SyB (W.heap.size + 1 + 1 + 1) (W.heap.size + 1 + 1) (W.heap.size + 1) g) W' W' ∧ KeepsOthers W' W' ∧ Below W.heap.size W W') := ⟨⟨Sy.refl _ _, KeepsOthers.refl _, hB⟩⟩
    clear e1 e2 hq HDS ht' hn' hdl
    have Y0 := Hid.mk hY
    have R0 := Hid.mk hR
    have d0 : dsc f r 0 = [] := rfl
    have D0 : Hid (Ri W' (W.heap.size + 1 + 1 + 1 + 1) v (xs ++ dsc f r 0)) := ⟨by rw [d0, List.append_nil]; exact hR⟩
    clear hY hR d0
    gi_wp2
    gi_loopw [15] (fun c wr => ∃ (i : Nat) (v' : Value), c = .int .i64 i ∧ i ≤ n' ∧ Hid (Bx wr W.heap.size #[v'] 34) ∧ Hid (Ri wr (W.heap.size + 1 + 1 + 1 + 1) v' (xs ++ dsc f r i)) ∧ Hid (Sy (SyB (W.heap.size + 1 + 1 + 1) (W.heap.size + 1 + 1) (W.heap.size + 1) g) W' wr ∧ KeepsOthers W' wr ∧ Below W.heap.size W wr) ∧ (W.heap.size + 1 + 1 + 1 + 1) ≤ wr.heap.size) (fun c _ => n' - (intOf c).toNat)
    case atStart => exact ⟨0, v, rfl, Nat.zero_le _, Y0, D0, P0, hb4⟩
    case round =>
      obtain ⟨i, v', rfl, hi, HY, HR, HP, hsz⟩ := hrel
      by_cases hlt : i < n'
      · have hlt' : (i : Int) < n' := by omega
        have dl : (dsc f r i).length = i := by simp [dsc]
        obtain ⟨ga, cp, rfl, hcp⟩ := HR.out.form
        have hyl : (xs ++ dsc f r i).length ≤ 65537000 := by rw [List.length_append, dl]; omega
        have HS1 := HDD.out i
        generalize hys : xs ++ dsc f r i = ys at *
        have HYS := Hid.mk hys
        clear hys dl
        have c0 : wr.cell? ⟨W.heap.size, 0, none⟩ = some (.slice ga ys.length cp) := HY.out.cell 0
        have HS2 := Hid.mk HS1
        have HRl : Hid ((wr.alloc (Obj.cells #[.int .i64 ((t' : Int) + n' - 1 - i)] 3)).ownsRow (W.heap.size + 1 + 1 + 1 + 1) 3 1 (.slice ga ys.length cp) ys.length (rowI ys)) := ⟨HR.out.later (by go_grown)⟩
        have HNW : Hid ((wr.alloc (Obj.cells #[.int .i64 ((t' : Int) + n' - 1 - i)] 3)).heap[wr.heap.size]? = some (Obj.cells #[.int .i64 ((t' : Int) + n' - 1 - i)] 3)) := ⟨heap_alloc_new _ _⟩
        clear HS1
        gi_wp2_with (gi_at_builtin; obtain ⟨i0, hi0, hz0, hz1, hz2⟩ := info_parts info3; refine wpListIn_append_own _ rfl _ _ 34 rfl (W.heap.size + 1 + 1 + 1 + 1) 3 i0 _ 1 8 Tryd.underlying34 hi0 hz0 hz1 hz2 rfl (by decide) (.slice ga ys.length cp) ys.length (rowI ys) rfl HRl.out ⟨wr.heap.size, 0, none⟩ 1 1 [.int .i64 ((t' : Int) + n' - 1 - i)] rfl rfl (World.news_of_block HNW.out) (by simp [Value.oneCell']) (by show _ ≤ 9223372036854775807; omega) (by omega) (by simp; omega) ?_; intro v2 w5 hown' hgrow' _; have RM := ri_more HY.out HR.out (by omega) hsz hown' hgrow'; obtain ⟨g', cap', rfl⟩ := ownsRow_succ hown'; clear hi0 hz0 hz1 hz2; have y5 := RM.2.2.2.2.1.cell 0; have y6 := RM.2.2.2.2.1.z 0; have HRM := Hid.mk RM; clear RM hown' hgrow')
        go_roundw
        case rel =>
          obtain ⟨m1, m2, m3, m4, m5, o1, o2, o3, o4⟩ := HRM.out
          refine ⟨i + 1, _, by go_num, by omega, ⟨m1⟩, ⟨?_⟩, ⟨⟨HP.out.1.trans fun k hk => m3 k ?_ ?_, HP.out.2.1.trans m4, ⟨o1.trans HP.out.2.2.os, o2.trans HP.out.2.2.tape, o3.trans HP.out.2.2.output, ?_, fun k hk => (m3 k (by omega) (by omega)).trans (HP.out.2.2.block k hk)⟩⟩⟩, ?_⟩
          · rw [HS2.out, ← List.append_assoc, HYS.out]
            exact m2
          · rcases hk with rfl | rfl | rfl | rfl <;> omega
          · rcases hk with rfl | rfl | rfl | rfl <;> omega
          · have := HP.out.2.2.size
            simp
            omega
          · simp
            omega
        case measure => simp [intOf] <;> omega
      · obtain rfl : i = n' := by omega
        gi_wp2
        exact ⟨HP.out.2.1, HP.out.1, ⟨⟨v', HY.out, by rw [HD.out]; exact HR.out, hsz⟩, HP.out.2.2⟩⟩
  case done =>
    rintro D ys W' hD hy ⟨⟨v, hY, hR, hb4⟩, hB⟩ hK
    rw [hy, descs_sfx] at hR
    rcases hR.nm with ⟨rfl, hnil⟩ | ⟨gg, cp, rfl, hcp, hbg, hnm⟩
    · have hn0 : (plc rs).map Int.ofNat = [] := by simpa using hnil
      have RV := rev_nil W'
      have c0 : W'.cell? ⟨W.heap.size, 0, none⟩ = some (.slice none 0 0) := hY.cell 0
      gi_wp2_with (refine ⟨trivial, ?_⟩; gi_at_call 58; refine (callsIn_wide.2 RV).mono ?_; rintro e w' ⟨⟨u, rfl⟩, hw⟩; subst w')
      refine ⟨by simp, .inl ⟨_, _, rfl, run_takeDeferred hK, ?_⟩⟩
      have hp0 : (plc rs).length = 0 := by simpa using congrArg List.length hn0
      refine ⟨_, results_tmp rfl _ _ _, none, 0, by rw [hp0]; rfl, by rw [hn0]; exact ⟨Nat.zero_le _, Nat.zero_le _, fun h => (by cases h)⟩, fun ad h => (by cases h), hB.trans (belowK_b (w := W) (Nat.le_refl _) W' D _ _ (by rw [Hsz.out] at hD; omega) hK rfl rfl)⟩
    · have pl1 := plc_len rs
      have pl2 := ptrs_le rs
      have RV := rev_ok hnm rfl hcp (by simp; omega)
      rw [List.reverse_reverse] at RV
      have c0 := hY.cell 0
      simp only [List.getElem?_toArray, List.getElem?_cons_zero] at c0
      have zl := hY.lt
      have hcp' := hcp
      have HE : Hid ((((plc rs).map Int.ofNat).reverse).length = (plc rs).length) := ⟨by simp⟩
      obtain ⟨m, hm⟩ : ∃ m, (((plc rs).map Int.ofNat).reverse).length = m := ⟨_, rfl⟩
      rw [hm] at RV c0
      have HM := Hid.mk hm
      clear hm
      gi_wp2_with (refine ⟨trivial, ?_⟩; gi_at_call 58; refine (callsIn_wide.2 RV).mono ?_; rintro e w9 ⟨⟨u, rfl⟩, N9, G9⟩; have Y9 : Bx w9 W.heap.size #[.slice (some ⟨gg, 0, none⟩) m cp] 34 := (G9.block _ zl (by simp <;> omega)).trans (by rw [← HM.out]; exact hY); have y9 := Y9.cell 0)
      have hK9 := (KeepsOthers.same (keeps_blk G9 hnm) D _ hK rfl)
      refine ⟨by simp, .inl ⟨_, _, rfl, run_takeDeferred hK9, ?_⟩⟩
      have B9 : Below W.heap.size W w9 := ⟨G9.os.trans hB.os, G9.tape.trans hB.tape, G9.output.trans hB.output, Nat.le_trans hB.size G9.size, fun k hk => (G9.block k (Nat.lt_of_lt_of_le hk hB.size) (by simp <;> omega)).trans (hB.block k hk)⟩
      refine ⟨_, results_tmp rfl _ _ _, some ⟨gg, 0, none⟩, cp, by rw [← HE.out, HM.out]; rfl, ?_, fun ad h => (by cases h; simp only; omega), B9.trans (belowK_b (w := W) (Nat.le_refl _) w9 D _ _ (by rw [Hsz.out] at hD; omega) hK9 rfl rfl)⟩
      have N10 : Nm (w9.putObj D (.deferred none)) gg ((plc rs).map Int.ofNat) := by
        obtain ⟨cs, hb, hc⟩ := N9.b
        exact ⟨⟨cs, Bx.own hb (grownBy_putObj' _ D (.deferred none)) (fun r e => by cases e; exact ⟨_, hK9, rfl⟩), hc⟩⟩
      refine ⟨by simpa using hcp', by simp [maxLen]; omega, fun _ => ⟨gg, 0, rfl, fun i hi => ?_⟩⟩
      rw [Nat.zero_add, N10.cell i hi]
      simp only [List.getD_eq_getElem?_getD, List.getElem?_eq_getElem hi, Option.getD_some]
  case stop =>
    rintro D c pre W' _ _ h _
    exact h.elim
end Go.Proofs.YtglimbpnekephaaDoor
