/- Map of both stacks. -/
import Derived.Test.YtglimbpnekephaaDoorDsh
import Derived.Test.YtglimbpnekephaaDoorMpi
namespace Go.Proofs.YtglimbpnekephaaDoor
open Go.RowKit
set_option linter.unusedVariables false
set_option linter.unusedSimpArgs false

theorem mix_at (gf : Int → Int) (i k : Nat) (l : List Fp) (hi : i < l.length) : (mix gf i k l)[i]'(by rw [mix_len]; exact hi) = upF gf k l[i] := by
  rw [mix_get gf i k l i hi]
  congr 1
  unfold cnt
  rw [if_neg (by omega), if_pos rfl]
theorem mix_store {w : World} {d base : Nat} {n : Int} {v : Value} {l : List Fp} {gf : Int → Int} (i k : Nat) (hi : i < l.length) (hk : k < (l[i]).f.ps.length) (h : Ds w d base n v (mix gf i k l)) :
    ∃ g off, (l[i]).o = some ⟨g, off, none⟩ ∧ w.cell? ⟨g, off + k, none⟩ = some (.int .i64 ((l[i]).f.ps[k])) ∧ w.frozen? ⟨g, off + k, none⟩ = false ∧ (∃ cs, w.heap[g]? = some (.cells cs 3 (0, 0))) ∧
      Ds (w.setCell ⟨g, off + k, none⟩ (.int .i64 (gf ((l[i]).f.ps[k])))) d base n v (mix gf i (k + 1) l) ∧ w.grownBy (w.setCell ⟨g, off + k, none⟩ (.int .i64 (gf ((l[i]).f.ps[k])))) (some g) := by
  have hm : i < (mix gf i k l).length := by rw [mix_len]; exact hi
  have e := mix_at gf i k l hi
  have hk' : k < ((mix gf i k l)[i]).f.ps.length := by rw [e]; simp only [upF, upP_len]; exact hk
  obtain ⟨g, off, h1, h2, h3, h4, h5, h6, h7, h8⟩ := h.store i hm k hk' (gf ((l[i]).f.ps[k]))
  have o1 : (l[i]).o = some ⟨g, off, none⟩ := by rw [← h1, e]; rfl
  have p1 : ((mix gf i k l)[i]).f.ps[k] = (l[i]).f.ps[k] := by
    simp only [e, upF]
    exact upP_get gf k _ hk
  refine ⟨g, off, o1, by rw [h2, p1], h3, h6, ?_, h8⟩
  have es : (mix gf i k l).set i ⟨⟨((mix gf i k l)[i]).f.k, ((mix gf i k l)[i]).f.a, ((mix gf i k l)[i]).f.b, (((mix gf i k l)[i]).f.ps).set k (gf ((l[i]).f.ps[k]))⟩, ((mix gf i k l)[i]).o, ((mix gf i k l)[i]).c⟩ = mix gf i (k + 1) l := by
    rw [← mix_set gf i k l hi hk]
    simp only [e, upF]
  rw [es] at h7
  exact h7
theorem mix_o {gf : Int → Int} {i k : Nat} {l : List Fp} {x : Fp} (h : x ∈ mix gf i k l) : ∃ y ∈ l, y.o = x.o := by
  obtain ⟨j, hj, rfl⟩ := List.mem_iff_getElem.1 h
  have hj' := hj
  rw [mix_len] at hj'
  exact ⟨l[j], List.getElem_mem _, by rw [mix_get gf i k l j hj']; rfl⟩
/-- the row's cell that holds a frame's pointers, half turned -/
theorem mix_row3 {w : World} {d base : Nat} {n : Int} {ga : Option Addr} {cp : Nat} {l : List Fp} {gf : Int → Int} (i k : Nat) (hi : i < l.length) (h : Ds w d base n (.slice ga l.length cp) (mix gf i k l)) :
    ∃ gb, ga = some ⟨gb, 0, none⟩ ∧ w.cell? ⟨gb, i * 4 + 3, none⟩ = some (.slice (l[i]).o (l[i]).f.ps.length (l[i]).c) := by
  obtain ⟨gb, cap, e, _, _, _, _, _, c3⟩ := h.R.get i (by rw [mix_len]; exact hi)
  simp only [Value.slice.injEq] at e
  refine ⟨gb, e.1, ?_⟩
  rw [c3, mix_at gf i k l hi]
  simp only [upF, upP_len]
structure Mv (w0 W : World) (p a b F N d base y : Nat) (ws : List Int) (rs : List Fr) (v : Value) (l : List Fp) (cs : Array Value) : Prop where
  s : Ss W p a b ws F N 0 rs
  D : Ds W d base (N : Int) v l
  y : W.heap[y]? = some (.cells cs 38 (0, 0))
  bw : base ≤ W.heap.size
  bel : Below w0.heap.size w0 W
theorem Mv.later {w0 W W' : World} {p a b F N d base y : Nat} {ws : List Int} {rs : List Fr} {v : Value} {l : List Fp} {cs : Array Value} (h : Mv w0 W p a b F N d base y ws rs v l cs) (B : Below W.heap.size W W') : Mv w0 W' p a b F N d base y ws rs v l cs :=
  ⟨h.s.later B, h.D.later B, (B.block y (Array.getElem?_eq_some_iff.1 h.y).1).trans h.y, Nat.le_trans h.bw B.size, belowOn h.bel B⟩
theorem Mv.set {w0 W W' : World} {p a b F N d base y g : Nat} {ws : List Int} {rs : List Fr} {v : Value} {l l' : List Fp} {cs c3 : Array Value} (h : Mv w0 W p a b F N d base y ws rs v l cs) (G : W.grownBy W' (some g)) (hg : W.heap[g]? = some (.cells c3 3 (0, 0))) (g0 : w0.heap.size ≤ g) (D : Ds W' d base (N : Int) v l') : Mv w0 W' p a b F N d base y ws rs v l' cs := by
  obtain ⟨pl, al, bl⟩ := h.s.lt
  refine ⟨⟨h.s.stk.same (G.block p pl (by simpa using ne_kind h.s.stk.box hg (by decide))) (G.block a al (by simpa using ne_kind h.s.stk.ar.box hg (by decide))) (G.block b bl (by simpa using ne_kind h.s.stk.ar.words hg (by decide))), h.s.ok, h.s.eq⟩, D, (G.block y (Array.getElem?_eq_some_iff.1 h.y).1 (by simpa using ne_kind h.y hg (by decide))).trans h.y, Nat.le_trans h.bw G.size, below_by h.bel G h.bel.size g0⟩
theorem Ds.k3 {w w' : World} {p a b F N k d base y : Nat} {ws : List Int} {rs : List Fr} {n : Int} {v : Value} {l : List Fp} {cs : Array Value} (h : Ds w d base n v l) (S : Ss w p a b ws F N k rs) (Y : w.heap[y]? = some (.cells cs 38 (0, 0))) (K : K3 p b y w w') (hp : p < base) (hb : b < base) : Ds w' d base n v l := by
  have num : ∀ {m : Nat} {c : Array Value} {t : TypeId} {z : Nat × Nat}, w.heap[m]? = some (.cells c t z) → t ≠ 76 → t ≠ 50 → t ≠ 38 → w'.heap[m]? = w.heap[m]? := fun hm n1 n2 n3 =>
    K.block _ (Array.getElem?_eq_some_iff.1 hm).1 (ne_kind hm S.stk.box n1) (ne_kind hm S.stk.ar.words n2) (ne_kind hm Y n3)
  refine ⟨(num h.box (by decide) (by decide) (by decide)).trans h.box, ?_, fun x hx => (h.q x hx).same fun m cs hm => num hm (by decide) (by decide) (by decide), h.ap⟩
  have R := h.R
  unfold Rw at R ⊢
  refine ⟨R.1, ?_⟩
  rcases R.2 with hn | ⟨g', cap, cur, hv, hb, hgg, rest⟩
  · exact .inl hn
  · exact .inr ⟨g', cap, cur, hv, hb, (num hgg (by decide) (by decide) (by decide)).trans hgg, rest⟩
theorem below3 {m p b y : Nat} {w u v : World} (B : Below m w u) (K : K3 p b y u v) (hm : m ≤ u.heap.size) (hp : m ≤ p) (hb : m ≤ b) (hy : m ≤ y) : Below m w v :=
  ⟨K.os.trans B.os, K.tape.trans B.tape, K.output.trans B.output, Nat.le_trans B.size K.size, fun k hk => (K.block k (by omega) (by omega) (by omega) (by omega)).trans (B.block k hk)⟩
set_option maxRecDepth 100000 in
set_option maxHeartbeats 8000000 in
theorem do_map {w0 w : World} {p a b F N d base : Nat} {ws : List Int} {rs : List Fr} {v : Value} {l : List Fp} (h : Bo w0 w p a b F N d base ws rs v l) (H : Wh w0 p a b d base) (k n : Int) (f : Fr) (o : Option Addr) (cap : Nat) (hk : k ≠ 0 ∧ k ≠ 1 ∧ k ≠ 2) (hn : In64 n) :
    Calls Tryd.prog 11 #[.pointer (some ⟨p, 0, none⟩), .pointer (some ⟨d, 0, none⟩), av k n f o cap] w fun e w' => e = .returned (.bool true) ∧ Fin w0 w' p a b F N d base := by
  have HWH := Hid.mk H
  obtain ⟨hu, hl1, hN, hll, hl2⟩ := h.le
  have B0 : Below w.heap.size w (w.alloc (.cells #[.int .i64 k, .int .i64 n, .int .i64 f.k, .int .i64 f.a, .int .i64 f.b, .slice o f.ps.length cap] 38)) := (Below.refl _ w).alloc (Nat.le_refl _) _
  have h0 := h.later B0
  have HH := Hid.mk h0
  have hx : (w.alloc (.cells #[.int .i64 k, .int .i64 n, .int .i64 f.k, .int .i64 f.a, .int .i64 f.b, .slice o f.ps.length cap] 38)).heap[w.heap.size]? = some (.cells #[.int .i64 k, .int .i64 n, .int .i64 f.k, .int .i64 f.a, .int .i64 f.b, .slice o f.ps.length cap] 38 (0, 0)) := heap_alloc_new _ _
  have HX := Hid.mk hx
  have HY0 : Hid (w0.heap.size ≤ w.heap.size) := ⟨h.bel.size⟩
  have M24 := map31 h0.s hx (n := n) rfl (ne_kind hx h0.s.stk.box (by decide)) (ne_kind hx h0.s.stk.ar.box (by decide)) (ne_kind hx h0.s.stk.ar.words (by decide))
  rw [refill_map] at M24
  have q0 : (k == 0) = false := by simp; omega
  have q1 : (k == 1) = false := by simp; omega
  have q2 : (k == 2) = false := by simp; omega
  obtain ⟨ga, cp, rfl, hcp⟩ := h.D.R.form
  have HE := Hid.mk h.e
  have HPR := Hid.mk h.pr
  have HOK : Hid (∀ i (hi : i < l.length), ∀ x ∈ (l[i]).f.ps, 0 ≤ x ∧ x ≤ 524288) := ⟨fun i hi x hx => by
    have : (l[i]).f ∈ rs := by
      have m1 : (l[i]).f ∈ l.map Fp.f := List.mem_map.2 ⟨_, List.getElem_mem hi, rfl⟩
      rw [h.e] at m1
      exact List.mem_reverse.1 m1
    exact (h.s.ok _ this).p x hx⟩
  have HON : Hid (∀ i (hi : i < l.length), (l[i]).f.ps.length ≤ 1000) := ⟨fun i hi => by
    have : (l[i]).f ∈ rs := by
      have m1 : (l[i]).f ∈ l.map Fp.f := List.mem_map.2 ⟨_, List.getElem_mem hi, rfl⟩
      rw [h.e] at m1
      exact List.mem_reverse.1 m1
    exact (h.s.ok _ this).n⟩
  clear h h0 H B0 hx hu hl1 hN hl2 hk
  go_enter Tryd.func11, Tryd.ntmps11
  go_wp2_with (go_at_call 24; refine M24.mono ?_; clear M24; rintro e w1 ⟨⟨u, rfl⟩, ⟨ws1, S1, _⟩, Y1, K1⟩; have HM1 : Hid (Mv w0 w1 p a b F N d base w.heap.size ws1 (rs.map (mapF (byI n))) (.slice ga l.length cp) (mix (byI n) 0 0 l) #[.int .i64 k, .int .i64 n, .int .i64 f.k, .int .i64 f.a, .int .i64 f.b, .slice o f.ps.length cap]) := ⟨⟨S1, by rw [mix_start]; exact HH.out.D.k3 HH.out.s HX.out K1 HWH.out.p2 HWH.out.b2, Y1, Nat.le_trans HH.out.bw K1.size, below3 HH.out.bel K1 HH.out.bel.size HWH.out.p1 HWH.out.b1 HY0.out⟩⟩; clear S1 Y1 K1)
  clear HH HX
  generalize w.heap.size = y at *
  obtain ⟨m, hm⟩ : ∃ m, l.length = m := ⟨_, rfl⟩
  have HM := Hid.mk hm
  go_loopw [11] (fun cv wr => ∃ i : Nat, cv = .int .i64 i ∧ i ≤ m ∧ Hid (Mv w0 wr p a b F N d base y ws1 (rs.map (mapF (byI n))) (.slice ga l.length cp) (mix (byI n) i 0 l) #[.int .i64 k, .int .i64 n, .int .i64 f.k, .int .i64 f.a, .int .i64 f.b, .slice o f.ps.length cap])) (fun cv _ => m - (intOf cv).toNat)
  case atStart => exact ⟨0, rfl, Nat.zero_le _, HM1⟩
  case round =>
    obtain ⟨i, rfl, hi, HQ⟩ := hrel
    have d1 : wr.cell? ⟨d, 1, none⟩ = some (.slice ga l.length cp) := HQ.out.D.box.cell 1
    rw [hm] at d1
    by_cases hlt : i < m
    · have hil : i < l.length := by omega
      obtain ⟨pn, hpn⟩ : ∃ pn, (l[i]).f.ps.length = pn := ⟨_, rfl⟩
      have HPN := Hid.mk hpn
      have hp1 := HON.out i hil
      rw [hpn] at hp1
      have hlt' : (i : Int) < m := by omega
      clear hpn
      go_wp2
      go_loopw [12] (fun cv wx => ∃ j : Nat, cv = .int .i64 j ∧ j ≤ pn ∧ Hid (Mv w0 wx p a b F N d base y ws1 (rs.map (mapF (byI n))) (.slice ga l.length cp) (mix (byI n) i j l) #[.int .i64 k, .int .i64 n, .int .i64 f.k, .int .i64 f.a, .int .i64 f.b, .slice o f.ps.length cap])) (fun cv _ => pn - (intOf cv).toNat)
      case atStart => exact ⟨0, rfl, Nat.zero_le _, HQ⟩
      case round =>
        clear HQ d1
        obtain ⟨j, rfl, hj, HQ⟩ := hrel
        have d1 : wr.cell? ⟨d, 1, none⟩ = some (.slice ga l.length cp) := HQ.out.D.box.cell 1
        rw [hm] at d1
        have y1 : wr.cell? ⟨y, 1, none⟩ = some (.int .i64 n) := by rw [Joins.cell_of_block HQ.out.y]; rfl
        obtain ⟨gb, hgb, c3⟩ := mix_row3 i j hil HQ.out.D
        rw [HPN.out] at c3
        rw [hgb] at d1
        have hjm : j ≤ 1000 := by omega
        by_cases hjt : j < pn
        · have HQd := HQ.out
          have hjl : j < (l[i]).f.ps.length := by rw [HPN.out]; exact hjt
          obtain ⟨g, off, ho, cS, fz, ⟨cs3, hg3⟩, D', G'⟩ := mix_store i j hil hjl HQd.D
          have g0 : w0.heap.size ≤ g := HPR.out _ (List.getElem_mem hil) _ ho
          have HMV := Hid.mk (HQd.set G' hg3 g0 D')
          have hpk := HOK.out i hil _ (List.getElem_mem hjl)
          have HFS : Hid ((wr.setCell ⟨g, off + j, none⟩ (.int .i64 (byI n ((l[i]).f.ps[j])))).cell? ⟨d, 1, none⟩ = some (.slice ga l.length cp) ∧ (∃ gb', ga = some ⟨gb', 0, none⟩ ∧ (wr.setCell ⟨g, off + j, none⟩ (.int .i64 (byI n ((l[i]).f.ps[j])))).cell? ⟨gb', i * 4 + 3, none⟩ = some (.slice (l[i]).o (l[i]).f.ps.length (l[i]).c)) ∧ (wr.setCell ⟨g, off + j, none⟩ (.int .i64 (byI n ((l[i]).f.ps[j])))).cell? ⟨y, 1, none⟩ = some (.int .i64 n)) := ⟨HMV.out.D.box.cell 1, mix_row3 i (j + 1) hil HMV.out.D, by rw [Joins.cell_of_block HMV.out.y]; rfl⟩
          replace HFS : Hid ((wr.setCell ⟨g, off + j, none⟩ (.int .i64 (byI n ((l[i]).f.ps[j])))).cell? ⟨d, 1, none⟩ = some (.slice (some ⟨gb, 0, none⟩) m cp) ∧ (wr.setCell ⟨g, off + j, none⟩ (.int .i64 (byI n ((l[i]).f.ps[j])))).cell? ⟨gb, i * 4 + 3, none⟩ = some (.slice (some ⟨g, off, none⟩) pn (l[i]).c) ∧ (wr.setCell ⟨g, off + j, none⟩ (.int .i64 (byI n ((l[i]).f.ps[j])))).cell? ⟨y, 1, none⟩ = some (.int .i64 n)) := ⟨by
            obtain ⟨x1, ⟨gb', hgb', x2⟩, x3⟩ := HFS.out
            obtain rfl : gb = gb' := by have := hgb.symm.trans hgb'; simpa using this
            rw [hgb, hm] at x1
            rw [ho, HPN.out] at x2
            exact ⟨x1, x2, x3⟩⟩
          rw [ho] at c3
          generalize (l[i]).f.ps[j] = pk at *
          generalize (l[i]).c = c at *
          have hjt' : (j : Int) < pn := by omega
          have hj0 : (0 : Int) ≤ j := by omega
          have hi0 : (0 : Int) ≤ i := by omega
          have bk := byI_ok n pk
          clear D' G' hg3 ho hjl HQd HQ hgb g0
          go_wp2
          refine wp_region_held_drew (S := (fun W' => W'.cell? ⟨d, 1, none⟩ = some (.slice (some ⟨gb, 0, none⟩) m cp) ∧ W'.cell? ⟨gb, i * 4 + 3, none⟩ = some (.slice (some ⟨g, off, none⟩) pn c) ∧ W'.cell? ⟨y, 1, none⟩ = some (.int .i64 n))) (by kernel_rfl) ?_ (fun hHeld => ?_)
          · try dsimp only
            go_keep
          refine wpAnyH_take (i := 0) (v := ?_) rfl (by kernel_rfl) (by kernel_rfl) (by kernel_rfl) (fun _ _ _ h => h) (Or.inl ⟨by rfl, ?_⟩) (by assumption) ?_
          rotate_left
          · intro w' hSw
            try dsimp only at hSw
            go_simp
            try with_reducible rfl
          try simp only [Act.put, List.getElem_toArray, List.getElem_cons_zero, List.getElem_cons_succ, List.setIfInBounds_toArray, List.set_cons_zero, List.set_cons_succ]
          refine wpAnyH_take (i := 1) (v := ?_) rfl (by kernel_rfl) (by kernel_rfl) (by kernel_rfl) (fun _ _ _ h => h) (Or.inl ⟨by rfl, ?_⟩) (by assumption) ?_
          rotate_left
          · intro w' hSw
            try dsimp only at hSw
            go_simp
            try with_reducible rfl
          try simp only [Act.put, List.getElem_toArray, List.getElem_cons_zero, List.getElem_cons_succ, List.setIfInBounds_toArray, List.set_cons_zero, List.set_cons_succ]
          refine wpAnyH_take (i := 2) (v := ?_) rfl (by kernel_rfl) (by kernel_rfl) (by kernel_rfl) (fun _ _ _ h => h) (Or.inl ⟨by rfl, ?_⟩) (by assumption) ?_
          rotate_left
          · intro w' hSw
            try dsimp only at hSw
            go_simp
            try with_reducible rfl
          try simp only [Act.put, List.getElem_toArray, List.getElem_cons_zero, List.getElem_cons_succ, List.setIfInBounds_toArray, List.set_cons_zero, List.set_cons_succ]
          refine wpAnyH_take (i := 3) (v := ?_) rfl (by kernel_rfl) (by kernel_rfl) (by kernel_rfl) (fun _ _ _ h => h) (Or.inl ⟨by rfl, ?_⟩) (by assumption) ?_
          rotate_left
          · intro w' hSw
            try dsimp only at hSw
            go_simp
            try with_reducible rfl
          try simp only [Act.put, List.getElem_toArray, List.getElem_cons_zero, List.getElem_cons_succ, List.setIfInBounds_toArray, List.set_cons_zero, List.set_cons_succ]
          refine wpAnyH_take (i := 4) (v := ?_) rfl (by kernel_rfl) (by kernel_rfl) (by kernel_rfl) (fun _ _ _ h => h) (Or.inl ⟨by rfl, ?_⟩) (by assumption) ?_
          rotate_left
          · intro w' hSw
            try dsimp only at hSw
            go_simp
            try with_reducible rfl
          try simp only [Act.put, List.getElem_toArray, List.getElem_cons_zero, List.getElem_cons_succ, List.setIfInBounds_toArray, List.set_cons_zero, List.set_cons_succ]
          refine wpAnyH_take (i := 5) (v := ?_) rfl (by kernel_rfl) (by kernel_rfl) (by kernel_rfl) (fun _ _ _ h => h) (Or.inl ⟨by rfl, ?_⟩) (by assumption) ?_
          rotate_left
          · intro w' hSw
            try dsimp only at hSw
            go_simp
            try with_reducible rfl
          try simp only [Act.put, List.getElem_toArray, List.getElem_cons_zero, List.getElem_cons_succ, List.setIfInBounds_toArray, List.set_cons_zero, List.set_cons_succ]
          refine wpAnyH_take (i := 6) (v := ?_) rfl (by kernel_rfl) (by kernel_rfl) (by kernel_rfl) (fun _ _ _ h => h) (Or.inl ⟨by rfl, ?_⟩) (by assumption) ?_
          rotate_left
          · intro w' hSw
            try dsimp only at hSw
            go_simp
            try with_reducible rfl
          try simp only [Act.put, List.getElem_toArray, List.getElem_cons_zero, List.getElem_cons_succ, List.setIfInBounds_toArray, List.set_cons_zero, List.set_cons_succ]
          refine wpAnyH_take (i := 7) (v := ?_) rfl (by kernel_rfl) (by kernel_rfl) (by kernel_rfl) (fun _ _ _ h => h) (Or.inl ⟨by rfl, ?_⟩) (by assumption) ?_
          rotate_left
          · intro w' hSw
            try dsimp only at hSw
            go_simp
            try with_reducible rfl
          try simp only [Act.put, List.getElem_toArray, List.getElem_cons_zero, List.getElem_cons_succ, List.setIfInBounds_toArray, List.set_cons_zero, List.set_cons_succ]
          refine wpAnyH_take (i := 8) (v := ?_) rfl (by kernel_rfl) (by kernel_rfl) (by kernel_rfl) (fun _ _ _ h => h) (Or.inl ⟨by rfl, ?_⟩) (by assumption) ?_
          rotate_left
          · intro w' hSw
            try dsimp only at hSw
            go_simp
            try with_reducible rfl
          try simp only [Act.put, List.getElem_toArray, List.getElem_cons_zero, List.getElem_cons_succ, List.setIfInBounds_toArray, List.set_cons_zero, List.set_cons_succ]
          refine wpAnyH_take (i := 9) (v := ?_) rfl (by kernel_rfl) (by kernel_rfl) (by kernel_rfl) (fun _ _ _ h => h) (Or.inl ⟨by rfl, ?_⟩) (by assumption) ?_
          rotate_left
          · intro w' hSw
            try dsimp only at hSw
            go_simp
            try with_reducible rfl
          try simp only [Act.put, List.getElem_toArray, List.getElem_cons_zero, List.getElem_cons_succ, List.setIfInBounds_toArray, List.set_cons_zero, List.set_cons_succ]
          refine wpAnyH_take (i := 10) (v := ?_) rfl (by kernel_rfl) (by kernel_rfl) (by kernel_rfl) (fun _ _ _ h => h) (Or.inl ⟨by rfl, ?_⟩) (by assumption) ?_
          rotate_left
          · intro w' hSw
            try dsimp only at hSw
            go_simp
            try with_reducible rfl
          try simp only [Act.put, List.getElem_toArray, List.getElem_cons_zero, List.getElem_cons_succ, List.setIfInBounds_toArray, List.set_cons_zero, List.set_cons_succ]
          refine wpAnyH_take (i := 11) (v := ?_) rfl (by kernel_rfl) (by kernel_rfl) (by kernel_rfl) (fun _ _ _ h => h) (Or.inl ⟨by rfl, ?_⟩) (by assumption) ?_
          rotate_left
          · intro w' hSw
            try dsimp only at hSw
            go_simp
            try with_reducible rfl
          try simp only [Act.put, List.getElem_toArray, List.getElem_cons_zero, List.getElem_cons_succ, List.setIfInBounds_toArray, List.set_cons_zero, List.set_cons_succ]
          refine wpAnyH_take (i := 12) (v := ?_) rfl (by kernel_rfl) (by kernel_rfl) (by kernel_rfl) (fun _ _ _ h => h) (Or.inl ⟨by rfl, ?_⟩) (by assumption) ?_
          rotate_left
          · intro w' hSw
            try dsimp only at hSw
            go_simp
            try with_reducible rfl
          try simp only [Act.put, List.getElem_toArray, List.getElem_cons_zero, List.getElem_cons_succ, List.setIfInBounds_toArray, List.set_cons_zero, List.set_cons_succ]
          refine wpAnyH_take (i := 13) (v := ?_) rfl (by kernel_rfl) (by kernel_rfl) (by kernel_rfl) (fun _ _ _ h => h) (Or.inl ⟨by rfl, ?_⟩) (by assumption) ?_
          rotate_left
          · intro w' hSw
            try dsimp only at hSw
            go_simp
            try with_reducible rfl
          try simp only [Act.put, List.getElem_toArray, List.getElem_cons_zero, List.getElem_cons_succ, List.setIfInBounds_toArray, List.set_cons_zero, List.set_cons_succ]
          refine wpAnyH_take (i := 14) (v := ?_) rfl (by kernel_rfl) (by kernel_rfl) (by kernel_rfl) (fun _ _ _ h => h) (Or.inl ⟨by rfl, ?_⟩) (by assumption) ?_
          rotate_left
          · intro w' hSw
            try dsimp only at hSw
            go_simp
            try with_reducible rfl
          try simp only [Act.put, List.getElem_toArray, List.getElem_cons_zero, List.getElem_cons_succ, List.setIfInBounds_toArray, List.set_cons_zero, List.set_cons_succ]
          refine wpAnyH_take (i := 15) (v := ?_) rfl (by kernel_rfl) (by kernel_rfl) (by kernel_rfl) (fun _ _ _ h => h) (Or.inl ⟨by rfl, ?_⟩) (by assumption) ?_
          rotate_left
          · intro w' hSw
            try dsimp only at hSw
            go_simp
            try with_reducible rfl
          try simp only [Act.put, List.getElem_toArray, List.getElem_cons_zero, List.getElem_cons_succ, List.setIfInBounds_toArray, List.set_cons_zero, List.set_cons_succ]
          refine wpAnyH_take (i := 16) (v := ?_) rfl (by kernel_rfl) (by kernel_rfl) (by kernel_rfl) (fun _ _ _ h => h) (Or.inl ⟨by rfl, ?_⟩) (by assumption) ?_
          rotate_left
          · intro w' hSw
            try dsimp only at hSw
            go_simp
            try with_reducible rfl
          try simp only [Act.put, List.getElem_toArray, List.getElem_cons_zero, List.getElem_cons_succ, List.setIfInBounds_toArray, List.set_cons_zero, List.set_cons_succ]
          refine wpAnyH_take (i := 17) (v := ?_) rfl (by kernel_rfl) (by kernel_rfl) (by kernel_rfl) (fun _ _ _ h => h) (Or.inl ⟨by rfl, ?_⟩) (by assumption) ?_
          rotate_left
          · intro w' hSw
            try dsimp only at hSw
            go_simp
            try with_reducible rfl
          try simp only [Act.put, List.getElem_toArray, List.getElem_cons_zero, List.getElem_cons_succ, List.setIfInBounds_toArray, List.set_cons_zero, List.set_cons_succ]
          refine wpAnyH_take (i := 18) (v := ?_) rfl (by kernel_rfl) (by kernel_rfl) (by kernel_rfl) (fun _ _ _ h => h) (Or.inl ⟨by rfl, ?_⟩) (by assumption) ?_
          rotate_left
          · intro w' hSw
            try dsimp only at hSw
            go_simp
            try with_reducible rfl
          try simp only [Act.put, List.getElem_toArray, List.getElem_cons_zero, List.getElem_cons_succ, List.setIfInBounds_toArray, List.set_cons_zero, List.set_cons_succ]
          refine wpAnyH_take (i := 20) (v := ?_) rfl (by kernel_rfl) (by kernel_rfl) (by kernel_rfl) (fun _ _ _ h => h) (Or.inl ⟨by rfl, ?_⟩) (by assumption) ?_
          rotate_left
          · intro w' hSw
            try dsimp only at hSw
            go_simp
            try with_reducible rfl
          try simp only [Act.put, List.getElem_toArray, List.getElem_cons_zero, List.getElem_cons_succ, List.setIfInBounds_toArray, List.set_cons_zero, List.set_cons_succ]
          refine wpAnyH_take (i := 21) (v := ?_) rfl (by kernel_rfl) (by kernel_rfl) (by kernel_rfl) (fun _ _ _ h => h) (Or.inl ⟨by rfl, ?_⟩) (by assumption) ?_
          rotate_left
          · intro w' hSw
            try dsimp only at hSw
            go_simp
            try with_reducible rfl
          try simp only [Act.put, List.getElem_toArray, List.getElem_cons_zero, List.getElem_cons_succ, List.setIfInBounds_toArray, List.set_cons_zero, List.set_cons_succ]
          refine wpAnyH_ready (rs := [19]) (by kernel_rfl) (by simp) ?_
          refine AllReadyH.cons rfl (fun K hK => ?_) AllReadyH.nil
          go_simp
          refine hK.out _ _ ?_ (fun hHeld => ?_)
          · try dsimp only
            go_keep
          clear hK K
          try simp only [Act.put, List.getElem_toArray, List.getElem_cons_zero, List.getElem_cons_succ, List.setIfInBounds_toArray, List.set_cons_zero, List.set_cons_succ]
          refine wpAnyH_ready (rs := [22]) (by kernel_rfl) (by simp) ?_
          refine AllReadyH.cons rfl (fun K hK => ?_) AllReadyH.nil
          go_simp
          (go_at_call 33; refine (by_any pk n hpk _).mono ?_; rintro e w7 ⟨rfl, hw⟩; rw [hw]; clear hw)
          try go_wp2_with fail
          refine hK.out _ _ ?_ (fun hHeld => ?_)
          · try dsimp only
            go_keep
          clear hK K
          try simp only [Act.put, List.getElem_toArray, List.getElem_cons_zero, List.getElem_cons_succ, List.setIfInBounds_toArray, List.set_cons_zero, List.set_cons_succ]
          refine wpAnyH_take (i := 23) (v := ?_) rfl (by kernel_rfl) (by kernel_rfl) (by kernel_rfl) (fun _ _ _ h => h) (Or.inl ⟨by rfl, ?_⟩) (by assumption) ?_
          rotate_left
          · intro w' hSw
            try dsimp only at hSw
            go_simp
            try with_reducible rfl
          try simp only [Act.put, List.getElem_toArray, List.getElem_cons_zero, List.getElem_cons_succ, List.setIfInBounds_toArray, List.set_cons_zero, List.set_cons_succ]
          refine wpAnyH_ready (rs := [24]) (by kernel_rfl) (by simp) ?_
          refine AllReadyH.cons rfl (fun K hK => ?_) AllReadyH.nil
          go_simp
          obtain ⟨e0, e1, e2⟩ := HFS.out
          refine hK.out _ _ ?_ (fun hHeld => ?_)
          · try dsimp only
            go_keep
          clear hK K
          try simp only [Act.put, List.getElem_toArray, List.getElem_cons_zero, List.getElem_cons_succ, List.setIfInBounds_toArray, List.set_cons_zero, List.set_cons_succ]
          refine wpAnyH_done (by kernel_rfl) ?_ _
          go_wp2
          exact ⟨⟨j + 1, by go_num, by omega, ⟨HMV.out.later (below_drew _)⟩⟩, by simp [intOf]; omega⟩
        · obtain rfl : j = pn := by omega
          have HN : Hid (Mv w0 wr p a b F N d base y ws1 (rs.map (mapF (byI n))) (.slice ga l.length cp) (mix (byI n) (i + 1) 0 l) #[.int .i64 k, .int .i64 n, .int .i64 f.k, .int .i64 f.a, .int .i64 f.b, .slice o f.ps.length cap]) := ⟨by
            rw [← mix_row (byI n) i l hil, HPN.out]
            exact HQ.out⟩
          clear HQ
          go_wp2
          exact ⟨⟨i + 1, by go_num, by omega, HN⟩, by simp [intOf]; omega⟩
    · obtain rfl : i = m := by omega
      go_wp2_with (go_at_call 24; refine (map_nilf wr p).mono ?_; rintro e w9 ⟨⟨u9, rfl⟩, B9⟩)
      go_ret
      have e9 : (mix (byI n) i 0 l).map Fp.f = (rs.map (mapF (byI n))).reverse := by rw [← hm, mix_end, HE.out, List.map_reverse]
      exact ⟨rfl, _, _, _, _, (Bo.later ⟨HQ.out.s, HQ.out.D, e9, fun x hx ad ea => by obtain ⟨z, hz, ez⟩ := mix_o hx; exact HPR.out z hz ad (ez.trans ea), HQ.out.bw, HQ.out.bel⟩ B9)⟩
end Go.Proofs.YtglimbpnekephaaDoor
