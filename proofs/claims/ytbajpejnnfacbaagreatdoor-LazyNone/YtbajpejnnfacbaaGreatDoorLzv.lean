/- Package lazy: a thing is called, put in work; all that is in work fails. -/
import Derived.Test.YtbajpejnnfacbaaGreatDoorLzt
namespace Go.Proofs.YtbajpejnnfacbaaGreatDoor.Lz
open Go.RowKit
set_option linter.unusedVariables false
set_option linter.unusedSimpArgs false


theorem size91 : (Tryz.prog.info? 91).map (·.size) = some 8 := by kernel_rfl
theorem setRow_oth (W : World) (g : Nat) (c : Array Value) : ∀ i, i ≠ g → (W.setRow g c).heap[i]? = W.heap[i]? := fun i hi => by
  simp only [World.setRow]
  rw [Array.getElem?_modify, if_neg (fun e => hi e.symm)]
theorem setRow_blk {W : World} {g : Nat} {c c' : Array Value} {t : TypeId} (h : W.heap[g]? = some (.cells c t (0, 0))) : (W.setRow g c').heap[g]? = some (.cells c' t (0, 0)) := by
  simp only [World.setRow]
  rw [Array.getElem?_modify, if_pos rfl, h]
  rfl
theorem setRow_size (W : World) (g : Nat) (c : Array Value) : (W.setRow g c).heap.size = W.heap.size := by simp [World.setRow]
abbrev shT (is n : Int) (f nm o : Option Addr) (ga : Option Addr) (gn gc : Nat) (it : Option Nat) (wr : Int) : Array Value := thC is n (.pointer f) (.pointer nm) (.pointer o) (.slice ga gn gc) (.map it) wr
theorem isT_shape {w : World} {G : Gm} {i : Nat} : ∀ {t : T} {c : Array Value}, isT w G i t c → ∃ is n f nm o ga gn gc it wr, c = shT is n f nm o ga gn gc it wr
  | .num _, _, e => ⟨_, _, _, _, _, _, _, _, _, _, e⟩
  | .con _ _, _, ⟨_, ⟨ga, cap, rfl, _⟩, e⟩ => ⟨_, _, _, _, _, _, _, _, _, _, e⟩
  | .fn _ _ _, _, ⟨_, _, ⟨b, rfl, _⟩, ⟨b2, rfl, _⟩, e⟩ => ⟨_, _, _, _, _, _, _, _, _, _, e⟩
  | .part _ _, _, ⟨_, _, ⟨b, rfl, _⟩, ⟨ga, cap, rfl, _⟩, e⟩ => ⟨_, _, _, _, _, _, _, _, _, _, e⟩
  | .var _, _, ⟨_, ⟨b, rfl, _⟩, e⟩ => ⟨_, _, _, _, _, _, _, _, _, _, e⟩
  | .arr _, _, ⟨_, _, _, ⟨b, rfl, _⟩, e, q⟩ => by
    rcases q with ⟨rfl, _⟩ | ⟨m, n, f, rfl, _⟩
    · exact ⟨_, _, _, _, _, _, _, _, _, _, e⟩
    · exact ⟨_, _, _, _, _, _, _, _, _, _, e⟩
  | .need _ _, _, ⟨_, _, _, ⟨b, rfl, _⟩, ⟨b2, rfl, _⟩, e⟩ => ⟨_, _, _, _, _, _, _, _, _, _, e⟩
  | .call _ _, _, ⟨_, _, ⟨b, rfl, _⟩, ⟨ga, cap, rfl, _⟩, e⟩ => ⟨_, _, _, _, _, _, _, _, _, _, e⟩
  | .work, _, e => ⟨_, _, _, _, _, _, _, _, _, _, e⟩
  | .failed _, _, e => ⟨_, _, _, _, _, _, _, _, _, _, e⟩
  | .same _, _, ⟨_, ⟨b, rfl, _⟩, e⟩ => ⟨_, _, _, _, _, _, _, _, _, _, e⟩
section
variable {w w' : World} {G G' : Gm} {rb mb : Nat} {mv : Mv} {s : St} {sh : Int}
theorem Run.thing (h : Run w G rb mb mv s sh) {b t : Nat} (hb : G b = some (.thing t)) : ∃ tv c, s.th[t]? = some tv ∧ w.heap[b]? = some (.cells c 91 (0, 0)) ∧ isT w G t tv c := h.rep.cont b _ hb
theorem Run.putT (h : Run w G rb mb mv s sh) {b t : Nat} {tv : T} {c : Array Value} (hb : G b = some (.thing t)) (os : w'.os = w.os) (tape : w'.tape = w.tape) (output : w'.output = w.output) (size : w.heap.size ≤ w'.heap.size) (blk : w'.heap[b]? = some (.cells c 91 (0, 0))) (oth : ∀ i, i < w.heap.size → i ≠ b → w'.heap[i]? = w.heap[i]?) (ht : isT w' G t tv c) :
    Run w' G rb mb mv { s with th := s.th.set t tv } sh ∧ Fx G G w w' := by
  have F : Fx G G w w' := Fx.of_own hb (by simp [fixd]) os tape output size oth
  exact ⟨h.next F (fun x k hx => oth x (h.rep.lt hx) (fun e => by rw [e, hb] at hx; cases hx)) (h.rep.put hb size blk ht (fun x ty hx hne _ => oth x (h.rep.lt hx) hne)), F⟩
theorem Run.keep (h : Run w G rb mb mv s sh) (size : w.heap.size ≤ w'.heap.size) (hb : ∀ b ty, G b = some ty → w'.heap[b]? = w.heap[b]?) (h0 : w'.heap[0]? = w.heap[0]?) : Run w' G rb mb mv s sh := by
  obtain ⟨nx, vx, vn, vo, wr, vw, cs, a, b, c, d⟩ := h.r
  obtain ⟨v2, m1, m2⟩ := h.m
  exact ⟨h.rep.later size hb, Table.of_block h.tab h.pos h0, h.g0, h.rt, h.mt, ⟨nx, vx, vn, vo, wr, vw, cs, (hb rb _ h.rt).trans a, b, c.kept (Le.refl G) (fun g hg => hb g _ hg), d⟩, ⟨v2, (hb mb _ h.mt).trans m1, m2.kept (Le.refl G) (fun g hg => hb g _ hg)⟩⟩
theorem calls_any (h : Run w G rb mb mv s sh) {t : Nat} {v : Value} (hv : pT G t v) {l : List Nat} {r : Value} (hr : pRow G l r) (hn : s.ws.length + 1 ≤ 1000000000) :
    Calls Tryz.prog 70 #[ptr rb, v, r] w (Out w G rb mb mv { s with ws := .things l :: s.ws, md := .kn t } sh) := by
  obtain ⟨ga, cap, rfl, hc⟩ := id hr
  have W := wait_any h (.things l) 1 0 none none none ga l.length cap ⟨_, hr, rfl⟩ hn
  have HV := Hid.mk hv
  obtain ⟨bv, rfl, _⟩ := hv
  obtain ⟨n, hn0⟩ : ∃ n, l.length = n := ⟨_, rfl⟩
  rw [hn0] at W ⊢
  clear h hr hc hn0
  go_enter Tryz.func70, Tryz.ntmps70
  go_wp2_with (first
    | (go_at_call 73; refine W.mono ?_; rintro e w8 ⟨rfl, G8, F8, R8⟩; have K := knows_any R8 (pT.le F8.le HV.out); have HF := Hid.mk F8; clear F8 R8)
    | (go_at_call 49; refine K.mono ?_; intro e w9 H9; have HE := Hid.mk (Out.from HF.out H9); obtain ⟨rfl, _⟩ := H9))
  go_end0
  exact HE.out
set_option maxRecDepth 100000 in
set_option maxHeartbeats 4000000 in
theorem works_any (h : Run w G rb mb mv s sh) {b t : Nat} (hb : G b = some (.thing t)) {tv : T} {c : Array Value} (hc : w.heap[b]? = some (.cells c 91 (0, 0))) (ht : isT w G t tv c) (hn : s.ws.length + 1 ≤ 1000000000) :
    Calls Tryz.prog 76 #[ptr rb, ptr b] w fun e w' => e = .returned (.agg c) ∧ ∃ G', Fx G G' w w' ∧ Run w' G' rb mb mv { s with th := s.th.set t .work, ws := .same t :: s.ws } sh := by
  obtain ⟨is, n, f, nm, o, ga, gn, gc, it, wr, rfl⟩ := isT_shape ht
  obtain ⟨W, hW⟩ : ∃ W, W = (w.alloc (.cells (thC 0 0 nilp nilp nilp nils nilm 0) 91)).alloc (.cells (shT is n f nm o ga gn gc it wr) 91) := ⟨_, rfl⟩
  have blt := h.rep.lt hb
  have KW : Below w.heap.size w W := by rw [hW]; exact (Joins.below_alloc1 w _).alloc (Joins.below_alloc1 w _).size _
  have XA : Bx W (w.heap.size + 1) (shT is n f nm o ga gn gc it wr) 91 := by
    rw [hW]
    have := heap_alloc_new (w.alloc (.cells (thC 0 0 nilp nilp nilp nils nilm 0) 91)) (.cells (shT is n f nm o ga gn gc it wr) 91)
    rwa [World.size_alloc] at this
  have XZ : Bx W w.heap.size (thC 0 0 nilp nilp nilp nils nilm 0) 91 := by
    rw [hW]
    exact later' (heap_alloc_new w _) (Joins.below_alloc1 _ _)
  have HW0 := h.below KW
  have XB := later' hc KW
  obtain ⟨W2, hW2⟩ : ∃ W2, W2 = W.setRow b (thC 8 0 nilp nilp nilp nils nilm 0) := ⟨_, rfl⟩
  have oth2 : ∀ i, i ≠ b → W2.heap[i]? = W.heap[i]? := fun i hi => by rw [hW2]; exact setRow_oth _ _ _ i hi
  obtain ⟨R2, F2⟩ := HW0.putT (w' := W2) (tv := .work) hb (by rw [hW2]; rfl) (by rw [hW2]; rfl) (by rw [hW2]; rfl) (by rw [hW2, setRow_size]; exact Nat.le_refl _) (by rw [hW2]; exact setRow_blk XB) (fun i _ hi => oth2 i hi) rfl
  have XA2 : Bx W2 (w.heap.size + 1) (shT is n f nm o ga gn gc it wr) 91 := (oth2 _ (by omega)).trans XA
  have XZ2 : Bx W2 w.heap.size (thC 0 0 nilp nilp nilp nils nilm 0) 91 := (oth2 _ (by omega)).trans XZ
  have WA := wait_any R2 (.same t) 0 0 (some ⟨b, 0, none⟩) none none none 0 0 ⟨_, ⟨b, rfl, hb⟩, rfl⟩ hn
  have fr1 : G w.heap.size = none := h.rep.free (Nat.le_refl _)
  have fr2 : G (w.heap.size + 1) = none := h.rep.free (by omega)
  have zl : w.heap.size < W2.heap.size := lt_of_block XZ2
  have HH := Hid.mk (And.intro XB (And.intro XA2 (And.intro XZ2 (And.intro fr1 (And.intro fr2 ((Fx.of_below (G := G) KW).trans F2))))))
  have HPOS := Hid.mk h.pos
  have HC := Hid.mk hc
  have c0 := (show Bx w b _ 91 from hc).cell 0
  have c1 := (show Bx w b _ 91 from hc).cell 1
  have c2 := (show Bx w b _ 91 from hc).cell 2
  have c3 := (show Bx w b _ 91 from hc).cell 3
  have c4 := (show Bx w b _ 91 from hc).cell 4
  have c5 := (show Bx w b _ 91 from hc).cell 5
  have c6 := (show Bx w b _ 91 from hc).cell 6
  have c7 := (show Bx w b _ 91 from hc).cell 7
  subst hW
  clear h hb ht hc KW XA XZ XB HW0 R2 F2 XA2 XZ2 oth2 fr1 fr2
  go_enter Tryz.func76, Tryz.ntmps76
  go_wp2_with (first
    | (refine wpList_store_row rfl 91 _ _ rfl b (thC 8 0 nilp nilp nilp nils nilm 0) rfl rfl 91 _ HH.out.1 size91 rfl (by simp [Value.oneCell']) ?_; rw [← hW2]; clear hW2)
    | (go_at_call 73; refine WA.mono ?_; rintro e w8 ⟨rfl, G8, F8, R8⟩; have XA8 : Bx w8 (w.heap.size + 1) (shT is n f nm o ga gn gc it wr) 91 := (F8.block _ (lt_of_block HH.out.2.1) (by rw [HH.out.2.2.2.2.1]; trivial)).trans HH.out.2.1; have XZ8 : Bx w8 w.heap.size (thC 0 0 nilp nilp nilp nils nilm 0) 91 := (F8.block _ zl (by rw [HH.out.2.2.2.1]; trivial)).trans HH.out.2.2.1; have HX8 := Hid.mk (And.intro XA8 (And.intro XZ8 (And.intro (F8.new _ zl HH.out.2.2.2.1) (And.intro (HH.out.2.2.2.2.2.trans F8) R8)))); clear F8 R8 XA8 XZ8)
    | (refine wpList_load_row rfl 91 _ rfl (w.heap.size + 1) rfl 91 _ (0, 0) _ HX8.out.1 Tryz.underlying91 rfl size91 ?_)
    | (refine wpList_store_row rfl 91 _ _ rfl w.heap.size (shT is n f nm o ga gn gc it wr) rfl rfl 91 _ HX8.out.2.1 size91 rfl (by simp [Value.oneCell']) ?_))
  obtain ⟨a1, a2, a3, a4, a5⟩ := HX8.out
  have e4 := setRow_oth w8 w.heap.size (shT is n f nm o ga gn gc it wr)
  have wp := HPOS.out
  exact bodyPost_ret (results_cell_row Tryz.results76 _ _ w.heap.size 91 (shT is n f nm o ga gn gc it wr) (0, 0) _ rfl (setRow_blk a2) Tryz.underlying91 rfl size91) rfl ⟨rfl, G8, a4.more rfl rfl rfl (by rw [setRow_size]; exact Nat.le_refl _) (fun i hi => e4 i (by omega)) (Le.refl _) (fun _ _ q => q), a5.keep (w' := w8.setRow w.heap.size (shT is n f nm o ga gn gc it wr)) (by rw [setRow_size]; exact Nat.le_refl _) (fun x ty hx => e4 x (fun z => by rw [z, a3] at hx; cases hx)) (e4 0 (by omega))⟩
end
end Go.Proofs.YtbajpejnnfacbaaGreatDoor.Lz

/- Package lazy: all that is in work fails. -/
namespace Go.Proofs.YtbajpejnnfacbaaGreatDoor.Lz
open Go.RowKit
set_option linter.unusedVariables false
set_option linter.unusedSimpArgs false


theorem fmsC_get {G : Gm} : ∀ {l : List Fm} {c : List Value}, fmsC G l c → ∀ i (h : i < l.length), ∃ d, fmC G (l[i]'h) d ∧ ∀ (j : Nat) u, d[j]? = some u → c[i * 6 + j]? = some u
  | [], _, _, i, h => absurd h (Nat.not_lt_zero i)
  | f :: r, _, ⟨c1, c2, rfl, h1, h2⟩, 0, h => ⟨c1, h1, fun j u hj => by
      rw [Nat.zero_mul, Nat.zero_add, List.getElem?_append_left (List.getElem?_eq_some_iff.1 hj).1]
      exact hj⟩
  | f :: r, _, ⟨c1, c2, rfl, h1, h2⟩, i + 1, h => by
    obtain ⟨d, a, b⟩ := fmsC_get h2 i (by simpa using h)
    have l1 := fmC_len h1
    refine ⟨d, a, fun j u hj => ?_⟩
    rw [List.getElem?_append_right (by omega), l1, show (i + 1) * 6 + j - 6 = i * 6 + j by omega]
    exact b j u hj
theorem failAll_snoc (e : Int) : ∀ (l : List Fm) (f : Fm) (th : List T), failAll e (l ++ [f]) th = failAll e [f] (failAll e l th)
  | [], f, th => rfl
  | .same t :: r, f, th => failAll_snoc e r f (th.set t (.failed e))
  | .things _ :: r, f, th => failAll_snoc e r f th
  | .arms _ _ _ :: r, f, th => failAll_snoc e r f th
  | .prim _ _ _ :: r, f, th => failAll_snoc e r f th
theorem Own.cellAt {w : World} {G : Gm} {k : Nat} {e : TypeId} {size : Nat} {ga : Option Addr} {n cap : Nat} {m : Nat} {xs : List Value} (h : Own w G k e size (.slice ga n cap) m xs) (hs : 0 < size) : n = m ∧ (0 < m → ∃ g, ga = some ⟨g, 0, none⟩ ∧ ∀ (j : Nat) u, xs[j]? = some u → w.cell? ⟨g, j, none⟩ = some u) := by
  obtain ⟨a, b⟩ := h.row
  rcases b with ⟨b, c⟩ | ⟨g, cap', cur, b, _, hg, _, _, _, x6⟩
  · cases b; exact ⟨c.symm, fun z => by omega⟩
  · cases b
    refine ⟨rfl, fun _ => ⟨g, rfl, fun j u hj => ?_⟩⟩
    rw [Joins.cell_of_block hg]
    have jl := (List.getElem?_eq_some_iff.1 hj).1
    rw [← x6, List.getElem?_take_of_lt (by rw [a] at jl; exact jl)] at hj
    simpa using hj
section
variable {w w' : World} {G G' : Gm} {rb mb : Nat} {mv : Mv} {s : St} {sh : Int}
set_option maxRecDepth 100000 in
set_option maxHeartbeats 4000000 in
theorem fails_any (h : Run w G rb mb mv s sh) (er : Int) (hn : s.ws.length ≤ 1000000000) : Calls Tryz.prog 75 #[ptr rb, .int .i64 er] w (Out w G rb mb mv (failS s er) sh) := by
  obtain ⟨nx, vx, vn, vo, wr, vw, cs, a, b, c, d⟩ := h.r
  obtain ⟨w1, hw1⟩ : ∃ w1, w1 = (w.setCell ⟨rb, 2, none⟩ (.int .i64 4)).setCell ⟨rb, 6, none⟩ (.int .i64 er) := ⟨_, rfl⟩
  have b1 : (w.setCell ⟨rb, 2, none⟩ (.int .i64 4)).heap[rb]? = _ := Joins.block_setCell (i := 2) a (.int .i64 4)
  have b2 : Bx w1 rb (rC mb s.fuel 4 vx vn vo er vw sh) 101 := by rw [hw1]; exact Joins.block_setCell (i := 6) b1 (.int .i64 er)
  have oth : ∀ i, i ≠ rb → w1.heap[i]? = w.heap[i]? := fun i hi => by rw [hw1]; exact (setCell_block _ _ _ _ hi).trans (setCell_block _ _ _ _ hi)
  have c1 : Own w1 G 2 160 6 vw s.ws.length cs := c.kept (Le.refl G) (fun g hg => oth g (fun e => by rw [e, h.rt] at hg; cases hg))
  obtain ⟨R1, F1⟩ := h.turn (w' := w1) (md' := .fail er) (ws' := s.ws) b2 (by rw [hw1]; rfl) (by rw [hw1]; rfl) (by rw [hw1]; rfl) (by rw [hw1]; simp [World.setCell]) (fun i _ hi => oth i hi) ⟨rfl, rfl⟩ c1 d
  have k2 := a.cell 2
  have k6 := a.cell 6
  have z2 : w.frozen? ⟨rb, 2, none⟩ = false := Joins.unfrozen_of_block a 2
  have z6 : w.frozen? ⟨rb, 6, none⟩ = false := Joins.unfrozen_of_block a 6
  have k7 : w.cell? ⟨rb, 7, none⟩ = some vw := a.cell 7
  have z7 : w1.frozen? ⟨rb, 7, none⟩ = false := Joins.unfrozen_of_block b2 7
  obtain ⟨ga, cap, hvw⟩ : ∃ ga cap, vw = .slice ga s.ws.length cap := by
    rcases c.row.2 with ⟨q, z⟩ | ⟨g, cp, cur, q, _⟩
    · exact ⟨none, 0, by rw [q, z]⟩
    · exact ⟨_, _, q⟩
  obtain ⟨n, hn0⟩ : ∃ n, s.ws.length = n := ⟨_, rfl⟩
  rw [hvw, hn0] at c1
  rw [hvw, hn0] at k7
  have HB2 := Hid.mk b2
  have HH := Hid.mk (And.intro R1 (And.intro F1 (And.intro c1 (And.intro d hn0))))
  have lr : s.ws.reverse.length = n := by rw [List.length_reverse, hn0]
  have HLR := Hid.mk lr
  rw [hn0] at hn
  have HRT := Hid.mk (And.intro h.rt (And.intro h.rlt oth))
  clear h a b c d c1 b1 b2 oth R1 F1 hn0 lr hvw
  go_enter Tryz.func75, Tryz.ntmps75
  go_wp2
  rw [← hw1]
  clear hw1
  go_loopw [18] (fun c wr => ∃ i : Nat, c = .int .i64 i ∧ i ≤ n ∧ Hid (Run wr G rb mb mv { s with th := failAll er (s.ws.reverse.take i) s.th, md := .fail er } sh ∧ Fx G G w1 wr ∧ ∀ b k, G b = some (.own k) → wr.heap[b]? = w1.heap[b]?)) (fun c _ => n - (intOf c).toNat)
  case atStart => exact ⟨0, rfl, Nat.zero_le _, ⟨HH.out.1, Fx.refl _ _, fun _ _ _ => rfl⟩⟩
  case round =>
    obtain ⟨i, rfl, hi, HR⟩ := hrel
    by_cases hlt : i < n
    · have il : i < s.ws.reverse.length := by rw [HLR.out]; exact hlt
      obtain ⟨_, hcell⟩ := (HH.out.2.2.1.kept (w' := wr) (Le.refl G) (fun g hg => HR.out.2.2 g _ hg)).cellAt (by decide)
      obtain ⟨g, hga, hcell2⟩ := hcell (by omega)
      subst hga
      obtain ⟨d, hd, hdc⟩ := fmsC_get HH.out.2.2.2.1 i il
      have sn : s.ws.reverse.take (i + 1) = s.ws.reverse.take i ++ [s.ws.reverse[i]] := List.take_succ_eq_append_getElem il
      have fa := failAll_snoc er (s.ws.reverse.take i) s.ws.reverse[i] s.th
      rw [← sn] at fa
      have HFA := Hid.mk fa
      generalize failAll er (s.ws.reverse.take i) s.th = thr at *
      obtain ⟨wh, po, fga, gn, gc, px, pn, pl, rfl⟩ := fmC_shape hd
      have cl : ∀ (j : Nat) u, [Value.int .i64 wh, .pointer po, .slice fga gn gc, .pointer px, .pointer pn, .int .i64 pl][j]? = some u → wr.cell? ⟨g, i * 6 + j, none⟩ = some u := fun j u hj => hcell2 _ _ (hdc j u hj)
      have d0 := cl 0 _ rfl
      have d1 := cl 1 _ rfl
      have d2 := cl 2 _ rfl
      have d3 := cl 3 _ rfl
      have d4 := cl 4 _ rfl
      have d5 := cl 5 _ rfl
      rw [Nat.add_zero] at d0
      have hltI : (i : Int) < n := by omega
      have KA := Joins.below_alloc1 wr (.cells #[.int .i64 wh, .pointer po, .slice fga gn gc, .pointer px, .pointer pn, .int .i64 pl] 160)
      have RA := HR.out.1.below KA
      have HKA := Hid.mk (And.intro KA RA)
      have NO : Hid ((∀ t, s.ws.reverse[i] ≠ .same t) → wh ≠ 0 ∧ failAll er [s.ws.reverse[i]] thr = thr) := ⟨fun q => by
        generalize s.ws.reverse[i] = f at *
        cases f with
        | same t => exact absurd rfl (q t)
        | things l => obtain ⟨r, _, e⟩ := hd; cases e; exact ⟨by decide, rfl⟩
        | arms al o e => obtain ⟨x, nm, kid, _, _, e⟩ := hd; cases e; exact ⟨by decide, rfl⟩
        | prim k j i => obtain ⟨x, nm, kid, _, _, _, _, e⟩ := hd; cases e; exact ⟨by decide, rfl⟩⟩
      have NS : Hid (∀ t, s.ws.reverse[i] = .same t → wh = 0 ∧ ∃ b, po = some ⟨b, 0, none⟩ ∧ G b = some (.thing t) ∧ failAll er [s.ws.reverse[i]] thr = thr.set t (.failed er)) := ⟨fun t q => by
        rw [q] at hd ⊢
        obtain ⟨o, ⟨b, rfl, hb⟩, e⟩ := hd
        cases e
        exact ⟨rfl, b, rfl, hb, rfl⟩⟩
      by_cases same : ∃ t, s.ws.reverse[i] = .same t
      · obtain ⟨t, ht⟩ := same
        obtain ⟨rfl, b, rfl, hb, hfa⟩ := NS.out t ht
        have HFA2 := Hid.mk hfa
        obtain ⟨tv, cc, _, hbc, hbt⟩ := RA.thing hb
        obtain ⟨is, nn, f, nm, o, ga2, gn2, gc2, it, wr2, rfl⟩ := isT_shape hbt
        have HB := Hid.mk (And.intro hb hbc)
        clear cl hcell hcell2 hdc hd sn fa RA KA NO NS ht hfa hb hbc hbt
        go_wp2_with (refine wpList_store_row rfl 91 _ _ rfl b (thC 9 0 nilp nilp nilp nils nilm er) rfl rfl 91 _ HB.out.2 size91 rfl (by simp [Value.oneCell']) ?_)
        refine ⟨⟨i + 1, by go_num, by omega, ⟨?_⟩⟩, by simp [intOf]; omega⟩
        rw [HFA.out, HFA2.out]
        have e4 := setRow_oth (wr.alloc (.cells #[.int .i64 0, .pointer (some ⟨b, 0, none⟩), .slice fga gn gc, .pointer px, .pointer pn, .int .i64 pl] 160)) b (thC 9 0 nilp nilp nilp nils nilm er)
        obtain ⟨R2, F2⟩ := HKA.out.2.putT (w' := (wr.alloc (.cells #[.int .i64 0, .pointer (some ⟨b, 0, none⟩), .slice fga gn gc, .pointer px, .pointer pn, .int .i64 pl] 160)).setRow b (thC 9 0 nilp nilp nilp nils nilm er)) (tv := .failed er) HB.out.1 rfl rfl rfl (by rw [setRow_size]; exact Nat.le_refl _) (setRow_blk HB.out.2) (fun i _ hi => e4 i hi) rfl
        refine ⟨R2, HR.out.2.1.trans ((Fx.of_below HKA.out.1).trans F2), fun x k hx => (e4 x (fun z => by rw [z, HB.out.1] at hx; cases hx)).trans ((HKA.out.1.block x (HR.out.1.rep.lt hx)).trans (HR.out.2.2 x k hx))⟩
      · have nsame : ∀ t, s.ws.reverse[i] ≠ .same t := fun t e => same ⟨t, e⟩
        obtain ⟨nw, hfa⟩ := NO.out nsame
        have HFA2 := Hid.mk hfa
        have q0 : (wh == 0) = false := beq_eq_false_iff_ne.2 nw
        clear cl hcell hcell2 hdc hd sn fa RA KA NO NS same nsame hfa nw
        go_wp2
        refine ⟨⟨i + 1, by go_num, by omega, ⟨?_⟩⟩, by simp [intOf]; omega⟩
        rw [HFA.out, HFA2.out]
        exact ⟨HKA.out.2, HR.out.2.1.trans (Fx.of_below HKA.out.1), fun x k hx => (HKA.out.1.block x (HR.out.1.rep.lt hx)).trans (HR.out.2.2 x k hx)⟩
    · obtain rfl : i = n := by omega
      have XR : Bx wr rb (rC mb s.fuel 4 vx vn vo er vw sh) 101 := (HR.out.2.2 rb 0 HRT.out.1).trans HB2.out
      have x7 := XR.cell 7
      have f7 : wr.frozen? ⟨rb, 7, none⟩ = false := Joins.unfrozen_of_block XR 7
      have HX := Hid.mk XR
      clear XR
      go_wp2
      go_end0
      have e1 : s.ws.reverse.take i = s.ws.reverse := List.take_of_length_le (by rw [HLR.out]; omega)
      obtain ⟨RR, FR, _⟩ := HR.out
      rw [e1] at RR
      have b3 : (wr.setCell ⟨rb, 7, none⟩ (.slice none 0 0)).heap[rb]? = _ := Joins.block_setCell (i := 7) HX.out (.slice none 0 0)
      obtain ⟨R3, F3⟩ := RR.turn (w' := wr.setCell ⟨rb, 7, none⟩ (.slice none 0 0)) (md' := .fail er) (ws' := []) (cs := []) b3 rfl rfl rfl (by simp [World.setCell]) (fun i _ hi => setCell_block _ _ _ _ hi) ⟨rfl, rfl⟩ ⟨World.ownsRow_nil _ _ _ _, fun g hg => by simp [Value.ownBlock] at hg⟩ rfl
      exact ⟨rfl, G, HH.out.2.1.trans (FR.trans F3), R3⟩
end
end Go.Proofs.YtbajpejnnfacbaaGreatDoor.Lz
