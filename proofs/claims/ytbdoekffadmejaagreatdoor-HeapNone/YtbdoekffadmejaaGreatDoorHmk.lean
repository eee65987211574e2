/- Package heap: New. -/
import Derived.Test.YtbdoekffadmejaaGreatDoorHmj
namespace Go.Proofs.YtbdoekffadmejaaGreatDoor
open Go.RowKit
open Go.Maps (Keyed int_keyed)
set_option linter.unusedVariables false
set_option linter.unusedSimpArgs false
set_option maxRecDepth 100000

theorem new_no (w : World) (g s b y o : Int) (h : cfgB g s b y o = false) : Calls Tryz.prog 34 #[cfV g s b y o] w fun e w' => e = .returned (.tuple #[.pointer none, .int .i64 2]) ∧ Below w.heap.size w w' := by
  have B := (Below.refl _ w).alloc (Nat.le_refl _) (.cells #[.int .i64 g, .int .i64 s, .int .i64 b, .int .i64 y, .int .i64 o] 23)
  have C := cfg_any (w.alloc (.cells #[.int .i64 g, .int .i64 s, .int .i64 b, .int .i64 y, .int .i64 o] 23)) g s b y o
  rw [h] at C
  have HB := Hid.mk B
  clear B h
  go_enter Tryz.func34, Tryz.ntmps34
  go_wp2_with (go_at_call 88; refine C.mono ?_; rintro e w1 ⟨rfl, B1⟩)
  go_ret2
  exact ⟨rfl, HB.out.trans (B1.mono HB.out.size)⟩
section
variable {W : World} {h : Nat} {c : Cf} {p a ov wm l k : Value} {d : Bool}
theorem box_p (b : W.heap[h]? = some (.cells (hcells c p a ov wm l k d) 96 (0, 0))) (x : Value) : (W.setCell ⟨h, 5, none⟩ x).heap[h]? = some (.cells (hcells c x a ov wm l k d) 96 (0, 0)) := (Joins.block_setCell b _).trans (by simp [hcells])
theorem box_a (b : W.heap[h]? = some (.cells (hcells c p a ov wm l k d) 96 (0, 0))) (x : Value) : (W.setCell ⟨h, 6, none⟩ x).heap[h]? = some (.cells (hcells c p x ov wm l k d) 96 (0, 0)) := (Joins.block_setCell b _).trans (by simp [hcells])
theorem box_o (b : W.heap[h]? = some (.cells (hcells c p a ov wm l k d) 96 (0, 0))) (x : Value) : (W.setCell ⟨h, 7, none⟩ x).heap[h]? = some (.cells (hcells c p a x wm l k d) 96 (0, 0)) := (Joins.block_setCell b _).trans (by simp [hcells])
theorem box_l (b : W.heap[h]? = some (.cells (hcells c p a ov wm l k d) 96 (0, 0))) (x : Value) : (W.setCell ⟨h, 9, none⟩ x).heap[h]? = some (.cells (hcells c p a ov wm x k d) 96 (0, 0)) := (Joins.block_setCell b _).trans (by simp [hcells])
theorem box_k (b : W.heap[h]? = some (.cells (hcells c p a ov wm l k d) 96 (0, 0))) (x : Value) : (W.setCell ⟨h, 10, none⟩ x).heap[h]? = some (.cells (hcells c p a ov wm l x d) 96 (0, 0)) := (Joins.block_setCell b _).trans (by simp [hcells])
end
theorem box_new (w1 : World) (c : Cf) : ((w1.alloc (Obj.map #[] 0)).alloc (.cells (hcells c (.pointer none) (.pointer none) (.slice none 0 0) (.map (some w1.heap.size)) (.pointer none) (.pointer none) false) 96)).heap[w1.heap.size + 1]? = some (.cells (hcells c (.pointer none) (.pointer none) (.slice none 0 0) (.map (some w1.heap.size)) (.pointer none) (.pointer none) false) 96 (0, 0)) := by
  have t := heap_alloc_new (w1.alloc (Obj.map #[] 0)) (.cells (hcells c (.pointer none) (.pointer none) (.slice none 0 0) (.map (some w1.heap.size)) (.pointer none) (.pointer none) false) 96)
  rw [World.size_alloc] at t
  exact t
theorem grown_cell (W : World) (b i : Nat) (x : Value) : W.grownBy (W.setCell ⟨b, i, none⟩ x) (some b) := ⟨rfl, rfl, rfl, by simp, fun k hk hx => Below.heap_setCell _ _ _ _ (fun e => hx (by rw [e]))⟩
/-- The config's copy stays. -/
def Q5 (W : World) (q : Nat) (c : Cf) : Prop := W.heap[q]? = some (.cells #[.int .i64 c.g, .int .i64 c.s, .int .i64 c.b, .int .i64 c.y, .int .i64 c.o] 23 (0, 0))
/-- The first tags. -/
theorem tags_new (γ : Nat → Tg) (n0 h wm p pb a ab l lb n : Nat) (lm : Nat → Nat) (o : n0 ≤ wm ∧ wm < h ∧ h < p ∧ h < pb ∧ p ≠ pb ∧ p < a ∧ p < ab ∧ pb < a ∧ pb < ab ∧ a ≠ ab ∧ a < l ∧ a < lb ∧ ab < l ∧ ab < lb ∧ l ≠ lb)
    (om : ∀ i, i < n → a < lm i ∧ ab < lm i ∧ lm i ≠ l ∧ lm i ≠ lb) :
    ∃ γ' : Nat → Tg, (∀ k, k < n0 → γ' k = γ k) ∧ γ' h = .hb ∧ γ' wm = .wm ∧ γ' p = .pb ∧ γ' pb = .pr ∧ γ' a = .ab ∧ γ' ab = .ar ∧ γ' l = .lb false ∧ γ' lb = .lr false ∧ ∀ i, i < n → γ' (lm i) = .lm false := by
  refine ⟨fun k => if k < n0 then γ k else if k = h then .hb else if k = wm then .wm else if k = p then .pb else if k = pb then .pr else if k = a then .ab else if k = ab then .ar else if k = l then .lb false else if k = lb then .lr false else .lm false, fun k hk => if_pos hk, ?_, ?_, ?_, ?_, ?_, ?_, ?_, ?_, fun i hi => ?_⟩
  · simp only []; rw [if_neg (by omega), if_pos trivial]
  · simp only []; rw [if_neg (by omega), if_neg (by omega), if_pos trivial]
  · simp only []; rw [if_neg (by omega), if_neg (by omega), if_neg (by omega), if_pos trivial]
  · simp only []; rw [if_neg (by omega), if_neg (by omega), if_neg (by omega), if_neg (by omega), if_pos trivial]
  · simp only []; rw [if_neg (by omega), if_neg (by omega), if_neg (by omega), if_neg (by omega), if_neg (by omega), if_pos trivial]
  · simp only []; rw [if_neg (by omega), if_neg (by omega), if_neg (by omega), if_neg (by omega), if_neg (by omega), if_neg (by omega), if_pos trivial]
  · simp only []; rw [if_neg (by omega), if_neg (by omega), if_neg (by omega), if_neg (by omega), if_neg (by omega), if_neg (by omega), if_neg (by omega), if_pos trivial]
  · simp only []; rw [if_neg (by omega), if_neg (by omega), if_neg (by omega), if_neg (by omega), if_neg (by omega), if_neg (by omega), if_neg (by omega), if_neg (by omega), if_pos trivial]
  · have := om i hi
    simp only []; rw [if_neg (by omega), if_neg (by omega), if_neg (by omega), if_neg (by omega), if_neg (by omega), if_neg (by omega), if_neg (by omega), if_neg (by omega), if_neg (by omega)]
theorem Ls.same {lo : Nat} {w w' : World} {s sb n : Nat} {m : Nat → Nat} {L : Nat → List Int} (h : Rm.Ls lo w s sb n m L) (a : w'.heap[s]? = w.heap[s]?) (b : w'.heap[sb]? = w.heap[sb]?) (c : ∀ i, i < n → w'.heap[m i]? = w.heap[m i]?) : Rm.Ls lo w' s sb n m L :=
  ⟨a.trans h.box, b.trans h.sets, fun i hi => (h.map i hi).of_block (c i hi), h.gd, h.inj, h.le, h.lo⟩
def newF (N : Nat) : Nat → Int := Bp.allocF (fun _ => -1) N 1
theorem newF_good (N : Nat) : Bp.Good (newF N) N := Bp.allocF_good (Bp.good_new N)
theorem newF_eq {N : Nat} (h : 1 ≤ N) : newF N = Bp.mark (fun _ => -1) 0 1 0 := by
  have e : Bp.fit (fun _ => -1) N 1 = some (0, N) := by
    unfold Bp.fit
    have := Bp.parts_bare h
    unfold Bp.bare at this
    rw [this]
    simp; omega
  unfold newF Bp.allocF
  rw [if_neg (by omega), e]
  rfl
theorem newF_zero {N : Nat} (h : 1 ≤ N) : newF N 0 ≠ -1 := by rw [newF_eq h, Bp.mark_in (by omega) (by omega)]; decide
/-- A new heap. -/
def Hs.new (c : Cf) : Hs := ⟨c, newF c.b, List.replicate (c.b * 64) 0, fun _ _ => Bp.S0.none, fun _ => none, fun _ => []⟩
/-- All but its spaces. -/
structure Pk (W : World) (γ : Nat → Tg) (c : Cf) (h p a wm l : Nat) : Prop where
  gl : Gl W γ
  pool : PlM W γ p (newF c.b) c.b
  ar : ArM W γ a (List.replicate (c.b * 64) 0)
  wh : WM W wm 0 (fun _ => none)
  whT : γ wm = .wm
  li : LiM false W γ l c.g (fun _ => [])
theorem Pk.fr {T : Tg → Prop} {W W' : World} {γ γ' : Nat → Tg} {c : Cf} {h p a wm l : Nat} (q : Pk W γ c h p a wm l) (F : Fr T W W' γ γ') (t : ¬ T .no ∧ ¬ T .pb ∧ ¬ T .pr ∧ ¬ T .ab ∧ ¬ T .ar ∧ ¬ T .wm ∧ ¬ T (.lb false) ∧ ¬ T (.lr false) ∧ ¬ T (.lm false)) : Pk W' γ' c h p a wm l :=
  ⟨q.gl.fr F t.1, q.pool.fr F t.2.1 t.2.2.1, q.ar.fr F t.2.2.2.1 t.2.2.2.2.1, q.wh.fr F (by rw [q.whT]; exact t.2.2.2.2.2.1), F.tg q.wh.lt q.whT, q.li.fr F t.2.2.2.2.2.2.1 t.2.2.2.2.2.2.2.1 t.2.2.2.2.2.2.2.2⟩
theorem Nk.hm {W0 W : World} {γ0 γ : Nat → Tg} {c : Cf} {h p a wm l : Nat} {V : Value} {vs : Nat → Value} {σ : Nat → Nat → Nat} (ok : c.Ok) (q : Nk W0 W γ0 γ c h p a wm l V c.g vs σ) (k : Pk W γ c h p a wm l) :
    Hm W γ h (.pointer none) ⟨p, a, V, vs, σ, wm, 0, l⟩ (Hs.new c) := {
  box := q.box
  tag := q.tag
  gl := k.gl
  ok := ok
  pool := k.pool
  good := newF_good _
  zero := newF_zero (by have := ok.b; show 1 ≤ c.b; omega)
  ar := k.ar
  len := by simp [Hs.new]
  word := fun x hx => by
    have := List.eq_of_mem_replicate hx
    omega
  row := ⟨ownsRow_base_a q.out (Nat.zero_le _), q.outT, q.inn, q.innT⟩
  sps := q.sps
  inj := q.inj
  fit := fun g s _ _ => Bp.Fit.none _
  wh := k.wh
  whT := k.whT
  li := k.li
  dom := fun x g s e => by cases e }
theorem made_end {w w5 w6 : World} {γ : Nat → Tg} {c : Cf} {q h wm p pb a ab l lb n4 : Nat} {lm : Nat → Nat} (ok : c.Ok) (G : Gl w γ) (hq : q = w.heap.size) (o : w.heap.size < wm ∧ h = wm + 1 ∧ h < p ∧ h < pb ∧ p < a ∧ p < ab ∧ pb < a ∧ pb < ab ∧ a < n4 ∧ ab < n4)
    (hx : w5.heap[h]? = some (.cells (hcells c (pt p) (pt a) (.slice none 0 0) (.map (some wm)) (.pointer none) (.pointer none) false) 96 (0, 0))) (hQ : Q5 w5 q c) (M : Bp.VM 3 w5 wm 0 (fun _ => none)) (A : Bp.Ar.Has 169 w5 a ab (List.replicate (c.b * 64) 0))
    (L : Rm.Ls n4 w5 l lb c.g lm (fun _ => [])) (P : Bp.Has 182 w6 p pb (newF c.b) c.b) (G6 : (w5.setCell ⟨h, 9, none⟩ (pt l)).grownBy w6 (some pb)) (B : Below w.heap.size w w5) :
    ∃ γ1, (∀ k, k < w.heap.size → γ1 k = γ k) ∧ Nk w6 w6 γ1 γ1 c h p a wm l (.slice none 0 0) 0 (fun _ => .slice none 0 0) (fun _ _ => 0) ∧ Pk w6 γ1 c h p a wm l ∧ Q5 w6 q c ∧ Below w.heap.size w w6 := by
  have lo := L.lo
  have ne1 : l ≠ lb := fun e => by
    have := L.box
    rw [e, L.sets] at this
    simp only [Option.some.injEq, Obj.cells.injEq] at this
    exact absurd this.2.1 (by decide)
  have nem : ∀ i, i < c.g → lm i ≠ l ∧ lm i ≠ lb := fun i hi => ⟨fun e => (by obtain ⟨es, c', hb⟩ := (L.map i hi).block; rw [e, L.box] at hb; cases hb), fun e => (by obtain ⟨es, c', hb⟩ := (L.map i hi).block; rw [e, L.sets] at hb; cases hb)⟩
  have st : ∀ k, k < w5.heap.size → k ≠ h → k ≠ pb → w6.heap[k]? = w5.heap[k]? := fun k hk h1 h2 => (G6.block k (by rw [World.size_setCell]; exact hk) (fun e => h2 (by cases e; rfl))).trans (Below.heap_setCell _ _ _ _ h1)
  have ppb := P.ne
  have aab := A.ne
  obtain ⟨γ1, t0, th, twm, tp, tpb, ta, tab, tl, tlb, tlm⟩ := tags_new γ w.heap.size h wm p pb a ab l lb c.g lm ⟨by omega, by omega, by omega, by omega, ppb, by omega, by omega, by omega, by omega, aab, by omega, by omega, by omega, by omega, ne1⟩ (fun i hi => by have := lo.2.2 i hi; have := nem i hi; exact ⟨by omega, by omega, this.1, this.2⟩)
  have B6 : Below w.heap.size w w6 := by
    have b2 : Below w.heap.size w (w5.setCell ⟨h, 9, none⟩ (pt l)) := below_set B (by omega)
    exact b2.grown G6 (by rw [World.size_setCell]; exact B.size) (fun k e => by cases e; omega)
  have lm' : ∀ i, i < c.g → w6.heap[lm i]? = w5.heap[lm i]? := fun i hi => st _ (L.map i hi).lt (by have := lo.2.2 i hi; omega) (by have := lo.2.2 i hi; omega)
  refine ⟨γ1, t0, {
    box := (G6.block h (by rw [World.size_setCell]; exact lt_of hx) (fun e => by cases e; omega)).trans (box_l hx (pt l))
    tag := th
    out := World.ownsRow_nil _ _ _ _
    outT := fun k e => by cases e
    inn := fun g hg => absurd hg (Nat.not_lt_zero _)
    innT := fun g hg => absurd hg (Nat.not_lt_zero _)
    sps := fun g s hg => absurd hg (Nat.not_lt_zero _)
    inj := fun g s g' s' hg => absurd hg (Nat.not_lt_zero _)
    fr := Fr.refl _ _ _ }, ⟨?_, ⟨pb, P, tp, tpb⟩, ⟨ab, ⟨(st a A.lt.1 (by omega) (by omega)).trans A.box, (st ab A.lt.2 (by omega) (by omega)).trans A.words, A.ne, A.len⟩, ta, tab⟩, ⟨_, M.of_block (st wm M.lt (by omega) (by omega)), fun x => rfl⟩, twm, ⟨lb, lm, ?_, tl, tlb, tlm⟩⟩, (st q (lt_of hQ) (by omega) (by omega)).trans hQ, B6⟩
  · have := G.fr (Fr.later (fun _ => False) γ B6) id
    have g1 := this.fr ((Fr.refl (fun _ => False) w6 γ).retag (γ2 := γ)  (fun _ _ => rfl)) id
    exact ⟨this.tb, this.sp, (t0 0 (by have := G.lt; omega)).trans G.t0, (t0 1 G.lt).trans G.t1⟩
  · have e := Ls.same L (st l (lt_of L.box) (by omega) (by omega)) (st lb (lt_of L.sets) (by omega) (by omega)) lm'
    exact ⟨e.box, e.sets, e.map, e.gd, e.inj, e.le, ⟨Nat.zero_le _, Nat.zero_le _, fun _ _ => Nat.zero_le _⟩⟩
theorem row_sl {w : World} {base n : Nat} {e : TypeId} {v : Value} {xs : List Value} (h : w.ownsRow base e 1 v n xs) : ∃ ga k c, v = .slice ga k c := by
  rcases h.2 with ⟨rfl, _⟩ | ⟨g, cap, cur, rfl, _⟩
  · exact ⟨_, _, _, rfl⟩
  · exact ⟨_, _, _, rfl⟩
theorem nohso : ¬ hso .no ∧ ¬ hso .pb ∧ ¬ hso .pr ∧ ¬ hso .ab ∧ ¬ hso .ar ∧ ¬ hso .wm ∧ ¬ hso (.lb false) ∧ ¬ hso (.lr false) ∧ ¬ hso (.lm false) := by
  refine ⟨?_, ?_, ?_, ?_, ?_, ?_, ?_, ?_, ?_⟩ <;> (rintro (e | e) <;> cases e)
theorem cell_new1 (w : World) (v : Value) (t : TypeId) : (w.alloc (.cells #[v] t)).cell? ⟨w.heap.size, 0, none⟩ = some v := by rw [Joins.cell_of_block (heap_alloc_new w _)]; rfl
theorem row_one1 {w : World} {base n : Nat} {e : TypeId} {v : Value} {xs : List Value} (h : w.ownsRow base e 1 v n xs) : v.oneCell' = true := by
  rcases h.2 with ⟨rfl, _⟩ | ⟨g, cap, cur, rfl, _⟩ <;> rfl
section
variable {W0 W W1 W2 w : World} {γ0 γ : Nat → Tg} {c : Cf} {h p a wm l : Nat} {V v1 : Value} {j : Nat} {vs : Nat → Value} {σ : Nat → Nat → Nat}
theorem new_h (q : Nk W0 W γ0 γ c h p a wm l V j vs σ) (B : Below W.heap.size W W1) (G : (W1.alloc (.cells #[v1] 113)).grownBy W2 V.ownBlock) : W2.heap[h]? = W.heap[h]? := by
  refine (G.block h (by have := lt_of q.box; have := B.size; simp; omega) (fun e => ?_)).trans ((Below.heap_alloc _ _ _ (by have := lt_of q.box; have := B.size; omega)).trans (B.block h (lt_of q.box)))
  have := q.outT h e.symm
  rw [q.tag] at this
  cases this
theorem new_z (q : Nk W0 W γ0 γ c h p a wm l V j vs σ) (B : Below W.heap.size W W1) (G : (W1.alloc (.cells #[v1] 113)).grownBy W2 V.ownBlock) : W2.frozen? ⟨h, 7, none⟩ = false := Joins.unfrozen_of_block ((new_h q B G).trans q.box) 7
theorem new_c (q : Nk W0 W γ0 γ c h p a wm l V j vs σ) (B : Below W.heap.size W W1) (G : (W1.alloc (.cells #[v1] 113)).grownBy W2 V.ownBlock) : W2.cell? ⟨h, 7, none⟩ = some V := by rw [Joins.cell_of_block ((new_h q B G).trans q.box)]; rfl
theorem new_b (B0 : Below w.heap.size w W) (q : Nk W0 W γ0 γ c h p a wm l V j vs σ) (B : Below W.heap.size W W1) (G : (W1.alloc (.cells #[v1] 113)).grownBy W2 V.ownBlock) (h0 : w.heap.size ≤ W0.heap.size) (hh : w.heap.size ≤ h) (V' : Value) : Below w.heap.size w (W2.setCell ⟨h, 7, none⟩ V') := by
  have B1 := B0.trans (B.mono B0.size)
  have B2 := B1.alloc B1.size (.cells #[v1] 113)
  exact below_set (B2.grown G B2.size (fun k e => Nat.le_trans h0 (q.out.lt k e).1)) hh
end
set_option maxHeartbeats 2000000 in
theorem new_yes {w : World} {γ : Nat → Tg} (G : Gl w γ) (c : Cf) (ok : c.Ok) : Calls Tryz.prog 34 #[cfV c.g c.s c.b c.y c.o] w fun e w' => ∃ h A γ', e = .returned (.tuple #[pt h, .int .i64 0]) ∧ Hm w' γ' h (.pointer none) A (Hs.new c) ∧ A.wn = 0 ∧ Below w.heap.size w w' ∧ (∀ k, k < w.heap.size → γ' k = γ k) := by
  have HG := Hid.mk G
  have HOK := Hid.mk ok
  have og := ok.g
  have ob := ok.b
  have C := cfg_any (w.alloc (.cells #[.int .i64 c.g, .int .i64 c.s, .int .i64 c.b, .int .i64 c.y, .int .i64 c.o] 23)) c.g c.s c.b c.y c.o
  rw [show cfgB c.g c.s c.b c.y c.o = true by
    have := ok.s; have := ok.y; have := ok.o
    simp only [cfgB, withB, Bool.and_eq_true, decide_eq_true_eq]; omega] at C
  have HC0 := Hid.mk (heap_alloc_new w (.cells #[.int .i64 c.g, .int .i64 c.s, .int .i64 c.b, .int .i64 c.y, .int .i64 c.o] 23))
  have hmm := @run_makeMap Tryz.prog
  have PN : ∀ W, Calls Tryz.prog 89 #[.int .i64 c.b] W fun e w' => ∃ p b, e = .returned (.tuple #[pt p, .int .i64 0]) ∧ Bp.Has 182 w' p b (fun _ => -1) c.b ∧ W.heap.size ≤ p ∧ W.heap.size ≤ b ∧ Below W.heap.size W w' := fun W =>
    (Bp.new_ok c.b W (by omega) (by omega)).mono (by rintro e w' ⟨rfl, h1, h2⟩; exact ⟨_, _, rfl, h1, by omega, by omega, h2⟩)
  have AN : ∀ W, Calls Tryz.prog 90 #[.int .i64 ((c.b : Int) * 64)] W fun e w' => ∃ p b, e = .returned (.tuple #[pt p, .int .i64 0]) ∧ Bp.Ar.Has 169 w' p b (List.replicate (c.b * 64) 0) ∧ W.heap.size ≤ p ∧ W.heap.size ≤ b ∧ Below W.heap.size W w' := fun W => by
    have := Bp.Ar.new_ok (c.b * 64) W (by omega) (by omega)
    rw [show ((c.b * 64 : Nat) : Int) = (c.b : Int) * 64 by omega] at this
    exact this.mono (by rintro e w' ⟨rfl, h1, h2⟩; exact ⟨_, _, rfl, h1, by omega, by omega, h2⟩)
  have RN := fun W => Rm.new_any W c.g og
  have PA := fun (W : World) (p b : Nat) (H : Bp.Has 182 W p b (fun _ => -1) c.b) => Bp.alloc_any H 1 (by omega)
  have bb : (c.b : Int) * 64 ≤ 1000000 := by omega
  go_enter Tryz.func34, Tryz.ntmps34
  go_wp2_with (first
    | (go_at_call 88; refine C.mono ?_; rintro e w1 ⟨rfl, B1⟩; have hq := (B1.block w.heap.size (by simp)).trans HC0.out; have a0 := hd4 hq 0; have a1 := hd4 hq 1; have a2 := hd4 hq 2; have a3 := hd4 hq 3; have a4 := hd4 hq 4; simp only [List.getElem?_toArray, List.getElem?_cons_zero, List.getElem?_cons_succ] at a0 a1 a2 a3 a4; have HQ := Hid.mk (show Q5 w1 w.heap.size c from hq); have HB1 := Hid.mk ((Below.refl _ w).alloc (Nat.le_refl _) (.cells #[.int .i64 c.g, .int .i64 c.s, .int .i64 c.b, .int .i64 c.y, .int .i64 c.o] 23) |>.trans (B1.mono (by simp))); have hl := lt_of hq; clear hq B1 C HC0)
    | (go_at_call 89; refine (PN _).mono ?_; rintro e w3 ⟨p, pb, rfl, HP, lp, lpb, B3⟩; have HP3 := Hid.mk HP; rw [World.size_alloc, World.size_alloc] at lp lpb; have s3 := B3.size; rw [World.size_alloc, World.size_alloc] at s3; have HM3 := Hid.mk ((Bp.VM.made 3 w1).of_block ((B3.block w1.heap.size (by rw [World.size_alloc, World.size_alloc]; omega)).trans (Below.heap_alloc _ _ _ (by rw [World.size_alloc]; omega)))); have BW3 := Hid.mk ((((HB1.out.alloc HB1.out.size (.map #[] 0)).alloc (by rw [World.size_alloc]; have := HB1.out.size; omega) _).trans (B3.mono (by rw [World.size_alloc, World.size_alloc]; have := HB1.out.size; omega)))); have HB3 := Hid.mk B3; have HP3' := Hid.mk HP; have hx := (B3.block (w1.heap.size + 1) (by simp)).trans (box_new w1 c); have HX3 := Hid.mk hx; have z5 := Joins.unfrozen_of_block hx 5; have c5 := hd4 hx 5; have hq3 : Q5 w3 w.heap.size c := (B3.block w.heap.size (by simp; omega)).trans ((Below.heap_alloc _ _ _ (by simp; omega)).trans ((Below.heap_alloc _ _ _ hl).trans HQ.out)); have HQ3 := Hid.mk hq3; have b2 := hd4 hq3 2; have b0 := hd4 hq3 0; simp only [hcells, List.getElem?_toArray, List.getElem?_cons_zero, List.getElem?_cons_succ] at b2 b0 c5; have hl3 : w1.heap.size + 1 < w3.heap.size := lt_of hx; clear HP B3 hx hq3 PN HQ a0 a1 a2 a3 a4)
    | (go_at_call 90; refine (AN _).mono ?_; rintro e w4 ⟨a, ab, rfl, HA, la, lab, B4⟩; have s4 := B4.size; rw [World.size_setCell] at la lab s4; have hx := (B4.block (w1.heap.size + 1) (by rw [World.size_setCell]; exact hl3)).trans (box_p HX3.out (pt p)); have HX4 := Hid.mk hx; have z6 := Joins.unfrozen_of_block hx 6; have c6 := hd4 hx 6; have hq4 : Q5 w4 w.heap.size c := (B4.block w.heap.size (by rw [World.size_setCell]; omega)).trans ((Below.heap_setCell _ _ _ _ (show w.heap.size ≠ w1.heap.size + 1 by omega)).trans HQ3.out); have HQ4 := Hid.mk hq4; have b2 := hd4 hq4 2; have b0 := hd4 hq4 0; simp only [hcells, List.getElem?_toArray, List.getElem?_cons_zero, List.getElem?_cons_succ] at b2 b0 c6; have HA4 := Hid.mk HA; have HA4' := Hid.mk HA; have HM4 := Hid.mk (HM3.out.of_block ((B4.block w1.heap.size (by rw [World.size_setCell]; omega)).trans (Below.heap_setCell _ _ _ _ (show w1.heap.size ≠ w1.heap.size + 1 by omega)))); have BW4 := Hid.mk ((BW3.out.setCell (show w.heap.size ≤ w1.heap.size + 1 by omega) _).trans (B4.mono (by rw [World.size_setCell]; omega))); have HP4 := Hid.mk ((HP3.out.chg (Bp.Chg.one (X := fun k => k = w1.heap.size + 1) (grown_cell w3 (w1.heap.size + 1) 5 (pt p)) rfl) (show ¬ p = w1.heap.size + 1 by omega) (show ¬ pb = w1.heap.size + 1 by omega)).chg (Bp.Chg.later (X := fun _ => False) B4) id id); have HB4 := Hid.mk B4; clear hx hq4 HA B4 HQ3 HP3)
    | (go_at_call 76; refine (RN _).mono ?_; rintro e w5 ⟨l, lb, lm, rfl, HL, B5⟩; have s5 := B5.size; rw [World.size_setCell] at s5; have hx := (B5.block (w1.heap.size + 1) (by rw [World.size_setCell]; omega)).trans (box_a HX4.out (pt a)); have HX5 := Hid.mk hx; have z9 := Joins.unfrozen_of_block hx 9; have c9 := hd4 hx 9; have c5 := hd4 hx 5; have hq5 : Q5 w5 w.heap.size c := (B5.block w.heap.size (by rw [World.size_setCell]; omega)).trans ((Below.heap_setCell _ _ _ _ (show w.heap.size ≠ w1.heap.size + 1 by omega)).trans HQ4.out); have HQ5 := Hid.mk hq5; have b0 := hd4 hq5 0; simp only [hcells, List.getElem?_toArray, List.getElem?_cons_zero, List.getElem?_cons_succ] at b0 c9 c5; have HL5 := Hid.mk HL; have HM5 := Hid.mk (HM4.out.of_block ((B5.block w1.heap.size (by rw [World.size_setCell]; omega)).trans (Below.heap_setCell _ _ _ _ (show w1.heap.size ≠ w1.heap.size + 1 by omega)))); have BW5 := Hid.mk ((BW4.out.setCell (show w.heap.size ≤ w1.heap.size + 1 by omega) _).trans (B5.mono (by rw [World.size_setCell]; omega))); have C5 := Bp.Chg.one (X := fun k => k = w1.heap.size + 1) (grown_cell w4 (w1.heap.size + 1) 6 (pt a)) rfl; have D5 := Bp.Chg.later (X := fun _ => False) B5; have HP5 := Hid.mk ((HP4.out.chg C5 (show ¬ p = w1.heap.size + 1 by omega) (show ¬ pb = w1.heap.size + 1 by omega)).chg D5 id id); have HA5 := Hid.mk ((HA4.out.chg C5 (show ¬ a = w1.heap.size + 1 by omega) (show ¬ ab = w1.heap.size + 1 by omega)).chg D5 id id); have HB5 := Hid.mk B5; clear hx hq5 HL B5 HQ4 HP4 HA4 C5 D5)
    | (go_at_call 91; have C6 := Bp.Chg.one (X := fun k => k = w1.heap.size + 1) (grown_cell w5 (w1.heap.size + 1) 9 (pt l)) rfl; refine (PA _ p pb (HP5.out.chg C6 (show ¬ p = w1.heap.size + 1 by omega) (show ¬ pb = w1.heap.size + 1 by omega))).mono ?_; rintro e w6 ⟨rfl, HP, G6⟩; obtain ⟨γ1, t0, N0, K0, q6, B6⟩ := made_end (q := w.heap.size) (h := w1.heap.size + 1) (wm := w1.heap.size) HOK.out HG.out rfl ⟨hl, rfl, by omega, by omega, by have := HP3'.out.lt; omega, by have := HP3'.out.lt; omega, by have := HP3'.out.lt; omega, by have := HP3'.out.lt; omega, by rw [World.size_setCell]; exact HA4'.out.lt.1, by rw [World.size_setCell]; exact HA4'.out.lt.2⟩ HX5.out HQ5.out HM5.out HA5.out HL5.out HP G6 BW5.out; have b0 := hd4 q6 0; simp only [List.getElem?_toArray, List.getElem?_cons_zero] at b0; have HT := Hid.mk t0; have HN := Hid.mk N0; have HK := Hid.mk K0; have HB6 := Hid.mk B6; have HQ6 := Hid.mk q6; clear t0 N0 K0 q6 B6 HP G6 C6))
  have hw1 : w.heap.size < w1.heap.size := hl
  go_loopw [48] (fun i' wr => ∃ (j : Nat) (γ' : Nat → Tg) (V : Value) (vs : Nat → Value) (σ : Nat → Nat → Nat), i' = .int .i64 j ∧ j ≤ c.g ∧ Hid (Nk w6 wr γ1 γ' c (w1.heap.size + 1) p a w1.heap.size l V j vs σ) ∧ Hid (Below w.heap.size w wr)) (fun i' _ => c.g - (RowKit.intOf i').toNat)
  case atStart => exact ⟨0, γ1, _, _, _, rfl, Nat.zero_le _, HN, HB6⟩
  case round =>
    obtain ⟨j, γ', V, vs, σ, rfl, hj, HN', HBr⟩ := hrel
    by_cases hlt : j < c.g
    · have hlt' : (j : Int) < c.g := by omega
      have c7 : wr.cell? ⟨w1.heap.size + 1, 7, none⟩ = some V := HN'.out.cell 7
      have SN := spaces_new (w := wr.drew) (h := w1.heap.size + 1) (p := p) (a := a) (HN'.out.cell 0) (HN'.out.cell 1) (HN'.out.cell 5) (HN'.out.cell 6) HOK.out j hlt
      have HNl := Hid.mk (lt_of HN'.out.box)
      go_wp2
      refine wp_region_held_drew (S := (fun _ => True)) (by kernel_rfl) trivial (fun hHeld => ?_)
      refine wpAnyH_take (i := 0) (v := ?_) rfl (by kernel_rfl) (by kernel_rfl) (by kernel_rfl) (fun _ _ _ h => h) (Or.inl ⟨by rfl, ?_⟩) (by assumption) ?_
      rotate_left
      · intro w' hSw
        try dsimp only at hSw
        go_simp
        try with_reducible rfl
      try simp only [Act.put, List.getElem_toArray, List.getElem_cons_zero, List.getElem_cons_succ, List.setIfInBounds_toArray, List.set_cons_zero, List.set_cons_succ]
      refine wpAnyH_take (i := 1) (v := ?_) rfl (by kernel_rfl) (by kernel_rfl) (by kernel_rfl) (fun _ _ _ h => h) (Or.inl ⟨by rfl, ?_⟩) (by assumption) ?_
      rotate_left
      · intro w' hSw
        try dsimp only at hSw
        go_simp
        try with_reducible rfl
      try simp only [Act.put, List.getElem_toArray, List.getElem_cons_zero, List.getElem_cons_succ, List.setIfInBounds_toArray, List.set_cons_zero, List.set_cons_succ]
      refine wpAnyH_take (i := 2) (v := ?_) rfl (by kernel_rfl) (by kernel_rfl) (by kernel_rfl) (fun _ _ _ h => h) (Or.inl ⟨by rfl, ?_⟩) (by assumption) ?_
      rotate_left
      · intro w' hSw
        try dsimp only at hSw
        go_simp
        try with_reducible rfl
      try simp only [Act.put, List.getElem_toArray, List.getElem_cons_zero, List.getElem_cons_succ, List.setIfInBounds_toArray, List.set_cons_zero, List.set_cons_succ]
      refine wpAnyH_take (i := 3) (v := ?_) rfl (by kernel_rfl) (by kernel_rfl) (by kernel_rfl) (fun _ _ _ h => h) (Or.inl ⟨by rfl, ?_⟩) (by assumption) ?_
      rotate_left
      · intro w' hSw
        try dsimp only at hSw
        go_simp
        try with_reducible rfl
      try simp only [Act.put, List.getElem_toArray, List.getElem_cons_zero, List.getElem_cons_succ, List.setIfInBounds_toArray, List.set_cons_zero, List.set_cons_succ]
      refine wpAnyH_take (i := 5) (v := ?_) rfl (by kernel_rfl) (by kernel_rfl) (by kernel_rfl) (fun _ _ _ h => h) (Or.inl ⟨by rfl, ?_⟩) (by assumption) ?_
      rotate_left
      · intro w' hSw
        try dsimp only at hSw
        go_simp
        try with_reducible rfl
      try simp only [Act.put, List.getElem_toArray, List.getElem_cons_zero, List.getElem_cons_succ, List.setIfInBounds_toArray, List.set_cons_zero, List.set_cons_succ]
      refine wpAnyH_take (i := 6) (v := ?_) rfl (by kernel_rfl) (by kernel_rfl) (by kernel_rfl) (fun _ _ _ h => h) (Or.inl ⟨by rfl, ?_⟩) (by assumption) ?_
      rotate_left
      · intro w' hSw
        try dsimp only at hSw
        go_simp
        try with_reducible rfl
      try simp only [Act.put, List.getElem_toArray, List.getElem_cons_zero, List.getElem_cons_succ, List.setIfInBounds_toArray, List.set_cons_zero, List.set_cons_succ]
      refine wpAnyH_ready (rs := [4, 7]) (by kernel_rfl) (by simp) ?_
      refine AllReadyH.cons rfl (fun K hK => ?_) (AllReadyH.cons rfl (fun K hK => ?_) AllReadyH.nil)
      · go_simp
        refine hK.out _ _ trivial (fun hHeld => ?_)
        clear hK K
        try simp only [Act.put, List.getElem_toArray, List.getElem_cons_zero, List.getElem_cons_succ, List.setIfInBounds_toArray, List.set_cons_zero, List.set_cons_succ]
        refine wpAnyH_ready (rs := [7]) (by kernel_rfl) (by simp) ?_
        refine AllReadyH.cons rfl (fun K hK => ?_) AllReadyH.nil
        go_simp
        (go_at_call 92; refine SN.mono ?_; rintro e w7 ⟨v1, σ1, m1, rfl, E1⟩; obtain ⟨gv, nv, cv, rfl⟩ := row_sl E1.row; have cV := (E1.bel.cell (p := ⟨w1.heap.size + 1, 7, none⟩) HNl.out).trans c7; have HE1 := Hid.mk (show Ek wr w7 p a _ (c.n j) σ1 m1 from ⟨E1.row, E1.sps, E1.news, E1.injs, E1.injm, (below_drew1 wr).trans E1.bel⟩); clear E1)
        try go_wp2_with fail
        refine hK.out _ _ trivial (fun hHeld => ?_)
        clear hK K
        try simp only [Act.put, List.getElem_toArray, List.getElem_cons_zero, List.getElem_cons_succ, List.setIfInBounds_toArray, List.set_cons_zero, List.set_cons_succ]
        refine wpAnyH_ready (rs := [8]) (by kernel_rfl) (by simp) ?_
        refine AllReadyH.cons rfl (fun K hK => ?_) AllReadyH.nil
        go_simp
        try go_wp2_with fail
        refine hK.out _ _ trivial (fun hHeld => ?_)
        clear hK K
        try simp only [Act.put, List.getElem_toArray, List.getElem_cons_zero, List.getElem_cons_succ, List.setIfInBounds_toArray, List.set_cons_zero, List.set_cons_succ]
        refine wpAnyH_ready (rs := [9]) (by kernel_rfl) (by simp) ?_
        refine AllReadyH.cons rfl (fun K hK => ?_) AllReadyH.nil
        refine step_app1 rfl (.tmp 55) (.tmp 59) 91 rfl w6.heap.size 113 (.slice none 0 0) 24 Tryz.underlying91 info113 (by decide) rfl V j ((List.range j).map vs) rfl (row_later HN'.out.out (HE1.out.bel.alloc HE1.out.bel.size _)) w7.heap.size _ rfl (cell_new1 w7 _ 113) (row_one1 HE1.out.row) (by omega) (by have := HN'.out.fr.size; have := HE1.out.bel.size; simp; omega) ?_
        intro V' w8 r8 g8 o8
        obtain ⟨gw, nw, cw, rfl⟩ := row_sl r8
        obtain ⟨γ2, N2⟩ := HN'.out.next HE1.out r8 g8 o8
        have HN2 := Hid.mk N2
        have z8 : w8.frozen? ⟨w1.heap.size + 1, 7, none⟩ = false := new_z HN'.out HE1.out.bel g8
        have y8 := new_c HN'.out HE1.out.bel g8
        have HB8 := Hid.mk (new_b HBr.out HN'.out HE1.out.bel g8 HB6.out.size (by omega) (.slice gw nw cw))
        clear N2 r8 g8 o8
        refine hK.out _ _ trivial (fun hHeld => ?_)
        clear hK K
        try simp only [Act.put, List.getElem_toArray, List.getElem_cons_zero, List.getElem_cons_succ, List.setIfInBounds_toArray, List.set_cons_zero, List.set_cons_succ]
        refine wpAnyH_take (i := 10) (v := ?_) rfl (by kernel_rfl) (by kernel_rfl) (by kernel_rfl) (fun _ _ _ h => h) (Or.inl ⟨by rfl, ?_⟩) (by assumption) ?_
        rotate_left
        · intro w' hSw
          try dsimp only at hSw
          go_simp
          try with_reducible rfl
        try simp only [Act.put, List.getElem_toArray, List.getElem_cons_zero, List.getElem_cons_succ, List.setIfInBounds_toArray, List.set_cons_zero, List.set_cons_succ]
        refine wpAnyH_take (i := 11) (v := ?_) rfl (by kernel_rfl) (by kernel_rfl) (by kernel_rfl) (fun _ _ _ h => h) (Or.inl ⟨by rfl, ?_⟩) (by assumption) ?_
        rotate_left
        · intro w' hSw
          try dsimp only at hSw
          go_simp
          try with_reducible rfl
        try simp only [Act.put, List.getElem_toArray, List.getElem_cons_zero, List.getElem_cons_succ, List.setIfInBounds_toArray, List.set_cons_zero, List.set_cons_succ]
        refine wpAnyH_ready (rs := [12]) (by kernel_rfl) (by simp) ?_
        refine AllReadyH.cons rfl (fun K hK => ?_) AllReadyH.nil
        go_simp
        refine hK.out _ _ trivial (fun hHeld => ?_)
        clear hK K
        try simp only [Act.put, List.getElem_toArray, List.getElem_cons_zero, List.getElem_cons_succ, List.setIfInBounds_toArray, List.set_cons_zero, List.set_cons_succ]
        refine wpAnyH_done (by kernel_rfl) ?_ _
        go_wp2
        go_roundw
        case rel => exact ⟨j + 1, γ2, _, _, _, by go_num, by omega, HN2, HB8⟩
        case measure => simp [RowKit.intOf]; omega
      · go_simp
        (go_at_call 92; refine SN.mono ?_; rintro e w7 ⟨v1, σ1, m1, rfl, E1⟩; obtain ⟨gv, nv, cv, rfl⟩ := row_sl E1.row; have cV := (E1.bel.cell (p := ⟨w1.heap.size + 1, 7, none⟩) HNl.out).trans c7; have HE1 := Hid.mk (show Ek wr w7 p a _ (c.n j) σ1 m1 from ⟨E1.row, E1.sps, E1.news, E1.injs, E1.injm, (below_drew1 wr).trans E1.bel⟩); clear E1)
        try go_wp2_with fail
        refine hK.out _ _ trivial (fun hHeld => ?_)
        clear hK K
        try simp only [Act.put, List.getElem_toArray, List.getElem_cons_zero, List.getElem_cons_succ, List.setIfInBounds_toArray, List.set_cons_zero, List.set_cons_succ]
        have cV2 : (w7.alloc (.cells #[Value.slice gv nv cv] 113)).cell? ⟨w1.heap.size + 1, 7, none⟩ = some V := (((Below.refl _ w7).alloc (Nat.le_refl _) _).cell (p := ⟨w1.heap.size + 1, 7, none⟩) (World.block_lt_of_cell? _ _ cV)).trans cV
        refine wpAnyH_ready (rs := [4, 8]) (by kernel_rfl) (by simp) ?_
        refine AllReadyH.cons rfl (fun K hK => ?_) (AllReadyH.cons rfl (fun K hK => ?_) AllReadyH.nil)
        · go_simp
          refine hK.out _ _ trivial (fun hHeld => ?_)
          clear hK K
          try simp only [Act.put, List.getElem_toArray, List.getElem_cons_zero, List.getElem_cons_succ, List.setIfInBounds_toArray, List.set_cons_zero, List.set_cons_succ]
          refine wpAnyH_ready (rs := [8]) (by kernel_rfl) (by simp) ?_
          refine AllReadyH.cons rfl (fun K hK => ?_) AllReadyH.nil
          go_simp
          try go_wp2_with fail
          refine hK.out _ _ trivial (fun hHeld => ?_)
          clear hK K
          try simp only [Act.put, List.getElem_toArray, List.getElem_cons_zero, List.getElem_cons_succ, List.setIfInBounds_toArray, List.set_cons_zero, List.set_cons_succ]
          refine wpAnyH_ready (rs := [9]) (by kernel_rfl) (by simp) ?_
          refine AllReadyH.cons rfl (fun K hK => ?_) AllReadyH.nil
          refine step_app1 rfl (.tmp 55) (.tmp 59) 91 rfl w6.heap.size 113 (.slice none 0 0) 24 Tryz.underlying91 info113 (by decide) rfl V j ((List.range j).map vs) rfl (row_later HN'.out.out (HE1.out.bel.alloc HE1.out.bel.size _)) w7.heap.size _ rfl (cell_new1 w7 _ 113) (row_one1 HE1.out.row) (by omega) (by have := HN'.out.fr.size; have := HE1.out.bel.size; simp; omega) ?_
          intro V' w8 r8 g8 o8
          obtain ⟨gw, nw, cw, rfl⟩ := row_sl r8
          obtain ⟨γ2, N2⟩ := HN'.out.next HE1.out r8 g8 o8
          have HN2 := Hid.mk N2
          have z8 : w8.frozen? ⟨w1.heap.size + 1, 7, none⟩ = false := new_z HN'.out HE1.out.bel g8
          have y8 := new_c HN'.out HE1.out.bel g8
          have HB8 := Hid.mk (new_b HBr.out HN'.out HE1.out.bel g8 HB6.out.size (by omega) (.slice gw nw cw))
          clear N2 r8 g8 o8
          refine hK.out _ _ trivial (fun hHeld => ?_)
          clear hK K
          try simp only [Act.put, List.getElem_toArray, List.getElem_cons_zero, List.getElem_cons_succ, List.setIfInBounds_toArray, List.set_cons_zero, List.set_cons_succ]
          refine wpAnyH_take (i := 10) (v := ?_) rfl (by kernel_rfl) (by kernel_rfl) (by kernel_rfl) (fun _ _ _ h => h) (Or.inl ⟨by rfl, ?_⟩) (by assumption) ?_
          rotate_left
          · intro w' hSw
            try dsimp only at hSw
            go_simp
            try with_reducible rfl
          try simp only [Act.put, List.getElem_toArray, List.getElem_cons_zero, List.getElem_cons_succ, List.setIfInBounds_toArray, List.set_cons_zero, List.set_cons_succ]
          refine wpAnyH_take (i := 11) (v := ?_) rfl (by kernel_rfl) (by kernel_rfl) (by kernel_rfl) (fun _ _ _ h => h) (Or.inl ⟨by rfl, ?_⟩) (by assumption) ?_
          rotate_left
          · intro w' hSw
            try dsimp only at hSw
            go_simp
            try with_reducible rfl
          try simp only [Act.put, List.getElem_toArray, List.getElem_cons_zero, List.getElem_cons_succ, List.setIfInBounds_toArray, List.set_cons_zero, List.set_cons_succ]
          refine wpAnyH_ready (rs := [12]) (by kernel_rfl) (by simp) ?_
          refine AllReadyH.cons rfl (fun K hK => ?_) AllReadyH.nil
          go_simp
          refine hK.out _ _ trivial (fun hHeld => ?_)
          clear hK K
          try simp only [Act.put, List.getElem_toArray, List.getElem_cons_zero, List.getElem_cons_succ, List.setIfInBounds_toArray, List.set_cons_zero, List.set_cons_succ]
          refine wpAnyH_done (by kernel_rfl) ?_ _
          go_wp2
          go_roundw
          case rel => exact ⟨j + 1, γ2, _, _, _, by go_num, by omega, HN2, HB8⟩
          case measure => simp [RowKit.intOf]; omega
        · go_simp
          try go_wp2_with fail
          refine hK.out _ _ trivial (fun hHeld => ?_)
          clear hK K
          try simp only [Act.put, List.getElem_toArray, List.getElem_cons_zero, List.getElem_cons_succ, List.setIfInBounds_toArray, List.set_cons_zero, List.set_cons_succ]
          refine wpAnyH_ready (rs := [4]) (by kernel_rfl) (by simp) ?_
          refine AllReadyH.cons rfl (fun K hK => ?_) AllReadyH.nil
          go_simp
          refine hK.out _ _ trivial (fun hHeld => ?_)
          clear hK K
          try simp only [Act.put, List.getElem_toArray, List.getElem_cons_zero, List.getElem_cons_succ, List.setIfInBounds_toArray, List.set_cons_zero, List.set_cons_succ]
          refine wpAnyH_ready (rs := [9]) (by kernel_rfl) (by simp) ?_
          refine AllReadyH.cons rfl (fun K hK => ?_) AllReadyH.nil
          refine step_app1 rfl (.tmp 55) (.tmp 59) 91 rfl w6.heap.size 113 (.slice none 0 0) 24 Tryz.underlying91 info113 (by decide) rfl V j ((List.range j).map vs) rfl (row_later HN'.out.out (HE1.out.bel.alloc HE1.out.bel.size _)) w7.heap.size _ rfl (cell_new1 w7 _ 113) (row_one1 HE1.out.row) (by omega) (by have := HN'.out.fr.size; have := HE1.out.bel.size; simp; omega) ?_
          intro V' w8 r8 g8 o8
          obtain ⟨gw, nw, cw, rfl⟩ := row_sl r8
          obtain ⟨γ2, N2⟩ := HN'.out.next HE1.out r8 g8 o8
          have HN2 := Hid.mk N2
          have z8 : w8.frozen? ⟨w1.heap.size + 1, 7, none⟩ = false := new_z HN'.out HE1.out.bel g8
          have y8 := new_c HN'.out HE1.out.bel g8
          have HB8 := Hid.mk (new_b HBr.out HN'.out HE1.out.bel g8 HB6.out.size (by omega) (.slice gw nw cw))
          clear N2 r8 g8 o8
          refine hK.out _ _ trivial (fun hHeld => ?_)
          clear hK K
          try simp only [Act.put, List.getElem_toArray, List.getElem_cons_zero, List.getElem_cons_succ, List.setIfInBounds_toArray, List.set_cons_zero, List.set_cons_succ]
          refine wpAnyH_take (i := 10) (v := ?_) rfl (by kernel_rfl) (by kernel_rfl) (by kernel_rfl) (fun _ _ _ h => h) (Or.inl ⟨by rfl, ?_⟩) (by assumption) ?_
          rotate_left
          · intro w' hSw
            try dsimp only at hSw
            go_simp
            try with_reducible rfl
          try simp only [Act.put, List.getElem_toArray, List.getElem_cons_zero, List.getElem_cons_succ, List.setIfInBounds_toArray, List.set_cons_zero, List.set_cons_succ]
          refine wpAnyH_take (i := 11) (v := ?_) rfl (by kernel_rfl) (by kernel_rfl) (by kernel_rfl) (fun _ _ _ h => h) (Or.inl ⟨by rfl, ?_⟩) (by assumption) ?_
          rotate_left
          · intro w' hSw
            try dsimp only at hSw
            go_simp
            try with_reducible rfl
          try simp only [Act.put, List.getElem_toArray, List.getElem_cons_zero, List.getElem_cons_succ, List.setIfInBounds_toArray, List.set_cons_zero, List.set_cons_succ]
          refine wpAnyH_ready (rs := [12]) (by kernel_rfl) (by simp) ?_
          refine AllReadyH.cons rfl (fun K hK => ?_) AllReadyH.nil
          go_simp
          refine hK.out _ _ trivial (fun hHeld => ?_)
          clear hK K
          try simp only [Act.put, List.getElem_toArray, List.getElem_cons_zero, List.getElem_cons_succ, List.setIfInBounds_toArray, List.set_cons_zero, List.set_cons_succ]
          refine wpAnyH_done (by kernel_rfl) ?_ _
          go_wp2
          go_roundw
          case rel => exact ⟨j + 1, γ2, _, _, _, by go_num, by omega, HN2, HB8⟩
          case measure => simp [RowKit.intOf]; omega
    · obtain rfl : c.g = j := by omega
      go_wp2
      go_ret2
      exact ⟨_, _, γ', rfl, HN'.out.hm HOK.out (HK.out.fr HN'.out.fr nohso), rfl, HBr.out, fun k hk => (HN'.out.fr.tag k (by have := HB6.out.size; omega)).trans (HT.out k hk)⟩
end Go.Proofs.YtbdoekffadmejaaGreatDoor
