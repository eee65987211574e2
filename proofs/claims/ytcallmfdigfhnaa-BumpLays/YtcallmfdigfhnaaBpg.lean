/- The law's own helper that makes two spaces of one pool and arena, and the document's. -/
import Derived.Test.YtcallmfdigfhnaaBpf
import Derived.Test.YtcallmfdigfhnaaRefNew
namespace Go.Proofs.Ytcallmfdigfhnaa
open Go.RowKit
set_option linter.unusedVariables false
set_option linter.unusedSimpArgs false

theorem Ref.chg {X : Nat → Prop} {w w' : World} {p b N c : Nat} {f : Nat → Int} (h : Ref w p b f N c) (g : Chg X w w') (hp : ¬ X p) (hb : ¬ X b) : Ref w' p b f N c :=
  ⟨(g.block p h.lt.1 hp).trans h.box, by obtain ⟨cs, a, d⟩ := h.nums; exact ⟨cs, (g.block b h.lt.2 hb).trans a, d⟩, h.ne, h.len⟩
/-- The row of a pool whose first block is taken. -/
def f1 (N : Nat) : Nat → Int := allocF (fun _ => -1) N 1
theorem f1_good (N : Nat) : Good (f1 N) N := allocF_good (good_new N)
def pt (b : Nat) : Value := .pointer (some ⟨b, 0, none⟩)
def spt (k : Nat) (s : Nat → Nat) (i : Nat) : Value := if i < k then pt (s i) else .pointer none
structure Wd (w0 W : World) (q p pb a ab y yb c N : Nat) (f : Nat → Int) (ws : List Int) (M : Nat) (s m x : Nat → Nat) (k : Nat) : Prop where
  box : W.heap[q]? = some (.cells #[pt p, pt a, spt k s 0, spt k s 1, spt k x 0, spt k x 1] 39 (0, 0))
  pool : Has 85 W p pb f N
  arena : Ar.Has 72 W a ab ws
  ref : Ref W y yb f N c
  sps : ∀ i, i < k → Sp W (s i) p a (m i) nilS S0.none
  xs : ∀ i, i < k → W.heap[x i]? = some (.cells #[pt y, .int .i64 (M : Int), nilS, .int .i64 0, nilS, nilS, .int .i64 0, .int .i64 0] 67 (0, 0))
  lo : w0.heap.size ≤ p ∧ w0.heap.size ≤ pb ∧ w0.heap.size ≤ a ∧ w0.heap.size ≤ ab ∧ w0.heap.size ≤ y ∧ w0.heap.size ≤ yb
  up : p < q ∧ pb < q ∧ a < q ∧ ab < q ∧ y < q ∧ yb < q
  ap : p ≠ a ∧ p ≠ ab ∧ pb ≠ a ∧ pb ≠ ab ∧ y ≠ p ∧ y ≠ pb ∧ y ≠ a ∧ y ≠ ab ∧ yb ≠ p ∧ yb ≠ pb ∧ yb ≠ a ∧ yb ≠ ab
  hi : ∀ i, i < k → q < s i ∧ q < m i ∧ q < x i ∧ s i ≠ m i ∧ x i ≠ s i ∧ x i ≠ m i
  ord : 1 < k → s 0 < s 1 ∧ s 0 < m 1 ∧ s 0 < x 1 ∧ m 0 < s 1 ∧ m 0 < m 1 ∧ m 0 < x 1 ∧ x 0 < s 1 ∧ x 0 < m 1 ∧ x 0 < x 1
  bel : Below w0.heap.size w0 W
section
variable {w0 W W' : World} {q p pb a ab y yb c N M k : Nat} {f : Nat → Int} {ws : List Int} {s m x : Nat → Nat}
theorem Wd.ltq (h : Wd w0 W q p pb a ab y yb c N f ws M s m x k) : q < W.heap.size := (Array.getElem?_eq_some_iff.1 h.box).1
theorem Wd.later (h : Wd w0 W q p pb a ab y yb c N f ws M s m x k) (B : Below W.heap.size W W') : Wd w0 W' q p pb a ab y yb c N f ws M s m x k :=
  ⟨(B.block q h.ltq).trans h.box, h.pool.later B, ⟨(B.block _ h.arena.lt.1).trans h.arena.box, (B.block _ h.arena.lt.2).trans h.arena.words, h.arena.ne, h.arena.len⟩, h.ref.later B, fun i hi => (h.sps i hi).later B, fun i hi => (B.block _ (Array.getElem?_eq_some_iff.1 (h.xs i hi)).1).trans (h.xs i hi), h.lo, h.up, h.ap, h.hi, h.ord, h.bel.trans (B.mono (h.bel.size))⟩
def put (s : Nat → Nat) (k v : Nat) : Nat → Nat := fun i => if i = k then v else s i
theorem put_same (s : Nat → Nat) (k v : Nat) : put s k v k = v := by simp [put]
theorem put_other {s : Nat → Nat} {k v i : Nat} (h : i ≠ k) : put s k v i = s i := by simp [put, h]
/-- One space more. -/
theorem Wd.next (h : Wd w0 W q p pb a ab y yb c N f ws M s m x k) (hk : k < 2) {s' m' x' : Nat} {B : Nat} (hB : ∀ i, i < k → s i < B ∧ m i < B ∧ x i < B) (hq : q < B) (b1 : B ≤ s') (b2 : B ≤ m') (b3 : B ≤ x') (n1 : x' ≠ s') (n2 : x' ≠ m')
    (S' : Sp W s' p a m' nilS S0.none) (X' : W.heap[x']? = some (.cells #[pt y, .int .i64 (M : Int), nilS, .int .i64 0, nilS, nilS, .int .i64 0, .int .i64 0] 67 (0, 0)))
    (hW : W'.heap[q]? = some (.cells #[pt p, pt a, spt (k + 1) (put s k s') 0, spt (k + 1) (put s k s') 1, spt (k + 1) (put x k x') 0, spt (k + 1) (put x k x') 1] 39 (0, 0))) (hG : W.grownBy W' (some q)) :
    Wd w0 W' q p pb a ab y yb c N f ws M (put s k s') (put m k m') (put x k x') (k + 1) := by
  have u := h.up
  have far : ∀ i, i < W.heap.size → i ≠ q → W'.heap[i]? = W.heap[i]? := fun i hi hq => hG.block i hi (by simpa using hq)
  have spk : ∀ {s m : Nat}, Sp W s p a m nilS S0.none → q < s → q < m → Sp W' s p a m nilS S0.none := fun {s m} z h1 h2 => z.same fun b hb => by
    refine far b (z.lt b hb) ?_
    rcases hb with rfl | rfl | e
    · omega
    · omega
    · simp [Value.ownBlock] at e
  refine ⟨hW, h.pool.kept hG (by simp; omega) (by simp; omega), ⟨(far _ h.arena.lt.1 (by omega)).trans h.arena.box, (far _ h.arena.lt.2 (by omega)).trans h.arena.words, h.arena.ne, h.arena.len⟩, h.ref.kept hG (by simp; omega) (by simp; omega), ?_, ?_, h.lo, u, h.ap, ?_, ?_, ?_⟩
  · intro i hi
    by_cases e : i = k
    · subst e; rw [put_same, put_same]; exact spk S' (by omega) (by omega)
    · rw [put_other e, put_other e]; exact spk (h.sps i (by omega)) (h.hi i (by omega)).1 (h.hi i (by omega)).2.1
  · intro i hi
    by_cases e : i = k
    · subst e; rw [put_same]; exact (far _ (Array.getElem?_eq_some_iff.1 X').1 (by omega)).trans X'
    · rw [put_other e]
      have := h.hi i (by omega)
      exact (far _ (Array.getElem?_eq_some_iff.1 (h.xs i (by omega))).1 (by omega)).trans (h.xs i (by omega))
  · intro i hi
    by_cases e : i = k
    · subst e; rw [put_same, put_same, put_same]; exact ⟨by omega, by omega, by omega, S'.sm, n1, n2⟩
    · rw [put_other e, put_other e, put_other e]; exact h.hi i (by omega)
  · intro h1
    have e1 : k = 1 := by omega
    subst e1
    have := hB 0 (by omega)
    rw [put_same, put_same, put_same, put_other (by omega), put_other (by omega), put_other (by omega)]
    omega
  · have b := h.bel
    exact ⟨hG.os.trans b.os, hG.tape.trans b.tape, hG.output.trans b.output, Nat.le_trans b.size hG.size, fun i hi => (far i (by have := b.size; omega) (by have := h.lo; omega)).trans (b.block i hi)⟩
end
theorem Wd.start {w0 W : World} {p pb a ab y yb c N : Nat} {f : Nat → Int} {ws : List Int} (M : Nat) (hP : Has 85 W p pb f N) (hA : Ar.Has 72 W a ab ws) (hR : Ref W y yb f N c)
    (lo : w0.heap.size ≤ p ∧ w0.heap.size ≤ pb ∧ w0.heap.size ≤ a ∧ w0.heap.size ≤ ab ∧ w0.heap.size ≤ y ∧ w0.heap.size ≤ yb)
    (ap : p ≠ a ∧ p ≠ ab ∧ pb ≠ a ∧ pb ≠ ab ∧ y ≠ p ∧ y ≠ pb ∧ y ≠ a ∧ y ≠ ab ∧ yb ≠ p ∧ yb ≠ pb ∧ yb ≠ a ∧ yb ≠ ab) (bel : Below w0.heap.size w0 W) :
    Wd w0 (W.alloc (.cells #[.pointer (some ⟨p, 0, none⟩), .pointer (some ⟨a, 0, none⟩), .pointer none, .pointer none, .pointer none, .pointer none] 39)) W.heap.size p pb a ab y yb c N f ws M (fun _ => 0) (fun _ => 0) (fun _ => 0) 0 := by
  have B : ∀ o, Below W.heap.size W (W.alloc o) := fun o => (Below.refl _ W).alloc (Nat.le_refl _) _
  exact ⟨heap_alloc_new _ _, hP.later (B _), ⟨((B _).block _ hA.lt.1).trans hA.box, ((B _).block _ hA.lt.2).trans hA.words, hA.ne, hA.len⟩, hR.later (B _), fun i hi => by omega, fun i hi => by omega, lo, ⟨hP.lt.1, hP.lt.2, hA.lt.1, hA.lt.2, hR.lt.1, hR.lt.2⟩, ap, fun i hi => by omega, fun h => by omega, bel.trans ((B _).mono bel.size)⟩
theorem ordA {w : World} {q i j : Nat} {cs : Array Value} {t : TypeId} (o : Obj) (u v : Value) (h : w.heap[q]? = some (.cells cs t (0, 0))) :
    ((((w.alloc o).setCell ⟨q, i, none⟩ u).setCell ⟨q, j, none⟩ v).drew).heap[q]? = some (.cells ((cs.setIfInBounds i u).setIfInBounds j v) t (0, 0)) ∧ (w.alloc o).grownBy (((w.alloc o).setCell ⟨q, i, none⟩ u).setCell ⟨q, j, none⟩ v).drew (some q) := by
  have lq := (Array.getElem?_eq_some_iff.1 h).1
  have h1 : (w.alloc o).heap[q]? = some (.cells cs t (0, 0)) := (Below.heap_alloc _ _ _ lq).trans h
  refine ⟨Joins.block_setCell (Joins.block_setCell h1 _) _, ⟨rfl, rfl, rfl, by simp, fun k hk hr => ?_⟩⟩
  have hkq : k ≠ q := fun e => hr (by rw [e])
  exact (Below.heap_setCell _ _ _ _ hkq).trans (Below.heap_setCell _ _ _ _ hkq)
theorem ordB {w : World} {q i j : Nat} {cs : Array Value} {t : TypeId} (o : Obj) (u v : Value) (h : w.heap[q]? = some (.cells cs t (0, 0))) :
    ((((w.setCell ⟨q, i, none⟩ u).alloc o).setCell ⟨q, j, none⟩ v).drew).heap[q]? = some (.cells ((cs.setIfInBounds i u).setIfInBounds j v) t (0, 0)) ∧ (w.alloc o).grownBy (((w.setCell ⟨q, i, none⟩ u).alloc o).setCell ⟨q, j, none⟩ v).drew (some q) := by
  have lq := (Array.getElem?_eq_some_iff.1 h).1
  have h1 : ((w.setCell ⟨q, i, none⟩ u).alloc o).heap[q]? = some (.cells (cs.setIfInBounds i u) t (0, 0)) := (Below.heap_alloc _ _ _ (by simpa using lq)).trans (Joins.block_setCell h _)
  refine ⟨Joins.block_setCell h1 _, ⟨rfl, rfl, rfl, by simp, fun k hk hr => ?_⟩⟩
  have hkq : k ≠ q := fun e => hr (by rw [e])
  refine (Below.heap_setCell _ _ _ _ hkq).trans ?_
  rw [World.size_alloc] at hk
  by_cases e : k = w.heap.size
  · subst e
    rw [heap_alloc_new]
    have := heap_alloc_new (w.setCell ⟨q, i, none⟩ u) o
    simpa using this
  · exact (Below.heap_alloc _ _ _ (by simp; omega)).trans ((Below.heap_setCell _ _ _ _ hkq).trans (Below.heap_alloc _ _ _ (by omega)).symm)
set_option maxRecDepth 100000 in
set_option maxHeartbeats 4000000 in
theorem made_any (w : World) (N M : Nat) (h1 : 1 ≤ N) (h2 : N ≤ 4096) (h3 : 1 ≤ M) (h4 : M ≤ 524288) :
    Calls Try.prog 8 #[.int .i64 (N : Int), .int .i64 (M : Int)] w fun e w' => ∃ q p pb a ab y yb c s m x, e = .returned (pt q) ∧ Wd w w' q p pb a ab y yb c N (f1 N) (List.replicate M 0) M s m x 2 := by
  have NP := new_ok N w h1 h2
  go_enter Try.func8, Try.ntmps8
  go_wp2_with (first
    | (go_at_call 19; refine NP.mono ?_; rintro e w1 ⟨rfl, P1, B1⟩; have NA := Ar.new_ok M w1 h3 h4; have l1 := P1.lt)
    | (go_at_call 20; refine NA.mono ?_; rintro e w2 ⟨rfl, A2, B2⟩; have l2 := A2.lt; have P2 := P1.later B2; have AL := alloc_any P2 1 (by decide); clear NP NA)
    | (go_at_call 25; refine AL.mono ?_; rintro e w3 ⟨rfl, P3, G3⟩; have sz3 := G3.size; have A3 := A2.chg (Chg.one (X := fun k => k = w.heap.size) G3 rfl) (by omega) (by omega); have NR := rnew_ok N w3 h1 h2; clear AL)
    | (go_at_call 26; refine NR.mono ?_; rintro e w4 ⟨rfl, ⟨yb, c, hyb, R4⟩, B4⟩; have l4 := R4.lt; have RA := ralloc_any R4 (good_new N) 1 (by decide); clear NR)
    | (go_at_call 27; refine RA.mono ?_; rintro e w5 ⟨rfl, R5, G5⟩; have sz5 := G5.size; clear RA))
  have P5 := (P3.later B4).kept G5 (by simp; omega) (by simp; omega)
  have A5 := (A3.chg (Chg.later (X := fun k => False) B4) (by simp) (by simp)).chg (Chg.one (X := fun k => k = yb) G5 rfl) (by omega) (by omega)
  have bel : Below w.heap.size w w5 := by
    have b2 : Below w.heap.size w w2 := B1.trans (B2.mono B1.size)
    have b3 : Below w.heap.size w w3 := grown_own b2 G3 (Nat.le_refl _)
    have b4 : Below w.heap.size w w4 := b3.trans (B4.mono b3.size)
    exact grown_own b4 G5 (by have := b3.size; omega)
  have s1 := B1.size
  have s2 := B2.size
  have s4 := B4.size
  have D0 := Wd.start (w0 := w) M P5 A5 R5 ⟨by omega, by omega, by omega, by omega, by omega, by omega⟩ ⟨by omega, by omega, by omega, by omega, by omega, by omega, by omega, by omega, by omega, by omega, by omega, by omega⟩ bel
  have D : Hid (∃ s m x, Wd w (w5.alloc (.cells #[.pointer (some ⟨w.heap.size + 1, 0, none⟩), .pointer (some ⟨w1.heap.size + 1, 0, none⟩), .pointer none, .pointer none, .pointer none, .pointer none] 39)) w5.heap.size (w.heap.size + 1) w.heap.size (w1.heap.size + 1) w1.heap.size w3.heap.size yb c N (f1 N) (List.replicate M 0) M s m x 0) := ⟨⟨_, _, _, D0⟩⟩
  clear D0 P5 A5 R5 P3 A3 A2 P1 P2 bel G3 G5 B1 B2 B4 sz3 sz5 s1 s2 s4 l1 l2 l4 hyb R4
  generalize w5.alloc (.cells #[.pointer (some ⟨w.heap.size + 1, 0, none⟩), .pointer (some ⟨w1.heap.size + 1, 0, none⟩), .pointer none, .pointer none, .pointer none, .pointer none] 39) = W0 at *
  generalize w5.heap.size = q at *
  generalize w.heap.size + 1 = p at *
  generalize w1.heap.size + 1 = a at *
  generalize w3.heap.size = y at *
  obtain ⟨pb, hpb⟩ : ∃ pb, pb = w.heap.size := ⟨_, rfl⟩
  obtain ⟨ab, hab⟩ : ∃ ab, ab = w1.heap.size := ⟨_, rfl⟩
  have D2 : Hid (∃ s m x, Wd w W0 q p pb a ab y yb c N (f1 N) (List.replicate M 0) M s m x 0) := by rw [hpb, hab]; exact D
  clear D hpb hab
  go_loopw [12] (fun i wr => ∃ k : Nat, k ≤ 2 ∧ i = .int .i64 (k : Int) ∧ Hid (∃ s m x, Wd w wr q p pb a ab y yb c N (f1 N) (List.replicate M 0) M s m x k)) (fun i _ => 2 - (intOf i).toNat)
  case atStart => exact ⟨0, by omega, rfl, D2⟩
  case round =>
    obtain ⟨k, hk, rfl, H⟩ := hrel
    clear D2
    by_cases hlt : k < 2
    · obtain ⟨s, m, x, D⟩ := H.out
      have NS := newS_ok wr p a
      have HD := Hid.mk D
      have ltq := D.ltq
      have hB : Hid (∀ i, i < k → s i < wr.heap.size ∧ m i < wr.heap.size ∧ x i < wr.heap.size) := ⟨fun i hi => ⟨(D.sps i hi).lt _ (.inl rfl), (D.sps i hi).lt _ (.inr (.inl rfl)), (Array.getElem?_eq_some_iff.1 (D.xs i hi)).1⟩⟩
      have bx := D.box
      clear D H
      obtain rfl | rfl : k = 0 ∨ k = 1 := by omega
      · simp only [spt] at bx
        go_wp2_with (go_at_call 21; refine NS.mono ?_; rintro e w6 ⟨s', m', rfl, hs', hm', S6, B6⟩)
        have D6 := Hid.mk (HD.out.later B6)
        have bx6 := (B6.block q ltq).trans bx
        have sz6 := B6.size
        have HS6 := Hid.mk S6
        have c2 : w6.cell? ⟨q, 2, none⟩ = some (.pointer none) := by rw [Joins.cell_of_block bx6]; simp
        have c4 : w6.cell? ⟨q, 4, none⟩ = some (.pointer none) := by rw [Joins.cell_of_block bx6]; simp
        have z2 : w6.frozen? ⟨q, 2, none⟩ = false := Joins.unfrozen_of_block bx6 _
        have z4 : w6.frozen? ⟨q, 4, none⟩ = false := Joins.unfrozen_of_block bx6 _
        have c2a : ∀ o, (w6.alloc o).cell? ⟨q, 2, none⟩ = some (.pointer none) := fun o => Lib.cell?_alloc_some _ c2
        have c4a : ∀ o, (w6.alloc o).cell? ⟨q, 4, none⟩ = some (.pointer none) := fun o => Lib.cell?_alloc_some _ c4
        have z2a : ∀ o, (w6.alloc o).frozen? ⟨q, 2, none⟩ = false := fun o => thaw_alloc o c2 z2
        have z4a : ∀ o, (w6.alloc o).frozen? ⟨q, 4, none⟩ = false := fun o => thaw_alloc o c4 z4
        have c4b : ∀ u, (w6.setCell ⟨q, 2, none⟩ u).cell? ⟨q, 4, none⟩ = some (.pointer none) := fun u => by rw [Joins.cell_of_block (Joins.block_setCell bx6 u)]; simp
        have z4b : ∀ u, (w6.setCell ⟨q, 2, none⟩ u).frozen? ⟨q, 4, none⟩ = false := fun u => by rw [World.frozen?_setCell]; exact z4
        have c4c : ∀ u o, ((w6.setCell ⟨q, 2, none⟩ u).alloc o).cell? ⟨q, 4, none⟩ = some (.pointer none) := fun u o => Lib.cell?_alloc_some _ (c4b u)
        have z4c : ∀ u o, ((w6.setCell ⟨q, 2, none⟩ u).alloc o).frozen? ⟨q, 4, none⟩ = false := fun u o => thaw_alloc o (c4b u) (z4b u)
        have HB6 := Hid.mk B6
        have Hbx := Hid.mk bx6
        have al := (Below.refl _ w6).alloc (Nat.le_refl _) (Obj.cells #[.pointer (some ⟨y, 0, none⟩), .int .i64 (M : Int), .slice none 0 0, .int .i64 0, .slice none 0 0, .slice none 0 0, .int .i64 0, .int .i64 0] 67)
        have SP := S6.later al
        have HBB : ∀ i, i < 0 → s i < wr.heap.size ∧ m i < wr.heap.size ∧ x i < wr.heap.size := hB.out
        have sl := S6.lt s' (.inl rfl)
        have ml := S6.lt m' (.inr (.inl rfl))
        have oA := ordA (i := 2) (j := 4) (Obj.cells #[.pointer (some ⟨y, 0, none⟩), .int .i64 (M : Int), .slice none 0 0, .int .i64 0, .slice none 0 0, .slice none 0 0, .int .i64 0, .int .i64 0] 67) (.pointer (some ⟨s', 0, none⟩)) (.pointer (some ⟨w6.heap.size, 0, none⟩)) bx6
        have oB := ordB (i := 2) (j := 4) (Obj.cells #[.pointer (some ⟨y, 0, none⟩), .int .i64 (M : Int), .slice none 0 0, .int .i64 0, .slice none 0 0, .slice none 0 0, .int .i64 0, .int .i64 0] 67) (.pointer (some ⟨s', 0, none⟩)) (.pointer (some ⟨w6.heap.size, 0, none⟩)) bx6
        have HA := Hid.mk ((D6.out.later al).next (by omega) (B := wr.heap.size) HBB (by omega) hs' hm' (by omega) (by omega) (by omega) SP (heap_alloc_new _ _) (oA.1.trans (by simp [spt, put, pt])) oA.2)
        have HBo := Hid.mk ((D6.out.later al).next (by omega) (B := wr.heap.size) HBB (by omega) hs' hm' (by omega) (by omega) (by omega) SP (heap_alloc_new _ _) (oB.1.trans (by simp [spt, put, pt])) oB.2)
        clear S6 bx6 B6 bx HD al SP HBB sl ml oA oB
        go_region
        · go_wp2
          go_roundw
          case rel => exact ⟨1, by omega, by go_num, ⟨⟨_, _, _, HA.out⟩⟩⟩
          case measure => simp [intOf]
        · go_wp2
          go_roundw
          case rel => exact ⟨1, by omega, by go_num, ⟨⟨_, _, _, HBo.out⟩⟩⟩
          case measure => simp [intOf]
      · simp only [spt] at bx
        go_wp2_with (go_at_call 21; refine NS.mono ?_; rintro e w6 ⟨s', m', rfl, hs', hm', S6, B6⟩)
        have D6 := Hid.mk (HD.out.later B6)
        have bx6 := (B6.block q ltq).trans bx
        have sz6 := B6.size
        have HS6 := Hid.mk S6
        have c2 : w6.cell? ⟨q, 3, none⟩ = some (.pointer none) := by rw [Joins.cell_of_block bx6]; simp
        have c4 : w6.cell? ⟨q, 5, none⟩ = some (.pointer none) := by rw [Joins.cell_of_block bx6]; simp
        have z2 : w6.frozen? ⟨q, 3, none⟩ = false := Joins.unfrozen_of_block bx6 _
        have z4 : w6.frozen? ⟨q, 5, none⟩ = false := Joins.unfrozen_of_block bx6 _
        have c2a : ∀ o, (w6.alloc o).cell? ⟨q, 3, none⟩ = some (.pointer none) := fun o => Lib.cell?_alloc_some _ c2
        have c4a : ∀ o, (w6.alloc o).cell? ⟨q, 5, none⟩ = some (.pointer none) := fun o => Lib.cell?_alloc_some _ c4
        have z2a : ∀ o, (w6.alloc o).frozen? ⟨q, 3, none⟩ = false := fun o => thaw_alloc o c2 z2
        have z4a : ∀ o, (w6.alloc o).frozen? ⟨q, 5, none⟩ = false := fun o => thaw_alloc o c4 z4
        have c4b : ∀ u, (w6.setCell ⟨q, 3, none⟩ u).cell? ⟨q, 5, none⟩ = some (.pointer none) := fun u => by rw [Joins.cell_of_block (Joins.block_setCell bx6 u)]; simp
        have z4b : ∀ u, (w6.setCell ⟨q, 3, none⟩ u).frozen? ⟨q, 5, none⟩ = false := fun u => by rw [World.frozen?_setCell]; exact z4
        have c4c : ∀ u o, ((w6.setCell ⟨q, 3, none⟩ u).alloc o).cell? ⟨q, 5, none⟩ = some (.pointer none) := fun u o => Lib.cell?_alloc_some _ (c4b u)
        have z4c : ∀ u o, ((w6.setCell ⟨q, 3, none⟩ u).alloc o).frozen? ⟨q, 5, none⟩ = false := fun u o => thaw_alloc o (c4b u) (z4b u)
        have HB6 := Hid.mk B6
        have Hbx := Hid.mk bx6
        have al := (Below.refl _ w6).alloc (Nat.le_refl _) (Obj.cells #[.pointer (some ⟨y, 0, none⟩), .int .i64 (M : Int), .slice none 0 0, .int .i64 0, .slice none 0 0, .slice none 0 0, .int .i64 0, .int .i64 0] 67)
        have SP := S6.later al
        have HBB : ∀ i, i < 1 → s i < wr.heap.size ∧ m i < wr.heap.size ∧ x i < wr.heap.size := hB.out
        have sl := S6.lt s' (.inl rfl)
        have ml := S6.lt m' (.inr (.inl rfl))
        have oA := ordA (i := 3) (j := 5) (Obj.cells #[.pointer (some ⟨y, 0, none⟩), .int .i64 (M : Int), .slice none 0 0, .int .i64 0, .slice none 0 0, .slice none 0 0, .int .i64 0, .int .i64 0] 67) (.pointer (some ⟨s', 0, none⟩)) (.pointer (some ⟨w6.heap.size, 0, none⟩)) bx6
        have oB := ordB (i := 3) (j := 5) (Obj.cells #[.pointer (some ⟨y, 0, none⟩), .int .i64 (M : Int), .slice none 0 0, .int .i64 0, .slice none 0 0, .slice none 0 0, .int .i64 0, .int .i64 0] 67) (.pointer (some ⟨s', 0, none⟩)) (.pointer (some ⟨w6.heap.size, 0, none⟩)) bx6
        have HA := Hid.mk ((D6.out.later al).next (by omega) (B := wr.heap.size) HBB (by omega) hs' hm' (by omega) (by omega) (by omega) SP (heap_alloc_new _ _) (oA.1.trans (by simp [spt, put, pt])) oA.2)
        have HBo := Hid.mk ((D6.out.later al).next (by omega) (B := wr.heap.size) HBB (by omega) hs' hm' (by omega) (by omega) (by omega) SP (heap_alloc_new _ _) (oB.1.trans (by simp [spt, put, pt])) oB.2)
        clear S6 bx6 B6 bx HD al SP HBB sl ml oA oB
        go_region
        · go_wp2
          go_roundw
          case rel => exact ⟨2, by omega, by go_num, ⟨⟨_, _, _, HA.out⟩⟩⟩
          case measure => simp [intOf]
        · go_wp2
          go_roundw
          case rel => exact ⟨2, by omega, by go_num, ⟨⟨_, _, _, HBo.out⟩⟩⟩
          case measure => simp [intOf]
    · obtain rfl : k = 2 := by omega
      obtain ⟨s, m, x, D⟩ := H.out
      go_wp2
      go_ret
      exact ⟨q, p, pb, a, ab, y, yb, c, s, m, x, rfl, D⟩
end Go.Proofs.Ytcallmfdigfhnaa
