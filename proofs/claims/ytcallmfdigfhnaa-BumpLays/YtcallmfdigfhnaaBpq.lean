/- The document's own Lay. -/
import Derived.Test.YtcallmfdigfhnaaBpp
namespace Go.Proofs.Ytcallmfdigfhnaa
open Go.RowKit
set_option linter.unusedVariables false
set_option linter.unusedSimpArgs false

theorem nb5 (w : World) (a : Addr) (v : Value) (o : Obj) : ((w.setCell a v).alloc o).heap[w.heap.size]? = some o := by
  have := heap_alloc_new (w.setCell a v) o
  simpa using this
theorem Rh.drew {w0 W : World} {x y M : Nat} {r0 r : Nat → Value} {L : Nat → List Int} {bl nx en : Nat} (h : Rh w0 W x y M r0 r L bl nx en) : Rh w0 W.drew x y M r0 r L bl nx en :=
  ⟨h.box, fun i hi => ownsRow_same (h.row i hi) (fun _ _ => rfl), h.nox, h.ap, h.old, ⟨h.chg.os, h.chg.tape, h.chg.output, h.chg.size, h.chg.block⟩⟩
def lsI (l : List (Nat × Nat)) : Nat → List Int := fun i => match i with | 0 => grp l | 1 => fsI l | 2 => nsI l | _ => []
def Rs (w : World) (x y M : Nat) (r : Nat → Value) (S : S0) : Prop := Rh w w x y M r r (lsI S.l) S.bl S.nx (S.nx + lft S.nx)
def updV3 (r : Nat → Value) (i : Nat) (v : Value) : Nat → Value := fun k => if k = i then v else r k
def updL3 (L : Nat → List Int) (i : Nat) (z : Int) : Nat → List Int := fun k => if k = i then L i ++ [z] else L k
theorem updV3_same (r : Nat → Value) (i : Nat) (v : Value) : updV3 r i v i = v := by simp [updV3]
theorem updV3_ne (r : Nat → Value) (i : Nat) (v : Value) : ∀ k, k ≠ i → updV3 r i v k = r k := fun k h => by simp [updV3, h]
theorem updL3_same (L : Nat → List Int) (i : Nat) (z : Int) : updL3 L i z i = L i ++ [z] := by simp [updL3]
theorem updL3_ne (L : Nat → List Int) (i : Nat) (z : Int) : ∀ k, k ≠ i → updL3 L i z k = L k := fun k h => by simp [updL3, h]
theorem Rh.far {w0 W w1 : World} {x y M : Nat} {r0 r : Nat → Value} {L : Nat → List Int} {bl nx en : Nat} (h : Rh w0 W x y M r0 r L bl nx en) {i : Nat} (hi : i < 3) {o : Obj} (G : (W.alloc o).grownBy w1 (r i).ownBlock) : w1.heap[x]? = W.heap[x]? :=
  (G.block x (by have := h.ltx; simp; omega) (fun e => h.nox ⟨i, hi, e.symm⟩)).trans (Below.heap_alloc _ _ _ h.ltx)
/-- the list at place 1 is longer by one -/
theorem Rh.more1 {w0 W w1 : World} {x y M : Nat} {r0 r : Nat → Value} {L : Nat → List Int} {bl nx en : Nat} (h : Rh w0 W x y M r0 r L bl nx en) {o : Obj} {q n cap : Nat} {z : Int} (G : (W.alloc o).grownBy w1 (r 1).ownBlock) (hat : (r 1).ownBlock = some q ∨ q = (W.alloc o).heap.size) (hn : n = (L 1).length)
    (hown : w1.ownsRow 0 3 1 (.slice (some ⟨q, 0, none⟩) (n + 1) cap) (n + 1) (ints (L 1) ++ [.int .i64 z])) : Rh w0 (w1.setCell ⟨x, 4, none⟩ (.slice (some ⟨q, 0, none⟩) (n + 1) cap)) x y M r0 (updV3 r 1 (.slice (some ⟨q, 0, none⟩) (n + 1) cap)) (updL3 L 1 z) bl nx en := by
  subst hn
  refine h.more 1 (by omega) G ?_ hown 4 _ _ (updV3_same _ _ _) (updV3_ne _ _ _) (updL3_same _ _ _) (updL3_ne _ _ _) (by simp [updV3])
  rcases hat with e | e
  · exact .inl (by rw [e]; rfl)
  · exact .inr ⟨q, rfl, by rw [e]; simp⟩
theorem Rh.more2 {w0 W w1 : World} {x y M : Nat} {r0 r : Nat → Value} {L : Nat → List Int} {bl nx en : Nat} (h : Rh w0 W x y M r0 r L bl nx en) {o : Obj} {q n cap : Nat} {z : Int} (G : (W.alloc o).grownBy w1 (r 2).ownBlock) (hat : (r 2).ownBlock = some q ∨ q = (W.alloc o).heap.size) (hn : n = (L 2).length)
    (hown : w1.ownsRow 0 3 1 (.slice (some ⟨q, 0, none⟩) (n + 1) cap) (n + 1) (ints (L 2) ++ [.int .i64 z])) : Rh w0 (w1.setCell ⟨x, 5, none⟩ (.slice (some ⟨q, 0, none⟩) (n + 1) cap)) x y M r0 (updV3 r 2 (.slice (some ⟨q, 0, none⟩) (n + 1) cap)) (updL3 L 2 z) bl nx en := by
  subst hn
  refine h.more 2 (by omega) G ?_ hown 5 _ _ (updV3_same _ _ _) (updV3_ne _ _ _) (updL3_same _ _ _) (updL3_ne _ _ _) (by simp [updV3])
  rcases hat with e | e
  · exact .inl (by rw [e]; rfl)
  · exact .inr ⟨q, rfl, by rw [e]; simp⟩
theorem Rh.more0 {w0 W w1 : World} {x y M : Nat} {r0 r : Nat → Value} {L : Nat → List Int} {bl nx en : Nat} (h : Rh w0 W x y M r0 r L bl nx en) {o : Obj} {q n cap : Nat} {z : Int} (G : (W.alloc o).grownBy w1 (r 0).ownBlock) (hat : (r 0).ownBlock = some q ∨ q = (W.alloc o).heap.size) (hn : n = (L 0).length)
    (hown : w1.ownsRow 0 3 1 (.slice (some ⟨q, 0, none⟩) (n + 1) cap) (n + 1) (ints (L 0) ++ [.int .i64 z])) : Rh w0 (w1.setCell ⟨x, 2, none⟩ (.slice (some ⟨q, 0, none⟩) (n + 1) cap)) x y M r0 (updV3 r 0 (.slice (some ⟨q, 0, none⟩) (n + 1) cap)) (updL3 L 0 z) bl nx en := by
  subst hn
  refine h.more 0 (by omega) G ?_ hown 2 _ _ (updV3_same _ _ _) (updV3_ne _ _ _) (updL3_same _ _ _) (updL3_ne _ _ _) (by simp [updV3])
  rcases hat with e | e
  · exact .inl (by rw [e]; rfl)
  · exact .inr ⟨q, rfl, by rw [e]; simp⟩
set_option maxRecDepth 100000 in
set_option maxHeartbeats 4000000 in
/-- In the block that is laid in. -/
theorem rlay_in {w : World} {x y M : Nat} {r : Nat → Value} {S : S0} (h : Rs w x y M r S) (hl : S.l.length ≤ 1000) (hnx : S.nx ≤ 1048576) (n : Nat) (h1 : 1 ≤ n) (h2 : n ≤ lft S.nx) :
    Calls Try.prog 28 #[.pointer (some ⟨x, 0, none⟩), .int .i64 (n : Int)] w fun e w' => e = .returned (.tuple #[.int .i64 (S.nx : Int), .int .i64 0]) ∧ ∃ r', Rh w w' x y M r r' (lsI (S.add S.nx n).l) (S.add S.nx n).bl (S.add S.nx n).nx ((S.add S.nx n).nx + lft (S.add S.nx n).nx) := by
  have l64 := lft_lt S.nx
  have nm : ¬ S.nx % 64 = 0 := by intro q; unfold lft blk at h2; omega
  have lf : lft (S.nx + n) = lft S.nx - n := by unfold lft blk at *; omega
  have HE : Hid ((S.add S.nx n).bl = S.bl ∧ (S.add S.nx n).nx = S.nx + n ∧ S.nx + n + lft (S.nx + n) = S.nx + lft S.nx) := ⟨⟨by simp [S0.add, nm], by simp only [S0.add]; rw [if_pos (by omega)], by omega⟩⟩
  have HL : Hid (lsI (S.add S.nx n).l = updL3 (updL3 (lsI S.l) 1 (S.nx : Int)) 2 (n : Int)) := ⟨by
    funext i
    match i with
    | 0 => simp [updL3, lsI, S0.add, grp_snoc, nm]
    | 1 => simp [updL3, lsI, S0.add, fsI_snoc]
    | 2 => simp [updL3, lsI, S0.add, nsI_snoc]
    | i + 3 => simp [updL3, lsI, S0.add]⟩
  unfold Rs at h
  obtain ⟨en, hen⟩ : ∃ en, S.nx + lft S.nx = en := ⟨_, rfl⟩
  rw [hen] at h
  have HEN := Hid.mk hen
  have R1 := h.drew
  obtain ⟨c0, c1, c2, c3, c4, c5, c6, c7⟩ := h.cells
  obtain ⟨i0, hi0, hz0, hz1, hz2⟩ := info_parts info3
  have Hlen : Hid ((lsI S.l 1).length ≤ 1000 ∧ (lsI S.l 2).length ≤ 1000) := ⟨by simp [lsI, fsI, nsI]; omega⟩
  obtain ⟨X, hX⟩ : ∃ X, S.nx = X := ⟨_, rfl⟩
  rw [hX] at R1 c6 hnx HEN
  have y1 : ¬ ((en : Int) - X < n) := by have := HEN.out; rw [hX] at h2; omega
  have y2 : (en : Int) ≤ 2000000 := by have := HEN.out; rw [hX] at l64; omega
  have y3 : (X : Int) ≤ en := by have := HEN.out; omega
  have y4 : (n : Int) ≤ 64 := by omega
  have HX := Hid.mk hX
  have HR1 := Hid.mk R1
  clear R1 h hen hX
  rw [HX.out]
  go_enter Try.func28, Try.ntmps28
  go_wp2
  go_region
  generalize w.drew = W1 at *
  have R2 := HR1.out.set (nx' := X + n) (bl' := S.bl) (en' := en) 6 (.int .i64 ((X : Int) + n)) (by simp)
  obtain ⟨g0, g1, g2, g3', g4, g5, g6, g7⟩ := HR1.out.cells
  have gz := HR1.out.zf 6
  have HR2 := Hid.mk R2
  obtain ⟨d0, d1, d2, d3, d4, d5, d6, d7⟩ := R2.cells
  clear R2 d0 d1 d2 d3 d6 d7 c0 c1 c2 c3 c4 c5 c6 c7
  have yb : decide ((en : Int) - X < n) = false := by simp; omega
  go_upto_region 20 with (fail)
  generalize W1.setCell ⟨x, 6, none⟩ (.int .i64 ((X : Int) + n)) = W2 at *
  clear g0 g1 g2 g3' g4 g5 g6 g7 gz HR1
  go_wp2_with (first
    | (at_builtin; refine wpList_append_lies _ rfl (.tmp 104) (.tmp 106) 42 rfl 0 3 i0 (.int .i64 0) 1 8 Try.underlying42 hi0 hz0 hz1 hz2 rfl (by decide) (r 1) _ _ rfl ((HR2.out.row 1 (by omega)).kept (g3 _ _) (Classical.em _)) ⟨_, 0, none⟩ 1 1 [.int .i64 (X : Int)] rfl rfl (news_one (nb4 _ _)) (by simp [Value.oneCell']) (by decide) (by unfold maxLen; have := Hlen.out.1; omega) (by have := Hlen.out.1; omega) (Nat.zero_le _) _ rfl ?_; intro q1 cap1 w1 ho1 hg1 hat1 hlt1; have e1 := HR2.out.far (i := 1) (by omega) hg1; have a4 : w1.cell? ⟨x, 4, none⟩ = some (r 1) := (World.cell?_of_block (w := W2) (a := ⟨x, 4, none⟩) e1).trans d4; have a5 : w1.frozen? ⟨x, 4, none⟩ = false := (World.frozen?_of_block (w := W2) (a := ⟨x, 4, none⟩) e1).trans (HR2.out.zf 4); have R3 := HR2.out.more1 hg1 hat1 rfl ho1; have HR3 := Hid.mk R3; obtain ⟨f0, f1, f2, f3, f4, f5, f6, f7⟩ := R3.cells; have f8 := R3.zf 5; have HW2 := Hid.mk (show (w1.setCell ⟨x, 4, none⟩ (.slice (some ⟨q1, 0, none⟩) ((lsI S.l 1).length + 1) cap1)).ownsRow 0 3 1 (r 2) (lsI S.l 2).length (ints (lsI S.l 2)) from R3.row 2 (by omega)); clear R3 ho1 hg1 hat1 hlt1 f0 f1 f2 f3 f4 f6 f7; simp only [updV3_ne r 1 _ 2 (by omega)] at f5)
    | (at_builtin; refine wpList_append_lies _ rfl (.tmp 114) (.tmp 116) 42 rfl 0 3 i0 (.int .i64 0) 1 8 Try.underlying42 hi0 hz0 hz1 hz2 rfl (by decide) (r 2) _ _ rfl (HW2.out.kept (g3 _ _) (Classical.em _)) ⟨_, 0, none⟩ 1 1 [.int .i64 (n : Int)] rfl rfl (news_one (nb5 _ _ _ _)) (by simp [Value.oneCell']) (by decide) (by unfold maxLen; have := Hlen.out.2; omega) (by have := Hlen.out.2; omega) (Nat.zero_le _) _ rfl ?_; intro q2 cap2 w3 ho2 hg2 hat2 hlt2; have e2 := HR3.out.far (i := 2) (by omega) hg2; have b5 : w3.cell? ⟨x, 5, none⟩ = some (r 2) := (World.cell?_of_block (w := _) (a := ⟨x, 5, none⟩) e2).trans f5; have b6 : w3.frozen? ⟨x, 5, none⟩ = false := (World.frozen?_of_block (w := _) (a := ⟨x, 5, none⟩) e2).trans f8; have HR4 := Hid.mk (HR3.out.more2 hg2 hat2 rfl ho2); clear ho2 hg2 hat2 hlt2))
  go_ret2
  obtain ⟨r4, h4⟩ : ∃ r4, Rh w _ x y M r r4 _ _ _ _ := ⟨_, HR4.out⟩
  have L4 := HL.out
  obtain ⟨E1, E2, E3⟩ := HE.out
  rw [HX.out] at L4 E1 E2 E3
  have E4 : X + n + lft (X + n) = en := E3.trans HEN.out
  refine ⟨rfl, r4, ?_⟩
  rw [L4, E1, E2, E4]
  exact h4
end Go.Proofs.Ytcallmfdigfhnaa
