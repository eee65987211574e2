/- Package heap: what a move does, piece by piece. -/
import Derived.Test.YtbdoekffadmejaaGreatDoorHmr
import Derived.Test.YtbdoekffadmejaaGreatDoorArm
namespace Go.Proofs.YtbdoekffadmejaaGreatDoor
open Go.RowKit
set_option linter.unusedVariables false
set_option linter.unusedSimpArgs false
set_option maxRecDepth 100000

theorem move_len (xs : List Int) (t f k : Int) : (Bp.Ar.moveL xs t f k).length = xs.length := by
  unfold Bp.Ar.moveL
  split
  · rename_i e
    unfold Bp.Ar.moveE at e
    split at e
    · omega
    · split at e
      · rename_i h1 h2
        have a := h2.1
        have b := h2.2
        unfold Bp.Ar.within at a b
        simp only [decide_eq_true_eq] at a b
        exact length_splice _ _ _ (by simp; omega)
      · omega
  · rfl
theorem move_in {xs : List Int} (h : ∀ x ∈ xs, 0 ≤ x ∧ x ≤ 18446744073709551615) (t f k : Int) : ∀ x ∈ Bp.Ar.moveL xs t f k, 0 ≤ x ∧ x ≤ 18446744073709551615 := by
  unfold Bp.Ar.moveL
  split
  · exact splice_in h (fun x hx => h x (List.mem_of_mem_drop (List.mem_of_mem_take hx)))
  · exact h
/-- How many words a closure has. -/
def szW (xs : List Int) (x : Int) : Int := Sh.sizeN (Wo.unK (Bp.Ar.readW xs x)) (Wo.unI (Bp.Ar.readW xs x)) (Wo.unP (Bp.Ar.readW xs x)) (Wo.unN (Bp.Ar.readW xs x))
section
variable {w w' : World} {γ γ' : Nat → Tg} {h : Nat} {k : Value} {A : Ad} {H : Hs} {B : Wa} {K : Wk}
theorem move_hm (q : Hm w γ h k A H) (t f n : Int) (ht : t ≤ 9223372036854775807) (hf : f ≤ 9223372036854775807) : Calls Tryz.prog 123 #[pt A.a, .int .i64 t, .int .i64 f, .int .i64 n] w fun e w' => (∃ z, e = .returned (.int .i64 z)) ∧ Hm w' γ h k A { H with xs := Bp.Ar.moveL H.xs t f n } ∧ Fr tar w w' γ γ := by
  obtain ⟨ab, hA, t1, t2⟩ := q.ar
  refine (Bp.Ar.move_any hA t f n ht hf).mono ?_
  rintro e w' ⟨rfl, h2, g⟩
  have F : Fr tar w w' γ γ := Fr.one g t2
  exact ⟨⟨_, rfl⟩, q.words ⟨ab, h2, t1, t2⟩ F (move_len _ _ _ _) (move_in q.word _ _ _), F⟩
/-- The words alone turn. -/
theorem Wm.words (q : Wm w γ h A H B K) {xs : List Int} (Q : Hm w' γ h (pt B.kb) A { H with xs := xs }) (F : Fr tar w w' γ γ) : Wm w' γ h A { H with xs := xs } B K :=
  ⟨Q, q.km.fr' F nofun nofun nofun nofun nofun nofun nofun (fun s hs => ⟨nofun, nofun, nofun⟩), q.ap⟩
theorem move_wk (q : Wm w γ h A H B K) (t f n : Int) (ht : t ≤ 9223372036854775807) (hf : f ≤ 9223372036854775807) : Calls Tryz.prog 123 #[pt A.a, .int .i64 t, .int .i64 f, .int .i64 n] w fun e w' => (∃ z, e = .returned (.int .i64 z)) ∧ Wm w' γ h A { H with xs := Bp.Ar.moveL H.xs t f n } B K ∧ Fr tar w w' γ γ := by
  refine (move_hm q.hm t f n ht hf).mono ?_
  rintro e w' ⟨z, Q, F⟩
  exact ⟨z, q.words Q F, F⟩
theorem write_wk (q : Wm w γ h A H B K) (i v : Int) (hv : 0 ≤ v ∧ v ≤ 18446744073709551615) : Calls Tryz.prog 64 #[pt A.a, .int .i64 i, .int .u64 v] w fun e w' => (∃ z, e = .returned (.int .i64 z)) ∧ Wm w' γ h A { H with xs := Bp.Ar.writeL H.xs i v } B K ∧ Fr tar w w' γ γ := by
  refine (write_hm q.hm i v hv).mono ?_
  rintro e w' ⟨z, Q, F⟩
  exact ⟨z, q.words Q F, F⟩
/-- What turns where room is found stays clear of the collection's spaces. -/
theorem Wm.clear {T : Tg → Prop} (q : Wm w γ h A H B K) {g s : Nat} (hg : g < H.c.g) (hs : s < H.c.n g) (F : Fr T w w' γ γ') (t : ∀ u, T u → Tm (A.σ g s) u) : Km w' γ' H.c A.p A.a B K := by
  have ap := q.ap g s hg hs
  have nt : ∀ u, ¬ Tm (A.σ g s) u → ¬ T u := fun u k e => k (t u e)
  refine q.km.fr' F (nt _ ?_) (nt _ ?_) (nt _ ?_) (nt _ ?_) (nt _ ?_) (nt _ ?_) (nt _ ?_) (fun s' hs' => ⟨nt _ ?_, nt _ ?_, nt _ ?_⟩)
  all_goals (rintro ((e | e | e | e | e) | e) <;> cases e)
  all_goals exact ap hs'
theorem room_wk (q : Wm w γ h A H B K) {g s : Nat} (hg : g < H.c.g) (hs : s < H.c.n g) (hl : (H.sp g s).l.length ≤ 1000) (n : Int) (hE : H.layE g s n = 0) (hn0 : A.wn ≤ 1000000) :
    Calls Tryz.prog 60 #[pt h, plc (g, s), .int .i64 n] w fun e w' => e = .returned (.tuple #[.int .i64 (H.layA g s n), .int .i64 0]) ∧ ∃ γ', Fr hTn w w' γ γ' ∧ Wm w' γ' h A.more (H.placed g s n) B K := by
  refine (room_ok q.hm hg hs hl n hE hn0).mono ?_
  rintro e w' ⟨rfl, γ', F, Q⟩
  exact ⟨rfl, γ', F.mono (fun t e => tm_hTn e), Q, q.clear hg hs F (fun u e => e), q.ap⟩
abbrev tkf (t : Tg) : Prop := t = .kb ∨ t = .kf
/-- A closure more was laid. -/
theorem Km.laid {c : Cf} {p a : Nat} (q : Km w γ c p a B K) {w1 : World} {v' : Value} {x : Int}
    (r : w1.ownsRow 0 3 1 v' (K.fresh.length + 1) (ints K.fresh ++ [.int .i64 x])) (G : w.grownBy w1 B.fv.ownBlock) (O : v'.ownBlock = B.fv.ownBlock ∨ v'.ownBlock = some w.heap.size) :
    ∃ γ', (∀ k, k < w.heap.size → γ' k = γ k) ∧ Fr tkf w (w1.setCell ⟨B.kb, 2, none⟩ v') γ γ' ∧ Km (w1.setCell ⟨B.kb, 2, none⟩ v') γ' c p a { B with fv := v' } { K with fresh := K.fresh ++ [x] } := by
  let γ' : Nat → Tg := fun k => if w.heap.size ≤ k then .kf else γ k
  have old : ∀ k, k < w.heap.size → γ' k = γ k := fun k hk => if_neg (by omega)
  have F1a : Fr tkf w w1 γ γ := ⟨G.os, G.tape, G.output, G.size, fun _ _ => rfl, fun k hk hx => G.block k hk (fun e => hx (.inr (q.frT k e.symm)))⟩
  have kbl := lt_of q.box
  have F2 : Fr tkf w1 (w1.setCell ⟨B.kb, 2, none⟩ v') γ γ := Fr.one (grown_cell _ _ _ _) (.inl q.tag)
  have F := (F1a.trans F2).retag old
  have bk : w1.heap[B.kb]? = w.heap[B.kb]? := G.block _ kbl (fun e => by have := q.frT _ e.symm; rw [q.tag] at this; cases this)
  have vk : ∀ k, v'.ownBlock = some k → k ≠ B.kb := by
    rintro k e rfl
    obtain ⟨cs, hb⟩ := own_kind r e
    rw [bk, q.box] at hb
    simp only [Option.some.injEq, Obj.cells.injEq] at hb
    exact absurd hb.2.1 (by decide)
  refine ⟨γ', old, F, {
    box := (Joins.block_setCell (bk.trans q.box) _).trans (by simp)
    tag := (old _ kbl).trans q.tag
    row := Bp.ownsRow_same q.row (fun k e => F.block k (q.row.lt k e).2 (by rw [q.rowT k e]; nofun))
    rowT := fun k e => F.tg (q.row.lt k e).2 (q.rowT k e)
    len := q.len
    sps := fun i hi => (q.sps i hi).fr F nofun nofun nofun
    nd := q.nd
    fit := q.fit
    av := q.av.fr F (by rw [q.avT]; nofun)
    avT := F.tg q.av.lt q.avT
    fr := ?_
    frT := ?_
    told := by have := q.told; show K.told ≤ (K.fresh ++ [x]).length; simp; omega
    late := q.late.fr F nofun nofun nofun
    dom := q.dom }⟩
  · have e : ints (K.fresh ++ [x]) = ints K.fresh ++ [.int .i64 x] := by simp [ints]
    simp only [e, List.length_append, List.length_singleton]
    exact Bp.ownsRow_same r (fun b e => Below.heap_setCell _ _ _ _ (vk b e))
  · intro k e
    rcases O with o | o
    · rw [o] at e
      exact (old k (q.fr.lt k e).2).trans (q.frT k e)
    · rw [o] at e; cases e
      exact if_pos (Nat.le_refl _)
end
theorem info3 : (Tryz.prog.info? 3).map (fun i => (i.zero, i.size, i.bytes)) = some (some (.int .i64 0), 1, 8) := by kernel_rfl
end Go.Proofs.YtbdoekffadmejaaGreatDoor
